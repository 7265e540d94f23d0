/- Contracts of the small functions of package fixed and of the page's own. -/
import Derived.Test.YtekiknngiefkbaaRows
import Derived.WalkKit
import Derived.WalkSpells
import Derived.WalkLawsBesides
import Derived.Lib.Hide
import Derived.IntWalk
namespace Go.Proofs.Ytekiknngiefkbaa
open Go.RowKit

/-- a coordinate -/
def coordB (a : Int) : Bool := decide (-1099511627776 ≤ a ∧ a ≤ 1099511627776)
def satI (a : Int) : Int := if a < -1099511627776 then -1099511627776 else if 1099511627776 < a then 1099511627776 else a

set_option maxHeartbeats 400000 in
theorem check_yes (a : Int) (w : World) (h : coordB a = true) :
    Calls Try.prog 30 #[.int .i64 a] w fun e w' => e = .returned (.int .i64 0) ∧ w = w' := by
  simp [coordB] at h
  obtain ⟨h1, h2⟩ := h
  have g1 : ¬ a < -1099511627776 := by omega
  have g2 : ¬ 1099511627776 < a := by omega
  go_enter Try.func30, Try.ntmps30
  go_wp2
  go_ret
  exact ⟨rfl, rfl⟩

set_option maxHeartbeats 400000 in
theorem check_no (a : Int) (w : World) (h : coordB a = false) :
    Calls Try.prog 30 #[.int .i64 a] w fun e w' => e = .returned (.int .i64 1) ∧ w = w' := by
  simp [coordB] at h
  by_cases g1 : a < -1099511627776
  · clear h
    go_enter Try.func30, Try.ntmps30
    go_wp2
    go_ret
    exact ⟨rfl, rfl⟩
  · have g2 : 1099511627776 < a := by omega
    clear h
    go_enter Try.func30, Try.ntmps30
    go_wp2
    go_ret
    exact ⟨rfl, rfl⟩

theorem ret_int {k : IntKind} {a b : Int} (h : a = b) : Ending.returned (.int k a) = .returned (.int k b) := by rw [h]
theorem ret_bool {a b : Bool} (h : a = b) : Ending.returned (.bool a) = .returned (.bool b) := by rw [h]

theorem all_snoc (zs : List Int) (k : Nat) (h : k < zs.length) : (zs.take (k + 1)).all coordB = ((zs.take k).all coordB && coordB (zs.getD k 0)) := by
  rw [List.take_succ_eq_append_getElem h, List.all_append]
  simp [List.getD, h]

theorem all_no (zs : List Int) (k : Nat) (h : k < zs.length) (hn : coordB (zs.getD k 0) = false) : zs.all coordB = false := by
  rw [List.all_eq_false]
  refine ⟨zs.getD k 0, ?_, by rw [hn]; decide⟩
  simp [List.getD, h]

set_option maxHeartbeats 400000 in
theorem areCoords_any (b : Nat) (zs : List Int) (w : World) (hl : zs.length ≤ 1000)
    (hcell : ∀ i, i < zs.length → w.cell? ⟨b, i, none⟩ = some (.int .i64 (zs.getD i 0))) :
    Calls Try.prog 23 #[.slice (some ⟨b, 0, none⟩) zs.length zs.length] w fun e w' => e = .returned (.bool (zs.all coordB)) ∧ w = w' := by
  have HC := Lib.hid hcell
  clear hcell
  go_enter Try.func23, Try.ntmps23
  go_wp2
  go_loop [7] (fun i => ∃ k : Nat, k ≤ zs.length ∧ i = .int .i64 k ∧ (zs.take k).all coordB = true) (fun i => zs.length - (intOf i).toNat)
  case atStart => exact ⟨0, Nat.zero_le _, rfl, rfl⟩
  case round =>
    obtain ⟨k, hk, rfl, hall⟩ := hrel
    by_cases hlt : k < zs.length
    · have hc := HC.out k hlt
      have hs := all_snoc zs k hlt
      have hn := all_no zs k hlt
      generalize zs.getD k 0 = z at hc hs hn
      rw [hall] at hs
      have HS := Lib.hid hs
      have HN := Lib.hid hn
      have HA := Lib.hid hall
      clear hs hn hall
      by_cases hz : coordB z = true
      · have HZ := Lib.hid hz
        clear hz
        go_wp2_with (go_at_call 30; refine (check_yes _ _ HZ.out).mono ?_; rintro e w' ⟨rfl, rfl⟩)
        go_round
        case rel => exact ⟨k + 1, by omega, by go_num, by rw [HS.out, HZ.out]; rfl⟩
        case measure => simp [intOf]; omega
      · have HZ := Lib.hid (Bool.eq_false_iff.mpr hz)
        clear hz
        go_wp2_with (go_at_call 30; refine (check_no _ _ HZ.out).mono ?_; rintro e w' ⟨rfl, rfl⟩)
        go_ret
        exact ⟨ret_bool (HN.out HZ.out).symm, rfl⟩
    · have HA := Lib.hid hall
      clear hall
      go_wp2
      go_ret
      exact ⟨ret_bool (by have := HA.out; rw [List.take_of_length_le (by omega)] at this; exact this.symm), rfl⟩

theorem are2 (a b : Int) (w : World) :
    Calls Try.prog 23 #[.slice (some ⟨w.heap.size, 0, none⟩) 2 2] (w.alloc (.cells #[.int .i64 a, .int .i64 b] 3)) fun e w' => e = .returned (.bool (coordB a && coordB b)) ∧ (w.alloc (.cells #[.int .i64 a, .int .i64 b] 3)) = w' := by
  have h := areCoords_any w.heap.size [a, b] (w.alloc (.cells #[.int .i64 a, .int .i64 b] 3)) (by simp) (by
    intro i hi
    match i, hi with
    | 0, _ => simp [go_sem]
    | 1, _ => simp [go_sem])
  simpa using h

end Go.Proofs.Ytekiknngiefkbaa
