/- Contracts of the small functions of package fixed and of the page's own. -/
import Derived.Test.YtjoeogdkcggmdaaRows
import Derived.WalkKit
import Derived.WalkSpells
import Derived.WalkLawsBesides
import Derived.Lib.Hide
import Derived.IntWalk
namespace Go.Proofs.Ytjoeogdkcggmdaa
open Go.RowKit

/-- a coordinate -/
def coordB (a : Int) : Bool := decide (-1099511627776 ≤ a ∧ a ≤ 1099511627776)
def satI (a : Int) : Int := if a < -1099511627776 then -1099511627776 else if 1099511627776 < a then 1099511627776 else a

set_option maxHeartbeats 400000 in
theorem check_yes (a : Int) (w : World) (h : coordB a = true) :
    Calls Try.prog 34 #[.int .i64 a] w fun e w' => e = .returned (.int .i64 0) ∧ w = w' := by
  simp [coordB] at h
  obtain ⟨h1, h2⟩ := h
  have g1 : ¬ a < -1099511627776 := by omega
  have g2 : ¬ 1099511627776 < a := by omega
  go_enter Try.func34, Try.ntmps34
  go_wp2
  go_ret
  exact ⟨rfl, rfl⟩

set_option maxHeartbeats 400000 in
theorem check_no (a : Int) (w : World) (h : coordB a = false) :
    Calls Try.prog 34 #[.int .i64 a] w fun e w' => e = .returned (.int .i64 1) ∧ w = w' := by
  simp [coordB] at h
  by_cases g1 : a < -1099511627776
  · clear h
    go_enter Try.func34, Try.ntmps34
    go_wp2
    go_ret
    exact ⟨rfl, rfl⟩
  · have g2 : 1099511627776 < a := by omega
    clear h
    go_enter Try.func34, Try.ntmps34
    go_wp2
    go_ret
    exact ⟨rfl, rfl⟩

set_option maxHeartbeats 400000 in
theorem coord_any (a : Int) (w : World) :
    Calls Try.prog 9 #[.int .i64 a] w fun e w' => e = .returned (.bool (coordB a)) ∧ w = w' := by
  by_cases g1 : -1099511627776 ≤ a
  · by_cases g2 : a ≤ 1099511627776
    · have hc : coordB a = true := by simp [coordB]; omega
      rw [hc]
      clear hc
      go_enter Try.func9, Try.ntmps9
      go_wp2
      go_ret
      exact ⟨rfl, rfl⟩
    · have hc : coordB a = false := by simp [coordB]; omega
      rw [hc]
      clear hc
      go_enter Try.func9, Try.ntmps9
      go_wp2
      go_ret
      exact ⟨rfl, rfl⟩
  · have hc : coordB a = false := by simp [coordB]; omega
    rw [hc]
    clear hc
    go_enter Try.func9, Try.ntmps9
    go_wp2
    go_ret
    exact ⟨rfl, rfl⟩

theorem ret_int {k : IntKind} {a b : Int} (h : a = b) : Ending.returned (.int k a) = .returned (.int k b) := by rw [h]
theorem ret_bool {a b : Bool} (h : a = b) : Ending.returned (.bool a) = .returned (.bool b) := by rw [h]

set_option maxHeartbeats 400000 in
theorem sat_any (a : Int) (w : World) :
    Calls Try.prog 49 #[.int .i64 a] w fun e w' => e = .returned (.int .i64 (satI a)) ∧ w = w' := by
  go_enter Try.func49, Try.ntmps49
  go_wp2
  all_goals
    go_ret
    exact ⟨ret_int (by unfold satI; repeat (first | omega | split)), rfl⟩

set_option maxHeartbeats 400000 in
theorem refsat_any (a : Int) (w : World) :
    Calls Try.prog 47 #[.int .i64 a] w fun e w' => e = .returned (.int .i64 (satI a)) ∧ w = w' := by
  go_enter Try.func47, Try.ntmps47
  go_wp2
  all_goals
    go_ret
    exact ⟨ret_int (by unfold satI; repeat (first | omega | split)), rfl⟩

theorem all_snoc (zs : List Int) (k : Nat) (h : k < zs.length) : (zs.take (k + 1)).all coordB = ((zs.take k).all coordB && coordB (zs.getD k 0)) := by
  rw [List.take_succ_eq_append_getElem h, List.all_append]
  simp [List.getD, h]

theorem all_no (zs : List Int) (k : Nat) (h : k < zs.length) (hn : coordB (zs.getD k 0) = false) : zs.all coordB = false := by
  rw [List.all_eq_false]
  refine ⟨zs.getD k 0, ?_, by rw [hn]; decide⟩
  simp [List.getD, h]

end Go.Proofs.Ytjoeogdkcggmdaa
