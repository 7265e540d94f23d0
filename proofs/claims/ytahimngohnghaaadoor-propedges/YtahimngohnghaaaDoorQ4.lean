/- The walk of PropEdges. -/
import Derived.Test.YtahimngohnghaaaDoorQ1
namespace Go.Proofs.YtahimngohnghaaaDoor
open Go.RowKit Go.Lib
set_option linter.unusedVariables false

theorem new_at (w : World) (zs : List Int) (p : Nat) (hp : p < zs.length) : (w.alloc (.cells (zs.map (Value.int .i64)).toArray 3)).cell? ⟨w.heap.size, p, none⟩ = some (.int .i64 (zs.getD p 0)) := by
  rw [cell_of_row _ w.heap.size p _ 3 (0, 0) (new_block w _)]
  simp [List.getD_eq_getElem?_getD, hp]
structure EdI (w wr : World) : Prop where
  lo : ∀ p, p < 19 → wr.cell? ⟨w.heap.size, p, none⟩ = some (.int .i64 (lowT p))
  hi : ∀ p, p < 19 → wr.cell? ⟨w.heap.size + 1, p, none⟩ = some (.int .i64 (highT p))
  bel : Below w.heap.size w wr
theorem EdI.start (w : World) : EdI w ((w.alloc (.cells (lowL.map (Value.int .i64)).toArray 3)).alloc (.cells (highL.map (Value.int .i64)).toArray 3)) := by
  have h1 : Below w.heap.size w (w.alloc (.cells (lowL.map (Value.int .i64)).toArray 3)) := (Below.refl _ _).alloc (Nat.le_refl _) _
  refine ⟨fun p hp => ?_, fun p hp => ?_, h1.alloc h1.size _⟩
  · have h2 : Below (w.heap.size + 1) (w.alloc (.cells (lowL.map (Value.int .i64)).toArray 3)) ((w.alloc (.cells (lowL.map (Value.int .i64)).toArray 3)).alloc (.cells (highL.map (Value.int .i64)).toArray 3)) := (Below.refl _ _).alloc (by simp) _
    rw [h2.cell (p := ⟨w.heap.size, p, none⟩) (by simp)]
    exact new_at w lowL p hp
  · have h3 := new_at (w.alloc (.cells (lowL.map (Value.int .i64)).toArray 3)) highL p hp
    rw [show (w.alloc (.cells (lowL.map (Value.int .i64)).toArray 3)).heap.size = w.heap.size + 1 from by simp] at h3
    exact h3
theorem edge_facts : ∀ p : Nat, p < 19 → (-1 ≤ lowT p ∧ lowT p ≤ 64) ∧ (1 ≤ highT p ∧ highT p ≤ 1099511627776) ∧ lowT p ≤ highT p := by decide
theorem edge_lo {p : Nat} (hp : p < 19) : errP p (lowT p) = 0 := errP_ok hp (Int.le_refl _) (edge_facts p hp).2.2
theorem edge_hi {p : Nat} (hp : p < 19) : errP p (highT p) = 0 := errP_ok hp (edge_facts p hp).2.2 (Int.le_refl _)
theorem edge_lo1 {p : Nat} (hp : p < 19) : errP p (lowT p - 1) = 9 := errP_lo hp (by omega)
theorem edge_hi1 {p : Nat} (hp : p < 19) : errP p (highT p + 1) = 9 := errP_hi hp (by omega)

set_option maxHeartbeats 8000000 in
set_option maxRecDepth 100000 in
theorem propEdges_walk (a : Option Addr) (n cap : Nat) (w : World) (ht : Tab w) (h : AsksIs w a n) :
    Calls Tryd.prog 5 #[.slice a n cap] w (BoolPost w true) := by
  have HT0 := Lib.hid ht
  have HS := Lib.hid (EdI.start w)
  have hn0 : decide (0 ≤ (n : Int)) = true := decide_eq_true (by omega)
  have hn1 : 0 ≤ (n : Int) := by omega
  clear h ht
  go_enter Tryd.func5, Tryd.ntmps5
  go_wp2
  go_loopg [5] 19 (fun g1 v wr => ∃ p : Nat, v = .int .i64 p ∧ p ≤ 19 ∧ 19 - p ≤ g1 ∧ Hid (EdI w wr))
  case atStart => exact ⟨0, rfl, by omega, by omega, HS.out⟩
  case round =>
    obtain ⟨p, rfl, hp19, hg1, HE⟩ := hrel
    clear HS
    have HT := Lib.hid (HT0.out.below HE.out.bel HT0.out.lt)
    by_cases hp : p < 19
    · have hpz : decide ((p : Int) < 19) = true := decide_eq_true (by omega)
      have hpy : (p : Int) < 19 := by omega
      have c0 := HE.out.lo p hp
      have c1 := HE.out.hi p hp
      obtain ⟨⟨b1, b2⟩, ⟨b3, b4⟩, _⟩ := edge_facts p hp
      have CD := Lib.hid (default_any (p : Int) wr HT.out)
      rw [errN_yes (propB_nat hp), usZ_nat hp] at CD
      have K1 := Lib.hid (check_any (p : Int) (lowT p) wr HT.out)
      have K2 := Lib.hid (check_any (p : Int) (highT p) wr HT.out)
      have K3 := Lib.hid (check_any (p : Int) (lowT p - 1) wr HT.out)
      have K4 := Lib.hid (check_any (p : Int) (highT p + 1) wr HT.out)
      have K5 := Lib.hid (check_any (p : Int) (usT p) wr HT.out)
      rw [edge_lo hp] at K1
      rw [edge_hi hp] at K2
      rw [edge_lo1 hp] at K3
      rw [edge_hi1 hp] at K4
      rw [plain_ok p hp] at K5
      have N0 := Lib.hid (fun W => num_any 0 W)
      have N9 := Lib.hid (fun W => num_any 9 W)
      generalize lowT p = lo at *
      generalize highT p = hi at *
      generalize usT p = us at *
      go_wp2_with fail
      refine (CD.out).mono ?_
      rintro e w1 ⟨rfl, rfl⟩
      go_wp2_with fail
      refine (N0.out _).mono ?_
      rintro e w1 ⟨rfl, rfl⟩
      go_wp2_with fail
      refine (K1.out).mono ?_
      rintro e w1 ⟨rfl, rfl⟩
      go_wp2_with fail
      refine (N0.out _).mono ?_
      rintro e w1 ⟨rfl, rfl⟩
      go_wp2_with fail
      refine (K2.out).mono ?_
      rintro e w1 ⟨rfl, rfl⟩
      go_wp2_with fail
      refine (N0.out _).mono ?_
      rintro e w1 ⟨rfl, rfl⟩
      go_wp2_with fail
      refine (K3.out).mono ?_
      rintro e w1 ⟨rfl, rfl⟩
      go_wp2_with fail
      refine (N9.out _).mono ?_
      rintro e w1 ⟨rfl, rfl⟩
      go_wp2_with fail
      refine (K4.out).mono ?_
      rintro e w1 ⟨rfl, rfl⟩
      go_wp2_with fail
      refine (N9.out _).mono ?_
      rintro e w1 ⟨rfl, rfl⟩
      go_wp2_with fail
      refine (K5.out).mono ?_
      rintro e w1 ⟨rfl, rfl⟩
      go_wp2_with fail
      refine (N0.out _).mono ?_
      rintro e w1 ⟨rfl, rfl⟩
      go_wp2
      go_roundg (19 - (p + 1))
      case measure => omega
      case rel => exact ⟨p + 1, by go_num, by omega, by omega, HE.out⟩
    · have hpz : decide ((p : Int) < 19) = false := decide_eq_false (by omega)
      have hpy : ¬ (p : Int) < 19 := by omega
      have E1 := Lib.hid (check_any (-1) 0 wr HT.out)
      have E2 := Lib.hid (check_any 19 0 wr HT.out)
      rw [errP_no 0 (by decide)] at E1 E2
      have EW := Lib.hid (wakes_any wr HT.out)
      have N3 := Lib.hid (fun W => num_any 3 W)
      go_wp2_with fail
      refine (E1.out).mono ?_
      rintro e w1 ⟨rfl, rfl⟩
      go_wp2_with fail
      refine (N3.out _).mono ?_
      rintro e w1 ⟨rfl, rfl⟩
      go_wp2_with fail
      refine (E2.out).mono ?_
      rintro e w1 ⟨rfl, rfl⟩
      go_wp2_with fail
      refine (N3.out _).mono ?_
      rintro e w1 ⟨rfl, rfl⟩
      go_wp2_with fail
      refine (EW.out).mono ?_
      rintro e w1 ⟨rfl, rfl⟩
      go_wp2
      go_ret
      exact ⟨rfl, HE.out.bel⟩
end Go.Proofs.YtahimngohnghaaaDoor
