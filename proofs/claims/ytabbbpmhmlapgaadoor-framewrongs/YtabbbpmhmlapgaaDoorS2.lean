/- Stamps: whether one is a stamp, a place; which stands ahead. -/
import Derived.Test.YtabbbpmhmlapgaaDoorS1
namespace Go.Proofs.YtabbbpmhmlapgaaDoor.St
open Go.RowKit Go.Lib
set_option linter.unusedVariables false

theorem below2 (w : World) (o p : Obj) : Below w.heap.size w ((w.alloc o).alloc p) := ((Below.refl w.heap.size w).alloc (Nat.le_refl _) o).alloc (by simp) p
theorem rep_of {r : Int} {b : Bool} (h : decide (0 ≤ r ∧ r < 16) = b) : repB r = b := h
theorem up_of {z m : Int} {b : Bool} (h : decide (0 ≤ z ∧ z ≤ m) = b) : upB z m = b := h
theorem isRep_is (r : Int) (b : Bool) (h : repB r = b) (w : World) : Calls Tryd.prog 27 #[.int .i64 r] w fun e w' => e = .returned (.bool b) ∧ w = w' := by
  rw [← h]; exact isRep_any r w
set_option maxHeartbeats 400000 in
theorem check_any (t r : Int) (w : World) : Calls Tryd.prog 14 #[.agg #[.int .i64 t, .int .i64 r]] w (IntBel w (errB (stB t r))) := by
  by_cases g1 : t < 1
  · have hc : errB (stB t r) = 1 := by
      have : stB t r = false := by simp [stB]; omega
      rw [this]; rfl
    rw [hc]
    clear hc
    go_enter Tryd.func14, Tryd.ntmps14
    go_wp2
    go_ret
    exact ⟨rfl, (Below.refl _ _).alloc (Nat.le_refl _) _⟩
  · by_cases g2 : 1099511627776 < t
    · have hc : errB (stB t r) = 1 := by
        have : stB t r = false := by simp [stB]; omega
        rw [this]; rfl
      rw [hc]
      clear hc
      go_enter Tryd.func14, Tryd.ntmps14
      go_wp2
      go_ret
      exact ⟨rfl, (Below.refl _ _).alloc (Nat.le_refl _) _⟩
    · by_cases g3 : 0 ≤ r ∧ r < 16
      · have hc : errB (stB t r) = 0 := by
          have : stB t r = true := by simp [stB]; omega
          rw [this]; rfl
        rw [hc]
        have C := Lib.hid (fun W => isRep_is r true (by simp [repB]; omega) W)
        clear hc
        go_enter Tryd.func14, Tryd.ntmps14
        go_wp2_with fail
        refine (C.out _).mono ?_
        rintro e w' ⟨rfl, rfl⟩
        go_wp2
        go_ret
        exact ⟨rfl, (Below.refl _ _).alloc (Nat.le_refl _) _⟩
      · have hc : errB (stB t r) = 1 := by
          have : stB t r = false := by simp [stB]; omega
          rw [this]; rfl
        rw [hc]
        have C := Lib.hid (fun W => isRep_is r false (by simp [repB]; omega) W)
        clear hc
        go_enter Tryd.func14, Tryd.ntmps14
        go_wp2_with fail
        refine (C.out _).mono ?_
        rintro e w' ⟨rfl, rfl⟩
        go_wp2
        go_ret
        exact ⟨rfl, (Below.refl _ _).alloc (Nat.le_refl _) _⟩

set_option maxHeartbeats 400000 in
theorem place_any (t r : Int) (w : World) : Calls Tryd.prog 29 #[.agg #[.int .i64 t, .int .i64 r]] w (BoolPost w (plB t r)) := by
  by_cases g1 : t = 0
  · by_cases g2 : r = 0
    · have hc : plB t r = true := by simp [plB, stB, rtB]; omega
      rw [hc]
      clear hc
      go_enter Tryd.func29, Tryd.ntmps29
      go_wp2
      go_ret
      exact ⟨rfl, (Below.refl _ _).alloc (Nat.le_refl _) _⟩
    · by_cases g3 : r = 1
      · have hc : plB t r = true := by simp [plB, stB, rtB]; omega
        rw [hc]
        clear hc
        go_enter Tryd.func29, Tryd.ntmps29
        go_wp2
        go_ret
        exact ⟨rfl, (Below.refl _ _).alloc (Nat.le_refl _) _⟩
      · have hc : plB t r = false := by simp [plB, stB, rtB]; omega
        rw [hc]
        clear hc
        have q1 : (r == 0) = false := by simpa using g2
        have q2 : (r == 1) = false := by simpa using g3
        go_enter Tryd.func29, Tryd.ntmps29
        go_wp2
        go_ret
        exact ⟨rfl, (Below.refl _ _).alloc (Nat.le_refl _) _⟩
  · have hr : rtB t r = false := by simp [rtB]; omega
    have hc : plB t r = stB t r := by simp [plB, hr]
    rw [hc]
    clear hc hr
    have C := Lib.hid (fun W => check_any t r W)
    generalize stB t r = b at *
    have HB := Lib.hid ((Below.refl w.heap.size w).alloc (Nat.le_refl _) (.cells #[.int .i64 t, .int .i64 r] 24))
    go_enter Tryd.func29, Tryd.ntmps29
    go_wp2_with fail
    refine (C.out _).mono ?_
    rintro e w' ⟨rfl, hb⟩
    have HZ := Lib.hid (HB.out.trans (hb.mono HB.out.size))
    clear hb
    cases b
    · go_wp2
      go_ret
      exact ⟨rfl, HZ.out⟩
    · go_wp2
      go_ret
      exact ⟨rfl, HZ.out⟩

end Go.Proofs.YtabbbpmhmlapgaaDoor.St
