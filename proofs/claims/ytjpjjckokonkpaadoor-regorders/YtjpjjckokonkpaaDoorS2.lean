/- Stamps: whether one is a stamp, a place; which stands ahead. -/
import Derived.Test.YtjpjjckokonkpaaDoorS1
namespace Go.Proofs.YtjpjjckokonkpaaDoor.St
open Go.RowKit Go.Lib
set_option linter.unusedVariables false

theorem below2 (w : World) (o p : Obj) : Below w.heap.size w ((w.alloc o).alloc p) := ((Below.refl w.heap.size w).alloc (Nat.le_refl _) o).alloc (by simp) p
theorem rep_of {r : Int} {b : Bool} (h : decide (0 ≤ r ∧ r < 16) = b) : repB r = b := h
theorem up_of {z m : Int} {b : Bool} (h : decide (0 ≤ z ∧ z ≤ m) = b) : upB z m = b := h
theorem isRep_is (r : Int) (b : Bool) (h : repB r = b) (w : World) : Calls Tryd.prog 38 #[.int .i64 r] w fun e w' => e = .returned (.bool b) ∧ w = w' := by
  rw [← h]; exact isRep_any r w
theorem upTo_is (z m : Int) (b : Bool) (h : upB z m = b) (w : World) : Calls Tryd.prog 32 #[.int .i64 z, .int .i64 m] w fun e w' => e = .returned (.bool b) ∧ w = w' := by
  rw [← h]; exact upTo_any z m w
theorem compare_is (x y z : Int) (h : cmpI x y = z) (w : World) : Calls Tryd.prog 35 #[.int .i64 x, .int .i64 y] w fun e w' => e = .returned (.int .i64 z) ∧ w = w' := by
  rw [← h]; exact compare_any x y w

set_option maxHeartbeats 400000 in
theorem check_any (t r : Int) (w : World) : Calls Tryd.prog 34 #[.agg #[.int .i64 t, .int .i64 r]] w (IntBel w (errB (stB t r))) := by
  by_cases g1 : t < 1
  · have hc : errB (stB t r) = 1 := by
      have : stB t r = false := by simp [stB]; omega
      rw [this]; rfl
    rw [hc]
    clear hc
    go_enter Tryd.func34, Tryd.ntmps34
    go_wp2
    go_ret
    exact ⟨rfl, (Below.refl _ _).alloc (Nat.le_refl _) _⟩
  · by_cases g2 : 1099511627776 < t
    · have hc : errB (stB t r) = 1 := by
        have : stB t r = false := by simp [stB]; omega
        rw [this]; rfl
      rw [hc]
      clear hc
      go_enter Tryd.func34, Tryd.ntmps34
      go_wp2
      go_ret
      exact ⟨rfl, (Below.refl _ _).alloc (Nat.le_refl _) _⟩
    · by_cases g3 : 0 ≤ r ∧ r < 16
      · have hc : errB (stB t r) = 0 := by
          have : stB t r = true := by simp [stB]; omega
          rw [this]; rfl
        rw [hc]
        have C := Lib.hid (fun W => isRep_is r true (by simp [repB]; omega) W)
        clear hc
        go_enter Tryd.func34, Tryd.ntmps34
        go_wp2_with fail
        refine (C.out _).mono ?_
        rintro e w' ⟨rfl, rfl⟩
        go_wp2
        go_ret
        exact ⟨rfl, (Below.refl _ _).alloc (Nat.le_refl _) _⟩
      · have hc : errB (stB t r) = 1 := by
          have : stB t r = false := by simp [stB]; omega
          rw [this]; rfl
        rw [hc]
        have C := Lib.hid (fun W => isRep_is r false (by simp [repB]; omega) W)
        clear hc
        go_enter Tryd.func34, Tryd.ntmps34
        go_wp2_with fail
        refine (C.out _).mono ?_
        rintro e w' ⟨rfl, rfl⟩
        go_wp2
        go_ret
        exact ⟨rfl, (Below.refl _ _).alloc (Nat.le_refl _) _⟩

set_option maxHeartbeats 400000 in
theorem refStamp_any (t r : Int) (w : World) : Calls Tryd.prog 25 #[.agg #[.int .i64 t, .int .i64 r]] w (BoolPost w (stB t r)) := by
  by_cases g1 : 1 ≤ t
  · by_cases g2 : t ≤ 1099511627776
    · by_cases g3 : 0 ≤ r ∧ r < 16
      · have hc : stB t r = true := by simp [stB]; omega
        rw [hc]
        have C := Lib.hid (fun W => upTo_is r 15 true (by simp [upB]; omega) W)
        clear hc
        go_enter Tryd.func25, Tryd.ntmps25
        go_wp2_with fail
        refine (C.out _).mono ?_
        rintro e w' ⟨rfl, rfl⟩
        go_wp2
        go_ret
        exact ⟨rfl, (Below.refl _ _).alloc (Nat.le_refl _) _⟩
      · have hc : stB t r = false := by simp [stB]; omega
        rw [hc]
        have C := Lib.hid (fun W => upTo_is r 15 false (by simp [upB]; omega) W)
        clear hc
        go_enter Tryd.func25, Tryd.ntmps25
        go_wp2_with fail
        refine (C.out _).mono ?_
        rintro e w' ⟨rfl, rfl⟩
        go_wp2
        go_ret
        exact ⟨rfl, (Below.refl _ _).alloc (Nat.le_refl _) _⟩
    · have hc : stB t r = false := by simp [stB]; omega
      rw [hc]
      clear hc
      go_enter Tryd.func25, Tryd.ntmps25
      go_wp2
      go_ret
      exact ⟨rfl, (Below.refl _ _).alloc (Nat.le_refl _) _⟩
  · have hc : stB t r = false := by simp [stB]; omega
    rw [hc]
    clear hc
    go_enter Tryd.func25, Tryd.ntmps25
    go_wp2
    go_ret
    exact ⟨rfl, (Below.refl _ _).alloc (Nat.le_refl _) _⟩

set_option maxHeartbeats 400000 in
theorem cmp_any (t r u v : Int) (w : World) : Calls Tryd.prog 40 #[.agg #[.int .i64 t, .int .i64 r], .agg #[.int .i64 u, .int .i64 v]] w (IntBel w (cmpS t r u v)) := by
  by_cases g1 : t = u
  · have hc : cmpS t r u v = cmpI r v := by unfold cmpS; rw [if_pos g1]
    rw [hc]
    have C := Lib.hid (fun W => compare_any r v W)
    clear hc
    generalize cmpI r v = z at *
    go_enter Tryd.func40, Tryd.ntmps40
    go_wp2_with fail
    refine (C.out _).mono ?_
    rintro e w' ⟨rfl, rfl⟩
    go_wp2
    go_ret
    exact ⟨rfl, below2 _ _ _⟩
  · have hc : cmpS t r u v = cmpI t u := by unfold cmpS; rw [if_neg g1]
    rw [hc]
    have C := Lib.hid (fun W => compare_any t u W)
    clear hc
    generalize cmpI t u = z at *
    go_enter Tryd.func40, Tryd.ntmps40
    go_wp2_with fail
    refine (C.out _).mono ?_
    rintro e w' ⟨rfl, rfl⟩
    go_wp2
    go_ret
    exact ⟨rfl, below2 _ _ _⟩

set_option maxHeartbeats 400000 in
theorem refCmp_any (t r u v : Int) (w : World) : Calls Tryd.prog 29 #[.agg #[.int .i64 t, .int .i64 r], .agg #[.int .i64 u, .int .i64 v]] w (IntBel w (cmpS t r u v)) := by
  by_cases g1 : t < u
  · have hc : cmpS t r u v = -1 := by unfold cmpS cmpI; (repeat (first | omega | split))
    rw [hc]
    clear hc
    go_enter Tryd.func29, Tryd.ntmps29
    go_wp2
    go_ret
    exact ⟨rfl, below2 _ _ _⟩
  · by_cases g2 : t = u
    · by_cases g3 : r < v
      · have hc : cmpS t r u v = -1 := by unfold cmpS cmpI; (repeat (first | omega | split))
        rw [hc]
        clear hc
        go_enter Tryd.func29, Tryd.ntmps29
        go_wp2
        go_ret
        exact ⟨rfl, below2 _ _ _⟩
      · by_cases g4 : r = v
        · have hc : cmpS t r u v = 0 := by unfold cmpS cmpI; (repeat (first | omega | split))
          rw [hc]
          clear hc
          have hE : ∀ W, (binOp .neq 29 (.agg #[.int .i64 t, .int .i64 r]) (.agg #[.int .i64 u, .int .i64 v])).run Tryd.prog W = .ok (.bool false) W := by
            intro W
            rw [st_neq]
            congr 2
            simp
            try omega
          have hG := st_guard
          go_enter Tryd.func29, Tryd.ntmps29
          go_wp2
          go_ret
          exact ⟨rfl, below2 _ _ _⟩
        · have hc : cmpS t r u v = 1 := by unfold cmpS cmpI; (repeat (first | omega | split))
          rw [hc]
          clear hc
          have hE : ∀ W, (binOp .neq 29 (.agg #[.int .i64 t, .int .i64 r]) (.agg #[.int .i64 u, .int .i64 v])).run Tryd.prog W = .ok (.bool true) W := by
            intro W
            rw [st_neq]
            congr 2
            simp
            try omega
          have hG := st_guard
          go_enter Tryd.func29, Tryd.ntmps29
          go_wp2
          go_ret
          exact ⟨rfl, below2 _ _ _⟩
    · have hc : cmpS t r u v = 1 := by unfold cmpS cmpI; (repeat (first | omega | split))
      rw [hc]
      clear hc
      have hE : ∀ W, (binOp .neq 29 (.agg #[.int .i64 t, .int .i64 r]) (.agg #[.int .i64 u, .int .i64 v])).run Tryd.prog W = .ok (.bool true) W := by
        intro W
        rw [st_neq]
        congr 2
        simp
        try omega
      have hG := st_guard
      go_enter Tryd.func29, Tryd.ntmps29
      go_wp2
      go_ret
      exact ⟨rfl, below2 _ _ _⟩

end Go.Proofs.YtjpjjckokonkpaaDoor.St
