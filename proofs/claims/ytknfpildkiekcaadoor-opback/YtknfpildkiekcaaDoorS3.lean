/- Stamps: the page's places; the next one; awake. -/
import Derived.Test.YtknfpildkiekcaaDoorS2
import Derived.Lib.QuietBelow
namespace Go.Proofs.YtknfpildkiekcaaDoor.St
open Go.RowKit Go.Lib
set_option linter.unusedVariables false

/-- a stamp at a place -/
structure StAt (w : World) (b o : Nat) (t r : Int) : Prop where
  c0 : w.cell? ⟨b, o, none⟩ = some (.int .i64 t)
  c1 : w.cell? ⟨b, o + 1, none⟩ = some (.int .i64 r)
theorem StAt.lt {w : World} {b o : Nat} {t r : Int} (h : StAt w b o t r) : b < w.heap.size := World.block_lt_of_cell? _ _ h.c0
theorem StAt.below {w w' : World} {b o B : Nat} {t r : Int} (h : StAt w b o t r) (hb : Below B w w') (hB : b < B) : StAt w' b o t r :=
  ⟨(hb.cell (p := ⟨b, o, none⟩) hB).trans h.c0, (hb.cell (p := ⟨b, o + 1, none⟩) hB).trans h.c1⟩
theorem StAt.next {w w' : World} {b o : Nat} {t r : Int} (h : StAt w b o t r) (hb : Below w.heap.size w w') : StAt w' b o t r := h.below hb h.lt
theorem StAt.drew {w : World} {b o : Nat} {t r : Int} (h : StAt w b o t r) : StAt w.drew b o t r := ⟨h.c0, h.c1⟩
theorem StAt.new (w : World) (t r : Int) : StAt (w.alloc (.cells #[.int .i64 t, .int .i64 r] 25)) w.heap.size 0 t r := ⟨by simp, by simp⟩

/-- what is held over a region: a stamp at a place, and that the world grew -/
def HeldS (w0 : World) (n b o : Nat) (t r : Int) (w1 : World) : Prop := w1.cell? ⟨b, o, none⟩ = some (.int .i64 t) ∧ w1.cell? ⟨b, o + 1, none⟩ = some (.int .i64 r) ∧ Hid (Below n w0 w1)
theorem heldS_mk {w0 w1 : World} {n b o : Nat} {t r : Int} (h : StAt w1 b o t r) (hB : Below n w0 w1) : w1.cell? ⟨b, o, none⟩ = some (.int .i64 t) ∧ w1.cell? ⟨b, o + 1, none⟩ = some (.int .i64 r) ∧ Hid (Below n w0 w1) := ⟨h.c0, h.c1, Lib.hid hB⟩
theorem heldS_next {w0 w1 w2 : World} {n b o : Nat} {t r : Int} (h : w1.cell? ⟨b, o, none⟩ = some (.int .i64 t) ∧ w1.cell? ⟨b, o + 1, none⟩ = some (.int .i64 r) ∧ Hid (Below n w0 w1)) (hB : Below w1.heap.size w1 w2) (hn : n ≤ w0.heap.size) : w2.cell? ⟨b, o, none⟩ = some (.int .i64 t) ∧ w2.cell? ⟨b, o + 1, none⟩ = some (.int .i64 r) ∧ Hid (Below n w0 w2) := by
  obtain ⟨h0, h1, HB⟩ := h
  have hA : StAt w1 b o t r := ⟨h0, h1⟩
  exact heldS_mk (hA.next hB) (HB.out.trans (hB.mono (Nat.le_trans hn HB.out.size)))

/-- a stamp, in a world that has grown -/
theorem StAt.regrown {w : World} {b o : Nat} {t r : Int} (h : StAt w b o t r) : (∀ d os, (Go.Sort.grow (redrawn w d) os).cell? ⟨b, o, none⟩ = some (.int .i64 t)) ∧ (∀ d os, (Go.Sort.grow (redrawn w d) os).cell? ⟨b, o + 1, none⟩ = some (.int .i64 r)) := ⟨cell_regrown h.c0, cell_regrown h.c1⟩
abbrev RegrownTo (W : World) (f : FuncId) (args : Array Value) (v : Value) : Prop := ∀ d os, Calls Tryd.prog f args (Go.Sort.grow (redrawn W d) os) fun e w'' => e = .returned v ∧ ∃ p : Regrown, w'' = Go.Sort.grow (redrawn W p.d) p.os
theorem regrown_same {W : World} {f : FuncId} {args : Array Value} {v : Value} (h : ∀ w, Calls Tryd.prog f args w fun e w' => e = .returned v ∧ w = w') : RegrownTo W f args v := fun d os => (h _).mono fun _ _ ⟨he, hw⟩ => ⟨he, ⟨d, os⟩, hw.symm⟩
theorem regrown_bel {W : World} {f : FuncId} {args : Array Value} {v : Value} (h : ∀ w, Calls Tryd.prog f args w fun e w' => e = .returned v ∧ Below w.heap.size w w') : RegrownTo W f args v := fun d os => Calls.regrown_of (h _)

set_option maxHeartbeats 1000000 in
theorem refPlace_st (t r : Int) (w : World) (h1 : stB t r = true) : Calls Tryd.prog 31 #[.agg #[.int .i64 t, .int .i64 r]] w (BoolPost w true) := by
  have mixed : Tryd.prog.follows .mixedOrders = true := by kernel_rfl
  have c8 : RegrownTo (w.alloc (.cells #[.int .i64 t, .int .i64 r] 25)) 29 #[.agg #[.int .i64 t, .int .i64 r]] (.bool true) := regrown_bel fun W => by rw [← h1]; exact refStamp_any t r W
  clear h1
  obtain ⟨k0, k1⟩ := (StAt.new w t r).regrown
  have HB := Lib.hid ((Below.refl w.heap.size w).alloc (Nat.le_refl _) (.cells #[.int .i64 t, .int .i64 r] 25))
  have hG := st_guard
  go_enter Tryd.func31, Tryd.ntmps31
  go_wp2_with fail
  refine wp_region_quiet_below (by assumption) (by kernel_rfl) ?_
  repeat (quiet_step (exact c8 _ _))
  refine wpQuiet_nil ?_
  intro _ hw'
  obtain ⟨⟨dq, osq⟩, hw''⟩ := hw'
  subst hw''
  go_wp2
  go_ret
  exact ⟨rfl, HB.out.trans ((below_regrown _ dq osq).mono HB.out.size)⟩

set_option maxHeartbeats 1000000 in
theorem refPlace_root (t r : Int) (w : World) (h1 : stB t r = false) (h2 : t = 0 ∧ r = 0) : Calls Tryd.prog 31 #[.agg #[.int .i64 t, .int .i64 r]] w (BoolPost w true) := by
  have mixed : Tryd.prog.follows .mixedOrders = true := by kernel_rfl
  have c8 : RegrownTo (w.alloc (.cells #[.int .i64 t, .int .i64 r] 25)) 29 #[.agg #[.int .i64 t, .int .i64 r]] (.bool false) := regrown_bel fun W => by rw [← h1]; exact refStamp_any t r W
  have c24 : RegrownTo (w.alloc (.cells #[.int .i64 t, .int .i64 r] 25)) 54 #[] (.agg #[.int .i64 0, .int .i64 0]) := regrown_bel fun W => root_any W
  have q1 : ∀ W, (binOp .eql 25 (.agg #[.int .i64 t, .int .i64 r]) (.agg #[.int .i64 0, .int .i64 0])).run Tryd.prog W = .ok (.bool true) W := by
    intro W
    rw [st_eql]
    congr 2
    simp
    omega
  clear h1 h2
  obtain ⟨k0, k1⟩ := (StAt.new w t r).regrown
  have HB := Lib.hid ((Below.refl w.heap.size w).alloc (Nat.le_refl _) (.cells #[.int .i64 t, .int .i64 r] 25))
  have hG := st_guard
  go_enter Tryd.func31, Tryd.ntmps31
  go_wp2_with fail
  refine wp_region_quiet_below (by assumption) (by kernel_rfl) ?_
  repeat (quiet_step (first | exact c8 _ _ | exact c24 _ _))
  refine wpQuiet_nil ?_
  intro _ hw'
  obtain ⟨⟨dq, osq⟩, hw''⟩ := hw'
  subst hw''
  go_wp2
  go_ret
  exact ⟨rfl, HB.out.trans ((below_regrown _ dq osq).mono HB.out.size)⟩

set_option maxHeartbeats 1000000 in
theorem refPlace_trash (t r : Int) (w : World) (h1 : stB t r = false) (h2 : t = 0 ∧ r = 1) : Calls Tryd.prog 31 #[.agg #[.int .i64 t, .int .i64 r]] w (BoolPost w true) := by
  have mixed : Tryd.prog.follows .mixedOrders = true := by kernel_rfl
  have c8 : RegrownTo (w.alloc (.cells #[.int .i64 t, .int .i64 r] 25)) 29 #[.agg #[.int .i64 t, .int .i64 r]] (.bool false) := regrown_bel fun W => by rw [← h1]; exact refStamp_any t r W
  have c24 : RegrownTo (w.alloc (.cells #[.int .i64 t, .int .i64 r] 25)) 54 #[] (.agg #[.int .i64 0, .int .i64 0]) := regrown_bel fun W => root_any W
  have c25 : RegrownTo (w.alloc (.cells #[.int .i64 t, .int .i64 r] 25)) 55 #[] (.agg #[.int .i64 0, .int .i64 1]) := regrown_bel fun W => trash_any W
  have q1 : ∀ W, (binOp .eql 25 (.agg #[.int .i64 t, .int .i64 r]) (.agg #[.int .i64 0, .int .i64 0])).run Tryd.prog W = .ok (.bool false) W := by
    intro W
    rw [st_eql]
    congr 2
    simp
    omega
  have q2 : ∀ W, (binOp .eql 25 (.agg #[.int .i64 t, .int .i64 r]) (.agg #[.int .i64 0, .int .i64 1])).run Tryd.prog W = .ok (.bool true) W := by
    intro W
    rw [st_eql]
    congr 2
    simp
    omega
  clear h1 h2
  obtain ⟨k0, k1⟩ := (StAt.new w t r).regrown
  have HB := Lib.hid ((Below.refl w.heap.size w).alloc (Nat.le_refl _) (.cells #[.int .i64 t, .int .i64 r] 25))
  have hG := st_guard
  go_enter Tryd.func31, Tryd.ntmps31
  go_wp2_with fail
  refine wp_region_quiet_below (by assumption) (by kernel_rfl) ?_
  repeat (quiet_step (first | exact c8 _ _ | exact c24 _ _ | exact c25 _ _))
  refine wpQuiet_nil ?_
  intro _ hw'
  obtain ⟨⟨dq, osq⟩, hw''⟩ := hw'
  subst hw''
  go_wp2
  go_ret
  exact ⟨rfl, HB.out.trans ((below_regrown _ dq osq).mono HB.out.size)⟩

set_option maxHeartbeats 1000000 in
theorem refPlace_no (t r : Int) (w : World) (h1 : stB t r = false) (h2 : rtB t r = false) : Calls Tryd.prog 31 #[.agg #[.int .i64 t, .int .i64 r]] w (BoolPost w false) := by
  have mixed : Tryd.prog.follows .mixedOrders = true := by kernel_rfl
  have c8 : RegrownTo (w.alloc (.cells #[.int .i64 t, .int .i64 r] 25)) 29 #[.agg #[.int .i64 t, .int .i64 r]] (.bool false) := regrown_bel fun W => by rw [← h1]; exact refStamp_any t r W
  have c24 : RegrownTo (w.alloc (.cells #[.int .i64 t, .int .i64 r] 25)) 54 #[] (.agg #[.int .i64 0, .int .i64 0]) := regrown_bel fun W => root_any W
  have c25 : RegrownTo (w.alloc (.cells #[.int .i64 t, .int .i64 r] 25)) 55 #[] (.agg #[.int .i64 0, .int .i64 1]) := regrown_bel fun W => trash_any W
  have h3 : ¬ (t = 0 ∧ (r = 0 ∨ r = 1)) := by simpa [rtB] using h2
  have q1 : ∀ W, (binOp .eql 25 (.agg #[.int .i64 t, .int .i64 r]) (.agg #[.int .i64 0, .int .i64 0])).run Tryd.prog W = .ok (.bool false) W := by
    intro W
    rw [st_eql]
    congr 2
    simp
    omega
  have q2 : ∀ W, (binOp .eql 25 (.agg #[.int .i64 t, .int .i64 r]) (.agg #[.int .i64 0, .int .i64 1])).run Tryd.prog W = .ok (.bool false) W := by
    intro W
    rw [st_eql]
    congr 2
    simp
    omega
  clear h1 h2 h3
  obtain ⟨k0, k1⟩ := (StAt.new w t r).regrown
  have HB := Lib.hid ((Below.refl w.heap.size w).alloc (Nat.le_refl _) (.cells #[.int .i64 t, .int .i64 r] 25))
  have hG := st_guard
  go_enter Tryd.func31, Tryd.ntmps31
  go_wp2_with fail
  refine wp_region_quiet_below (by assumption) (by kernel_rfl) ?_
  repeat (quiet_step (first | exact c8 _ _ | exact c24 _ _ | exact c25 _ _))
  refine wpQuiet_nil ?_
  intro _ hw'
  obtain ⟨⟨dq, osq⟩, hw''⟩ := hw'
  subst hw''
  go_wp2
  go_ret
  exact ⟨rfl, HB.out.trans ((below_regrown _ dq osq).mono HB.out.size)⟩

theorem refPlace_any (t r : Int) (w : World) : Calls Tryd.prog 31 #[.agg #[.int .i64 t, .int .i64 r]] w (BoolPost w (plB t r)) := by
  cases h1 : stB t r
  · cases h2 : rtB t r
    · have e : plB t r = false := by simp [plB, h1, h2]
      rw [e]
      exact refPlace_no t r w h1 h2
    · have e : plB t r = true := by simp [plB, h2]
      rw [e]
      have h3 : t = 0 ∧ (r = 0 ∨ r = 1) := by simpa [rtB] using h2
      rcases h3 with ⟨h3, h4 | h4⟩
      · exact refPlace_root t r w h1 ⟨h3, h4⟩
      · exact refPlace_trash t r w h1 ⟨h3, h4⟩
  · have e : plB t r = true := by simp [plB, h1]
    rw [e]
    exact refPlace_st t r w h1

end Go.Proofs.YtknfpildkiekcaaDoor.St
