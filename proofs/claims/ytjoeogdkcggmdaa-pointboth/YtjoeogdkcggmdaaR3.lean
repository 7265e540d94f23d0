/- The page's own Has, Join, Meet; wakes. -/
import Derived.Test.YtjoeogdkcggmdaaR1
namespace Go.Proofs.Ytjoeogdkcggmdaa
open Go.RowKit
set_option linter.unusedVariables false

theorem min_int (x y : Int) (ts : Array TypeId) (t : TypeId) (w : World) : (Builtin.min_ ts t #[.int .i64 x, .int .i64 y]).run Try.prog w = .ok (.int .i64 (min x y)) w := by
  change (Builtin.min2 (.int .i64 x) (.int .i64 y) >>= fun v => pure v).run Try.prog w = _
  simp only [Builtin.min2]
  by_cases h : y < x
  · rw [if_pos h, Int.min_eq_right (by omega)]; rfl
  · rw [if_neg h, Int.min_eq_left (by omega)]; rfl
theorem max_int (x y : Int) (ts : Array TypeId) (t : TypeId) (w : World) : (Builtin.max_ ts t #[.int .i64 x, .int .i64 y]).run Try.prog w = .ok (.int .i64 (max x y)) w := by
  change (Builtin.max2 (.int .i64 x) (.int .i64 y) >>= fun v => pure v).run Try.prog w = _
  simp only [Builtin.max2]
  by_cases h : x < y
  · rw [if_pos h, Int.max_eq_right (by omega)]; rfl
  · rw [if_neg h, Int.max_eq_left (by omega)]; rfl

set_option maxHeartbeats 400000 in
theorem refHas_bx (a b c d p q : Nat) (x y u v r s : Int) (w : World) (h : Bx a b c d x y u v) (g : Pt p q r s) :
    Calls Try.prog 26 #[.complex .f64 a b, .complex .f64 c d, .complex .f64 p q] w fun e w' => e = .returned (.bool (hasB x y u v r s)) ∧ w = w' := by
  have C := Lib.hid (fun w => refAdd_pt a b c d x y u v w h.p h.s)
  have X1 := Lib.hid (fun w => X_pt h.p w)
  have Y1 := Lib.hid (fun w => Y_pt h.p w)
  have X2 := Lib.hid (fun w => X_pt g w)
  have Y2 := Lib.hid (fun w => Y_pt g w)
  have hf := pt_sat (x + u) (y + v)
  have X3 := Lib.hid (fun w => X_pt hf w)
  have Y3 := Lib.hid (fun w => Y_pt hf w)
  unfold hasB
  generalize satI (x + u) = X at *
  generalize satI (y + v) = Y at *
  clear h g hf
  by_cases h1 : x ≤ r
  · rw [decide_eq_true h1]
    by_cases h2 : y ≤ s
    · rw [decide_eq_true h2]
      by_cases h3 : r < X
      · rw [decide_eq_true h3]
        go_enter Try.func26, Try.ntmps26
        go_wp2_with fail
        refine (C.out _).mono ?_
        rintro e w' ⟨rfl, rfl⟩
        go_wp2_with fail
        refine (X2.out _).mono ?_
        rintro e w' ⟨rfl, rfl⟩
        go_wp2_with fail
        refine (X1.out _).mono ?_
        rintro e w' ⟨rfl, rfl⟩
        go_wp2_with fail
        refine (Y2.out _).mono ?_
        rintro e w' ⟨rfl, rfl⟩
        go_wp2_with fail
        refine (Y1.out _).mono ?_
        rintro e w' ⟨rfl, rfl⟩
        go_wp2_with fail
        refine (X2.out _).mono ?_
        rintro e w' ⟨rfl, rfl⟩
        go_wp2_with fail
        refine (X3.out _).mono ?_
        rintro e w' ⟨rfl, rfl⟩
        go_wp2_with fail
        refine (Y2.out _).mono ?_
        rintro e w' ⟨rfl, rfl⟩
        go_wp2_with fail
        refine (Y3.out _).mono ?_
        rintro e w' ⟨rfl, rfl⟩
        go_wp2_with fail
        go_ret
        exact ⟨ret_bool (by simp), rfl⟩
      · rw [decide_eq_false h3]
        go_enter Try.func26, Try.ntmps26
        go_wp2_with fail
        refine (C.out _).mono ?_
        rintro e w' ⟨rfl, rfl⟩
        go_wp2_with fail
        refine (X2.out _).mono ?_
        rintro e w' ⟨rfl, rfl⟩
        go_wp2_with fail
        refine (X1.out _).mono ?_
        rintro e w' ⟨rfl, rfl⟩
        go_wp2_with fail
        refine (Y2.out _).mono ?_
        rintro e w' ⟨rfl, rfl⟩
        go_wp2_with fail
        refine (Y1.out _).mono ?_
        rintro e w' ⟨rfl, rfl⟩
        go_wp2_with fail
        refine (X2.out _).mono ?_
        rintro e w' ⟨rfl, rfl⟩
        go_wp2_with fail
        refine (X3.out _).mono ?_
        rintro e w' ⟨rfl, rfl⟩
        go_wp2_with fail
        go_ret
        exact ⟨rfl, rfl⟩
    · rw [decide_eq_false h2]
      go_enter Try.func26, Try.ntmps26
      go_wp2_with fail
      refine (C.out _).mono ?_
      rintro e w' ⟨rfl, rfl⟩
      go_wp2_with fail
      refine (X2.out _).mono ?_
      rintro e w' ⟨rfl, rfl⟩
      go_wp2_with fail
      refine (X1.out _).mono ?_
      rintro e w' ⟨rfl, rfl⟩
      go_wp2_with fail
      refine (Y2.out _).mono ?_
      rintro e w' ⟨rfl, rfl⟩
      go_wp2_with fail
      refine (Y1.out _).mono ?_
      rintro e w' ⟨rfl, rfl⟩
      go_wp2_with fail
      go_ret
      exact ⟨rfl, rfl⟩
  · rw [decide_eq_false h1]
    go_enter Try.func26, Try.ntmps26
    go_wp2_with fail
    refine (C.out _).mono ?_
    rintro e w' ⟨rfl, rfl⟩
    go_wp2_with fail
    refine (X2.out _).mono ?_
    rintro e w' ⟨rfl, rfl⟩
    go_wp2_with fail
    refine (X1.out _).mono ?_
    rintro e w' ⟨rfl, rfl⟩
    go_wp2_with fail
    go_ret
    exact ⟨rfl, rfl⟩

set_option maxHeartbeats 1000000 in
theorem refJoin_bx (a b c d a' b' c' d' : Nat) (x y u v x' y' u' v' : Int) (w : World) (h : Bx a b c d x y u v) (h' : Bx a' b' c' d' x' y' u' v') :
    Calls Try.prog 30 #[.complex .f64 a b, .complex .f64 c d, .complex .f64 a' b', .complex .f64 c' d'] w fun e w' => e = .returned (.tuple #[.complex .f64 (fl (min x x')) (fl (min y y')), .complex .f64 (fl (satI (max (farI x u) (farI x' u') - min x x'))) (fl (satI (max (farI y v) (farI y' v') - min y y')))]) ∧ w = w' := by
  have C1 := Lib.hid (fun w => refAdd_pt a b c d x y u v w h.p h.s)
  have C2 := Lib.hid (fun w => refAdd_pt a' b' c' d' x' y' u' v' w h'.p h'.s)
  have f1 : Pt _ _ (farI x u) (farI y v) := pt_sat (x + u) (y + v)
  have f2 : Pt _ _ (farI x' u') (farI y' v') := pt_sat (x' + u') (y' + v')
  have X1 := Lib.hid (fun w => X_pt h.p w)
  have Y1 := Lib.hid (fun w => Y_pt h.p w)
  have X2 := Lib.hid (fun w => X_pt h'.p w)
  have Y2 := Lib.hid (fun w => Y_pt h'.p w)
  have X3 := Lib.hid (fun w => X_pt f1 w)
  have Y3 := Lib.hid (fun w => Y_pt f1 w)
  have X4 := Lib.hid (fun w => X_pt f2 w)
  have Y4 := Lib.hid (fun w => Y_pt f2 w)
  have b1 := far_bd x u
  have b2 := far_bd y v
  have b3 := far_bd x' u'
  have b4 := far_bd y' v'
  obtain ⟨⟨wa, wb, x1, x2, y1, y2⟩, hs, u0, v0⟩ := h
  obtain ⟨⟨wa', wb', x1', x2', y1', y2'⟩, hs', u0', v0'⟩ := h'
  have m1 := min_int x x'
  have m2 := min_int y y'
  have m3 := max_int (farI x u) (farI x' u')
  have m4 := max_int (farI y v) (farI y' v')
  change Hid (∀ w, Calls Try.prog 23 #[.complex .f64 a b, .complex .f64 c d] w fun e w' => e = .returned (.complex .f64 (fl (farI x u)) (fl (farI y v))) ∧ w = w') at C1
  change Hid (∀ w, Calls Try.prog 23 #[.complex .f64 a' b', .complex .f64 c' d'] w fun e w' => e = .returned (.complex .f64 (fl (farI x' u')) (fl (farI y' v'))) ∧ w = w') at C2
  change Hid (∀ w, Calls Try.prog 18 #[.complex .f64 (fl (farI x u)) (fl (farI y v))] w fun e w' => e = .returned (.int .i64 (farI x u)) ∧ w = w') at X3
  change Hid (∀ w, Calls Try.prog 19 #[.complex .f64 (fl (farI x u)) (fl (farI y v))] w fun e w' => e = .returned (.int .i64 (farI y v)) ∧ w = w') at Y3
  change Hid (∀ w, Calls Try.prog 18 #[.complex .f64 (fl (farI x' u')) (fl (farI y' v'))] w fun e w' => e = .returned (.int .i64 (farI x' u')) ∧ w = w') at X4
  change Hid (∀ w, Calls Try.prog 19 #[.complex .f64 (fl (farI x' u')) (fl (farI y' v'))] w fun e w' => e = .returned (.int .i64 (farI y' v')) ∧ w = w') at Y4
  clear f1 f2 hs hs' wa wb wa' wb' u0 v0 u0' v0'
  generalize farI x u = FX at *
  generalize farI y v = FY at *
  generalize farI x' u' = GX at *
  generalize farI y' v' = GY at *
  have D := Lib.hid (fun w => refSub_pt (fl (max FX GX)) (fl (max FY GY)) (fl (min x x')) (fl (min y y')) _ _ _ _ w (pt_fl (by omega) (by omega) (by omega) (by omega)) (pt_fl (by omega) (by omega) (by omega) (by omega)))
  clear b1 b2 b3 b4 x1 x2 y1 y2 x1' x2' y1' y2'
  generalize min x x' = n1 at *
  generalize min y y' = n2 at *
  generalize max FX GX = n3 at *
  generalize max FY GY = n4 at *
  go_enter Try.func30, Try.ntmps30
  go_wp2_with fail
  refine (C1.out _).mono ?_
  rintro e w' ⟨rfl, rfl⟩
  go_wp2_with fail
  refine (C2.out _).mono ?_
  rintro e w' ⟨rfl, rfl⟩
  go_wp2_with fail
  refine (X1.out _).mono ?_
  rintro e w' ⟨rfl, rfl⟩
  go_wp2_with fail
  refine (X2.out _).mono ?_
  rintro e w' ⟨rfl, rfl⟩
  go_wp2_with fail
  refine (Y1.out _).mono ?_
  rintro e w' ⟨rfl, rfl⟩
  go_wp2_with fail
  refine (Y2.out _).mono ?_
  rintro e w' ⟨rfl, rfl⟩
  go_wp2_with fail
  refine (refOf_any _ _ _).mono ?_
  rintro e w' ⟨rfl, rfl⟩
  go_wp2_with fail
  refine (X3.out _).mono ?_
  rintro e w' ⟨rfl, rfl⟩
  go_wp2_with fail
  refine (X4.out _).mono ?_
  rintro e w' ⟨rfl, rfl⟩
  go_wp2_with fail
  refine (Y3.out _).mono ?_
  rintro e w' ⟨rfl, rfl⟩
  go_wp2_with fail
  refine (Y4.out _).mono ?_
  rintro e w' ⟨rfl, rfl⟩
  go_wp2_with fail
  refine (refOf_any _ _ _).mono ?_
  rintro e w' ⟨rfl, rfl⟩
  go_wp2_with fail
  refine (D.out _).mono ?_
  rintro e w' ⟨rfl, rfl⟩
  go_wp2_with fail
  go_ret2
  exact ⟨rfl, rfl⟩
set_option maxHeartbeats 1000000 in
theorem refMeet_in (a b c d a' b' c' d' : Nat) (x y u v x' y' u' v' : Int) (w : World) (h : Bx a b c d x y u v) (h' : Bx a' b' c' d' x' y' u' v') (hm : meetB x y u v x' y' u' v' = true) :
    Calls Try.prog 31 #[.complex .f64 a b, .complex .f64 c d, .complex .f64 a' b', .complex .f64 c' d'] w fun e w' => e = .returned (.tuple #[.complex .f64 (fl (max x x')) (fl (max y y')), .complex .f64 (fl (satI (min (farI x u) (farI x' u') - max x x'))) (fl (satI (min (farI y v) (farI y' v') - max y y')))]) ∧ w = w' := by
  unfold meetB at hm
  have C1 := Lib.hid (fun w => refAdd_pt a b c d x y u v w h.p h.s)
  have C2 := Lib.hid (fun w => refAdd_pt a' b' c' d' x' y' u' v' w h'.p h'.s)
  have f1 : Pt _ _ (farI x u) (farI y v) := pt_sat (x + u) (y + v)
  have f2 : Pt _ _ (farI x' u') (farI y' v') := pt_sat (x' + u') (y' + v')
  have X1 := Lib.hid (fun w => X_pt h.p w)
  have Y1 := Lib.hid (fun w => Y_pt h.p w)
  have X2 := Lib.hid (fun w => X_pt h'.p w)
  have Y2 := Lib.hid (fun w => Y_pt h'.p w)
  have X3 := Lib.hid (fun w => X_pt f1 w)
  have Y3 := Lib.hid (fun w => Y_pt f1 w)
  have X4 := Lib.hid (fun w => X_pt f2 w)
  have Y4 := Lib.hid (fun w => Y_pt f2 w)
  have b1 := far_bd x u
  have b2 := far_bd y v
  have b3 := far_bd x' u'
  have b4 := far_bd y' v'
  obtain ⟨⟨wa, wb, x1, x2, y1, y2⟩, hs, u0, v0⟩ := h
  obtain ⟨⟨wa', wb', x1', x2', y1', y2'⟩, hs', u0', v0'⟩ := h'
  have m1 := max_int x x'
  have m2 := max_int y y'
  have m3 := min_int (farI x u) (farI x' u')
  have m4 := min_int (farI y v) (farI y' v')
  change Hid (∀ w, Calls Try.prog 23 #[.complex .f64 a b, .complex .f64 c d] w fun e w' => e = .returned (.complex .f64 (fl (farI x u)) (fl (farI y v))) ∧ w = w') at C1
  change Hid (∀ w, Calls Try.prog 23 #[.complex .f64 a' b', .complex .f64 c' d'] w fun e w' => e = .returned (.complex .f64 (fl (farI x' u')) (fl (farI y' v'))) ∧ w = w') at C2
  change Hid (∀ w, Calls Try.prog 18 #[.complex .f64 (fl (farI x u)) (fl (farI y v))] w fun e w' => e = .returned (.int .i64 (farI x u)) ∧ w = w') at X3
  change Hid (∀ w, Calls Try.prog 19 #[.complex .f64 (fl (farI x u)) (fl (farI y v))] w fun e w' => e = .returned (.int .i64 (farI y v)) ∧ w = w') at Y3
  change Hid (∀ w, Calls Try.prog 18 #[.complex .f64 (fl (farI x' u')) (fl (farI y' v'))] w fun e w' => e = .returned (.int .i64 (farI x' u')) ∧ w = w') at X4
  change Hid (∀ w, Calls Try.prog 19 #[.complex .f64 (fl (farI x' u')) (fl (farI y' v'))] w fun e w' => e = .returned (.int .i64 (farI y' v')) ∧ w = w') at Y4
  clear f1 f2 hs hs' wa wb wa' wb' u0 v0 u0' v0'
  generalize farI x u = FX at *
  generalize farI y v = FY at *
  generalize farI x' u' = GX at *
  generalize farI y' v' = GY at *
  have D := Lib.hid (fun w => refSub_pt (fl (min FX GX)) (fl (min FY GY)) (fl (max x x')) (fl (max y y')) _ _ _ _ w (pt_fl (by omega) (by omega) (by omega) (by omega)) (pt_fl (by omega) (by omega) (by omega) (by omega)))
  have PF : Pt (fl (min FX GX)) (fl (min FY GY)) _ _ := pt_fl (by omega) (by omega) (by omega) (by omega)
  have PC : Pt (fl (max x x')) (fl (max y y')) _ _ := pt_fl (by omega) (by omega) (by omega) (by omega)
  have X5 := Lib.hid (fun w => X_pt PF w)
  have Y5 := Lib.hid (fun w => Y_pt PF w)
  have X6 := Lib.hid (fun w => X_pt PC w)
  have Y6 := Lib.hid (fun w => Y_pt PC w)
  clear PF PC b1 b2 b3 b4 x1 x2 y1 y2 x1' x2' y1' y2'
  generalize max x x' = n1 at *
  generalize max y y' = n2 at *
  generalize min FX GX = n3 at *
  generalize min FY GY = n4 at *
  simp only [Bool.and_eq_true, decide_eq_true_eq] at hm
  obtain ⟨hm1, hm2⟩ := hm
  have l1 : ¬ n3 ≤ n1 := by omega
  have l2 : ¬ n4 ≤ n2 := by omega
  clear hm1 hm2
  go_enter Try.func31, Try.ntmps31
  go_wp2_with fail
  refine (C1.out _).mono ?_
  rintro e w' ⟨rfl, rfl⟩
  go_wp2_with fail
  refine (C2.out _).mono ?_
  rintro e w' ⟨rfl, rfl⟩
  go_wp2_with fail
  refine (X1.out _).mono ?_
  rintro e w' ⟨rfl, rfl⟩
  go_wp2_with fail
  refine (X2.out _).mono ?_
  rintro e w' ⟨rfl, rfl⟩
  go_wp2_with fail
  refine (Y1.out _).mono ?_
  rintro e w' ⟨rfl, rfl⟩
  go_wp2_with fail
  refine (Y2.out _).mono ?_
  rintro e w' ⟨rfl, rfl⟩
  go_wp2_with fail
  refine (refOf_any _ _ _).mono ?_
  rintro e w' ⟨rfl, rfl⟩
  go_wp2_with fail
  refine (X3.out _).mono ?_
  rintro e w' ⟨rfl, rfl⟩
  go_wp2_with fail
  refine (X4.out _).mono ?_
  rintro e w' ⟨rfl, rfl⟩
  go_wp2_with fail
  refine (Y3.out _).mono ?_
  rintro e w' ⟨rfl, rfl⟩
  go_wp2_with fail
  refine (Y4.out _).mono ?_
  rintro e w' ⟨rfl, rfl⟩
  go_wp2_with fail
  refine (refOf_any _ _ _).mono ?_
  rintro e w' ⟨rfl, rfl⟩
  go_wp2_with fail
  refine (X5.out _).mono ?_
  rintro e w' ⟨rfl, rfl⟩
  go_wp2_with fail
  refine (X6.out _).mono ?_
  rintro e w' ⟨rfl, rfl⟩
  go_wp2_with fail
  refine (Y5.out _).mono ?_
  rintro e w' ⟨rfl, rfl⟩
  go_wp2_with fail
  refine (Y6.out _).mono ?_
  rintro e w' ⟨rfl, rfl⟩
  go_wp2_with fail
  refine (D.out _).mono ?_
  rintro e w' ⟨rfl, rfl⟩
  go_wp2_with fail
  go_ret2
  exact ⟨rfl, rfl⟩

set_option maxHeartbeats 1000000 in
theorem refMeet_out (a b c d a' b' c' d' : Nat) (x y u v x' y' u' v' : Int) (w : World) (h : Bx a b c d x y u v) (h' : Bx a' b' c' d' x' y' u' v') (hm : meetB x y u v x' y' u' v' = false) :
    Calls Try.prog 31 #[.complex .f64 a b, .complex .f64 c d, .complex .f64 a' b', .complex .f64 c' d'] w fun e w' => e = .returned (.tuple #[.complex .f64 0 0, .complex .f64 0 0]) ∧ w = w' := by
  unfold meetB at hm
  have C1 := Lib.hid (fun w => refAdd_pt a b c d x y u v w h.p h.s)
  have C2 := Lib.hid (fun w => refAdd_pt a' b' c' d' x' y' u' v' w h'.p h'.s)
  have f1 : Pt _ _ (farI x u) (farI y v) := pt_sat (x + u) (y + v)
  have f2 : Pt _ _ (farI x' u') (farI y' v') := pt_sat (x' + u') (y' + v')
  have X1 := Lib.hid (fun w => X_pt h.p w)
  have Y1 := Lib.hid (fun w => Y_pt h.p w)
  have X2 := Lib.hid (fun w => X_pt h'.p w)
  have Y2 := Lib.hid (fun w => Y_pt h'.p w)
  have X3 := Lib.hid (fun w => X_pt f1 w)
  have Y3 := Lib.hid (fun w => Y_pt f1 w)
  have X4 := Lib.hid (fun w => X_pt f2 w)
  have Y4 := Lib.hid (fun w => Y_pt f2 w)
  have b1 := far_bd x u
  have b2 := far_bd y v
  have b3 := far_bd x' u'
  have b4 := far_bd y' v'
  obtain ⟨⟨wa, wb, x1, x2, y1, y2⟩, hs, u0, v0⟩ := h
  obtain ⟨⟨wa', wb', x1', x2', y1', y2'⟩, hs', u0', v0'⟩ := h'
  have m1 := max_int x x'
  have m2 := max_int y y'
  have m3 := min_int (farI x u) (farI x' u')
  have m4 := min_int (farI y v) (farI y' v')
  change Hid (∀ w, Calls Try.prog 23 #[.complex .f64 a b, .complex .f64 c d] w fun e w' => e = .returned (.complex .f64 (fl (farI x u)) (fl (farI y v))) ∧ w = w') at C1
  change Hid (∀ w, Calls Try.prog 23 #[.complex .f64 a' b', .complex .f64 c' d'] w fun e w' => e = .returned (.complex .f64 (fl (farI x' u')) (fl (farI y' v'))) ∧ w = w') at C2
  change Hid (∀ w, Calls Try.prog 18 #[.complex .f64 (fl (farI x u)) (fl (farI y v))] w fun e w' => e = .returned (.int .i64 (farI x u)) ∧ w = w') at X3
  change Hid (∀ w, Calls Try.prog 19 #[.complex .f64 (fl (farI x u)) (fl (farI y v))] w fun e w' => e = .returned (.int .i64 (farI y v)) ∧ w = w') at Y3
  change Hid (∀ w, Calls Try.prog 18 #[.complex .f64 (fl (farI x' u')) (fl (farI y' v'))] w fun e w' => e = .returned (.int .i64 (farI x' u')) ∧ w = w') at X4
  change Hid (∀ w, Calls Try.prog 19 #[.complex .f64 (fl (farI x' u')) (fl (farI y' v'))] w fun e w' => e = .returned (.int .i64 (farI y' v')) ∧ w = w') at Y4
  clear f1 f2 hs hs' wa wb wa' wb' u0 v0 u0' v0'
  generalize farI x u = FX at *
  generalize farI y v = FY at *
  generalize farI x' u' = GX at *
  generalize farI y' v' = GY at *
  have D := Lib.hid (fun w => refSub_pt (fl (min FX GX)) (fl (min FY GY)) (fl (max x x')) (fl (max y y')) _ _ _ _ w (pt_fl (by omega) (by omega) (by omega) (by omega)) (pt_fl (by omega) (by omega) (by omega) (by omega)))
  have PF : Pt (fl (min FX GX)) (fl (min FY GY)) _ _ := pt_fl (by omega) (by omega) (by omega) (by omega)
  have PC : Pt (fl (max x x')) (fl (max y y')) _ _ := pt_fl (by omega) (by omega) (by omega) (by omega)
  have X5 := Lib.hid (fun w => X_pt PF w)
  have Y5 := Lib.hid (fun w => Y_pt PF w)
  have X6 := Lib.hid (fun w => X_pt PC w)
  have Y6 := Lib.hid (fun w => Y_pt PC w)
  clear PF PC b1 b2 b3 b4 x1 x2 y1 y2 x1' x2' y1' y2'
  generalize max x x' = n1 at *
  generalize max y y' = n2 at *
  generalize min FX GX = n3 at *
  generalize min FY GY = n4 at *
  clear D
  by_cases l1 : n3 ≤ n1
  · clear hm Y5 Y6
    go_enter Try.func31, Try.ntmps31
    go_wp2_with fail
    refine (C1.out _).mono ?_
    rintro e w' ⟨rfl, rfl⟩
    go_wp2_with fail
    refine (C2.out _).mono ?_
    rintro e w' ⟨rfl, rfl⟩
    go_wp2_with fail
    refine (X1.out _).mono ?_
    rintro e w' ⟨rfl, rfl⟩
    go_wp2_with fail
    refine (X2.out _).mono ?_
    rintro e w' ⟨rfl, rfl⟩
    go_wp2_with fail
    refine (Y1.out _).mono ?_
    rintro e w' ⟨rfl, rfl⟩
    go_wp2_with fail
    refine (Y2.out _).mono ?_
    rintro e w' ⟨rfl, rfl⟩
    go_wp2_with fail
    refine (refOf_any _ _ _).mono ?_
    rintro e w' ⟨rfl, rfl⟩
    go_wp2_with fail
    refine (X3.out _).mono ?_
    rintro e w' ⟨rfl, rfl⟩
    go_wp2_with fail
    refine (X4.out _).mono ?_
    rintro e w' ⟨rfl, rfl⟩
    go_wp2_with fail
    refine (Y3.out _).mono ?_
    rintro e w' ⟨rfl, rfl⟩
    go_wp2_with fail
    refine (Y4.out _).mono ?_
    rintro e w' ⟨rfl, rfl⟩
    go_wp2_with fail
    refine (refOf_any _ _ _).mono ?_
    rintro e w' ⟨rfl, rfl⟩
    go_wp2_with fail
    refine (X5.out _).mono ?_
    rintro e w' ⟨rfl, rfl⟩
    go_wp2_with fail
    refine (X6.out _).mono ?_
    rintro e w' ⟨rfl, rfl⟩
    go_wp2_with fail
    go_ret2
    exact ⟨rfl, rfl⟩
  · have l2 : n4 ≤ n2 := by
      have h1 : decide (n1 < n3) = true := decide_eq_true (by omega)
      rw [h1, Bool.true_and, decide_eq_false_iff_not] at hm
      omega
    clear hm
    go_enter Try.func31, Try.ntmps31
    go_wp2_with fail
    refine (C1.out _).mono ?_
    rintro e w' ⟨rfl, rfl⟩
    go_wp2_with fail
    refine (C2.out _).mono ?_
    rintro e w' ⟨rfl, rfl⟩
    go_wp2_with fail
    refine (X1.out _).mono ?_
    rintro e w' ⟨rfl, rfl⟩
    go_wp2_with fail
    refine (X2.out _).mono ?_
    rintro e w' ⟨rfl, rfl⟩
    go_wp2_with fail
    refine (Y1.out _).mono ?_
    rintro e w' ⟨rfl, rfl⟩
    go_wp2_with fail
    refine (Y2.out _).mono ?_
    rintro e w' ⟨rfl, rfl⟩
    go_wp2_with fail
    refine (refOf_any _ _ _).mono ?_
    rintro e w' ⟨rfl, rfl⟩
    go_wp2_with fail
    refine (X3.out _).mono ?_
    rintro e w' ⟨rfl, rfl⟩
    go_wp2_with fail
    refine (X4.out _).mono ?_
    rintro e w' ⟨rfl, rfl⟩
    go_wp2_with fail
    refine (Y3.out _).mono ?_
    rintro e w' ⟨rfl, rfl⟩
    go_wp2_with fail
    refine (Y4.out _).mono ?_
    rintro e w' ⟨rfl, rfl⟩
    go_wp2_with fail
    refine (refOf_any _ _ _).mono ?_
    rintro e w' ⟨rfl, rfl⟩
    go_wp2_with fail
    refine (X5.out _).mono ?_
    rintro e w' ⟨rfl, rfl⟩
    go_wp2_with fail
    refine (X6.out _).mono ?_
    rintro e w' ⟨rfl, rfl⟩
    go_wp2_with fail
    refine (Y5.out _).mono ?_
    rintro e w' ⟨rfl, rfl⟩
    go_wp2_with fail
    refine (Y6.out _).mono ?_
    rintro e w' ⟨rfl, rfl⟩
    go_wp2_with fail
    go_ret2
    exact ⟨rfl, rfl⟩

set_option maxHeartbeats 400000 in
theorem wakes_any (w : World) :
    Calls Try.prog 20 #[] w fun e w' => e = .returned (.bool true) ∧ Below w.heap.size w w' := by
  have C := Lib.hid (fun w => of_yes 1 2 w (by decide) (by decide))
  have hp : Pt (fl 1) (fl 2) 1 2 := pt_fl (by decide) (by decide) (by decide) (by decide)
  have D := Lib.hid (fun w => turn_yes _ _ _ _ w hp)
  have e1 : (FloatKind.f64.format.order (fl 2) 4611686018427387904 == some .eq) = true := by
    rw [← bits_2, eq_wh hp.wb hp.wb]; rfl
  have e2 : (FloatKind.f64.format.order (fl 1) 4607182418800017408 == some .eq) = true := by
    rw [← bits_1, eq_wh hp.wa hp.wa]; rfl
  clear hp
  generalize fl 1 = z1 at *
  generalize fl 2 = z2 at *
  go_enter Try.func20, Try.ntmps20
  go_wp2_with fail
  refine (C.out _).mono ?_
  rintro e w' ⟨rfl, rfl⟩
  go_wp2_with fail
  refine (D.out _).mono ?_
  rintro e w1 ⟨rfl, hb⟩
  go_wp2_with fail
  refine (num_any _ _).mono ?_
  rintro e w' ⟨rfl, rfl⟩
  go_wp2_with fail
  refine (num_any _ _).mono ?_
  rintro e w' ⟨rfl, rfl⟩
  go_wp2_with fail
  go_ret
  exact ⟨rfl, hb⟩
end Go.Proofs.Ytjoeogdkcggmdaa
