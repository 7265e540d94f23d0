/- Contracts: parts of points. -/
import Derived.Test.YtjoeogdkcggmdaaA
import Derived.Test.YtjoeogdkcggmdaaM2
import Derived.WalkMore
import Derived.ScopeJumps
namespace Go.Proofs.Ytjoeogdkcggmdaa
open Go.RowKit
set_option linter.unusedVariables false

theorem conv_fi (b : Nat) (n : Int) (h : floatToIntVal .f64 b .i64 = some n) (w : World) : (convert 23 3 (.float .f64 b)).run Try.prog w = .ok (.int .i64 n) w :=
  run_convert_float_int w 23 3 .f64 .i64 b n (by kernel_rfl) (by kernel_rfl) h

theorem conv_if (n : Int) (w : World) : (convert 3 23 (.int .i64 n)).run Try.prog w = .ok (.float .f64 (fl n)) w :=
  run_convert_int_float (w := w) 3 23 .i64 .f64 n (by kernel_rfl) (by kernel_rfl)

set_option maxHeartbeats 400000 in
theorem isCoord_any (b : Nat) (w : World) :
    Calls Try.prog 45 #[.float .f64 b] w fun e w' => e = .returned (.bool (isPart b)) ∧ w = w' := by
  rcases part_cases b with ⟨h1, hp⟩ | ⟨h1, h2, hp⟩ | ⟨h1, h2, n, hn, h3, _⟩
  · rw [hp]
    clear hp
    go_enter Try.func45, Try.ntmps45
    go_wp2
    go_ret
    exact ⟨rfl, rfl⟩
  · rw [hp]
    clear hp
    go_enter Try.func45, Try.ntmps45
    go_wp2
    go_ret
    exact ⟨rfl, rfl⟩
  · have c1 := conv_fi b n hn
    clear hn
    have H3 := Lib.hid h3
    clear h3
    go_enter Try.func45, Try.ntmps45
    go_wp2
    go_ret
    exact ⟨ret_bool H3.out, rfl⟩

set_option maxHeartbeats 400000 in
theorem half_any (b : Nat) (w : World) :
    Calls Try.prog 37 #[.float .f64 b] w fun e w' => e = .returned (.bool (isPart b)) ∧ w = w' := by
  rcases part_cases b with ⟨h1, hp⟩ | ⟨h1, h2, hp⟩ | ⟨h1, h2, n, hn, _, h3⟩
  · rw [hp]
    clear hp
    go_enter Try.func37, Try.ntmps37
    go_wp2
    go_ret
    exact ⟨rfl, rfl⟩
  · rw [hp]
    clear hp
    go_enter Try.func37, Try.ntmps37
    go_wp2
    go_ret
    exact ⟨rfl, rfl⟩
  · have c1 := conv_fi b n hn
    clear hn
    have H3 := Lib.hid h3
    clear h3
    go_enter Try.func37, Try.ntmps37
    go_wp2
    go_ret
    exact ⟨ret_bool H3.out, rfl⟩

/-- both halves are parts -/
def isPt (a b : Nat) : Bool := isPart a && isPart b

theorem half_is (b : Nat) (v : Bool) (w : World) (h : isPart b = v) :
    Calls Try.prog 37 #[.float .f64 b] w fun e w' => e = .returned (.bool v) ∧ w = w' := by
  rw [← h]; exact half_any b w
theorem isCoord_is (b : Nat) (v : Bool) (w : World) (h : isPart b = v) :
    Calls Try.prog 45 #[.float .f64 b] w fun e w' => e = .returned (.bool v) ∧ w = w' := by
  rw [← h]; exact isCoord_any b w

set_option maxHeartbeats 400000 in
theorem refPoint_any (a b : Nat) (w : World) :
    Calls Try.prog 16 #[.complex .f64 a b] w fun e w' => e = .returned (.bool (isPt a b)) ∧ w = w' := by
  unfold isPt
  cases h : isPart a
  · have C := Lib.hid (fun w => half_is a _ w h)
    clear h
    go_enter Try.func16, Try.ntmps16
    go_wp2_with (go_at_call 37; refine (C.out _).mono ?_; rintro e w' ⟨rfl, rfl⟩)
    go_ret
    exact ⟨rfl, rfl⟩
  · cases h2 : isPart b
    · have C := Lib.hid (fun w => half_is a _ w h)
      have D := Lib.hid (fun w => half_is b _ w h2)
      clear h h2
      go_enter Try.func16, Try.ntmps16
      go_wp2_with fail
      refine (C.out _).mono ?_
      rintro e w' ⟨rfl, rfl⟩
      go_wp2_with fail
      refine (D.out _).mono ?_
      rintro e w' ⟨rfl, rfl⟩
      go_wp2_with fail
      go_ret
      exact ⟨rfl, rfl⟩
    · have C := Lib.hid (fun w => half_is a _ w h)
      have D := Lib.hid (fun w => half_is b _ w h2)
      clear h h2
      go_enter Try.func16, Try.ntmps16
      go_wp2_with fail
      refine (C.out _).mono ?_
      rintro e w' ⟨rfl, rfl⟩
      go_wp2_with fail
      refine (D.out _).mono ?_
      rintro e w' ⟨rfl, rfl⟩
      go_wp2_with fail
      go_ret
      exact ⟨rfl, rfl⟩

set_option maxHeartbeats 400000 in
theorem refX_wh (a b : Nat) (n : Int) (w : World) (h : Wh a n) (h1 : -4398046511104 ≤ n) (h2 : n ≤ 4398046511104) :
    Calls Try.prog 18 #[.complex .f64 a b] w fun e w' => e = .returned (.int .i64 n) ∧ w = w' := by
  have c := conv_fi a n (int_wh h h1 h2)
  clear h h1 h2
  go_enter Try.func18, Try.ntmps18
  go_wp2
  go_ret
  exact ⟨rfl, rfl⟩

set_option maxHeartbeats 400000 in
theorem refY_wh (a b : Nat) (n : Int) (w : World) (h : Wh b n) (h1 : -4398046511104 ≤ n) (h2 : n ≤ 4398046511104) :
    Calls Try.prog 19 #[.complex .f64 a b] w fun e w' => e = .returned (.int .i64 n) ∧ w = w' := by
  have c := conv_fi b n (int_wh h h1 h2)
  clear h h1 h2
  go_enter Try.func19, Try.ntmps19
  go_wp2
  go_ret
  exact ⟨rfl, rfl⟩

set_option maxHeartbeats 400000 in
theorem refOf_any (x y : Int) (w : World) :
    Calls Try.prog 12 #[.int .i64 x, .int .i64 y] w fun e w' => e = .returned (.complex .f64 (fl x) (fl y)) ∧ w = w' := by
  go_enter Try.func12, Try.ntmps12
  go_wp2
  go_ret
  exact ⟨rfl, rfl⟩

set_option maxHeartbeats 400000 in
theorem satPart_wh (b : Nat) (n : Int) (w : World) (h : Wh b n) (h1 : -4398046511104 ≤ n) (h2 : n ≤ 4398046511104) :
    Calls Try.prog 46 #[.float .f64 b] w fun e w' => e = .returned (.float .f64 (fl (satI n))) ∧ w = w' := by
  have c := conv_fi b n (int_wh h h1 h2)
  clear h h1 h2
  go_enter Try.func46, Try.ntmps46
  go_wp2_with (go_at_call 49; refine (sat_any _ _).mono ?_; rintro e w' ⟨rfl, rfl⟩)
  go_ret
  exact ⟨rfl, rfl⟩

set_option maxHeartbeats 400000 in
theorem saturated_wh (a b : Nat) (n m : Int) (w : World) (h : Wh a n) (h1 : -4398046511104 ≤ n) (h2 : n ≤ 4398046511104) (g : Wh b m) (g1 : -4398046511104 ≤ m) (g2 : m ≤ 4398046511104) :
    Calls Try.prog 36 #[.complex .f64 a b] w fun e w' => e = .returned (.complex .f64 (fl (satI n)) (fl (satI m))) ∧ w = w' := by
  have C := Lib.hid (fun w => satPart_wh a n w h h1 h2)
  have D := Lib.hid (fun w => satPart_wh b m w g g1 g2)
  clear h h1 h2 g g1 g2
  go_enter Try.func36, Try.ntmps36
  go_wp2_with fail
  refine (C.out _).mono ?_
  rintro e w' ⟨rfl, rfl⟩
  go_wp2_with fail
  refine (D.out _).mono ?_
  rintro e w' ⟨rfl, rfl⟩
  go_wp2_with fail
  go_ret
  exact ⟨rfl, rfl⟩

set_option maxHeartbeats 400000 in
theorem of_yes (x y : Int) (w : World) (hx : coordB x = true) (hy : coordB y = true) :
    Calls Try.prog 10 #[.int .i64 x, .int .i64 y] w fun e w' => e = .returned (.tuple #[.complex .f64 (fl x) (fl y), .int .i64 0]) ∧ w = w' := by
  have C := Lib.hid (fun w => check_yes x w hx)
  have D := Lib.hid (fun w => check_yes y w hy)
  clear hx hy
  go_enter Try.func10, Try.ntmps10
  go_wp2_with fail
  refine (C.out _).mono ?_
  rintro e w' ⟨rfl, rfl⟩
  go_wp2_with fail
  refine (D.out _).mono ?_
  rintro e w' ⟨rfl, rfl⟩
  go_wp2_with fail
  go_ret2
  exact ⟨rfl, rfl⟩

set_option maxHeartbeats 400000 in
theorem of_no (x y : Int) (w : World) (h : (coordB x && coordB y) = false) :
    Calls Try.prog 10 #[.int .i64 x, .int .i64 y] w fun e w' => e = .returned (.tuple #[.complex .f64 0 0, .int .i64 1]) ∧ w = w' := by
  cases hx : coordB x
  · have C := Lib.hid (fun w => check_no x w hx)
    clear hx h
    go_enter Try.func10, Try.ntmps10
    go_wp2_with fail
    refine (C.out _).mono ?_
    rintro e w' ⟨rfl, rfl⟩
    go_wp2_with fail
    go_ret2
    exact ⟨rfl, rfl⟩
  · have hy : coordB y = false := by rw [hx] at h; exact h
    have C := Lib.hid (fun w => check_yes x w hx)
    have D := Lib.hid (fun w => check_no y w hy)
    clear hx hy h
    go_enter Try.func10, Try.ntmps10
    go_wp2_with fail
    refine (C.out _).mono ?_
    rintro e w' ⟨rfl, rfl⟩
    go_wp2_with fail
    refine (D.out _).mono ?_
    rintro e w' ⟨rfl, rfl⟩
    go_wp2_with fail
    go_ret2
    exact ⟨rfl, rfl⟩

set_option maxHeartbeats 400000 in
theorem isAbove_wh (a b c d : Nat) (p q r s : Int) (w : World) (ha : Wh a p) (hb : Wh b q) (hc : Wh c r) (hd : Wh d s) :
    Calls Try.prog 41 #[.complex .f64 a b, .complex .f64 c d] w fun e w' => e = .returned (.bool (decide (r < p) && decide (s < q))) ∧ w = w' := by
  have e1 := gt_wh ha hc
  have e2 := gt_wh hb hd
  clear ha hb hc hd
  by_cases h1 : r < p
  · rw [decide_eq_true h1] at e1 ⊢
    have E2 := Lib.hid e2
    clear e2 h1
    go_enter Try.func41, Try.ntmps41
    go_wp2
    go_ret
    exact ⟨ret_bool E2.out, rfl⟩
  · rw [decide_eq_false h1] at e1 ⊢
    clear e2 h1
    go_enter Try.func41, Try.ntmps41
    go_wp2
    go_ret
    exact ⟨rfl, rfl⟩

theorem min_fl (x y : Int) (hx1 : -9007199254740992 < x) (hx2 : x < 9007199254740992) (hy1 : -9007199254740992 < y) (hy2 : y < 9007199254740992) (ts : Array TypeId) (t : TypeId) (w : World) :
    (Builtin.min_ ts t #[.float .f64 (fl x), .float .f64 (fl y)]).run Try.prog w = .ok (.float .f64 (fl (min x y))) w := by
  have o := ord_wh (wh_fl x hx1 hx2) (wh_fl y hy1 hy2)
  change (Builtin.min2 (.float .f64 (fl x)) (.float .f64 (fl y)) >>= fun v => pure v).run Try.prog w = _
  simp only [Builtin.min2, o]
  by_cases h : x < y
  · rw [if_pos h, Int.min_eq_left (by omega)]; rfl
  · rw [if_neg h]
    by_cases g : x = y
    · subst g
      rw [if_pos rfl, ite_self, Int.min_self]; rfl
    · rw [if_neg g, Int.min_eq_right (by omega)]; rfl

theorem max_fl (x y : Int) (hx1 : -9007199254740992 < x) (hx2 : x < 9007199254740992) (hy1 : -9007199254740992 < y) (hy2 : y < 9007199254740992) (ts : Array TypeId) (t : TypeId) (w : World) :
    (Builtin.max_ ts t #[.float .f64 (fl x), .float .f64 (fl y)]).run Try.prog w = .ok (.float .f64 (fl (max x y))) w := by
  have o := ord_wh (wh_fl x hx1 hx2) (wh_fl y hy1 hy2)
  change (Builtin.max2 (.float .f64 (fl x)) (.float .f64 (fl y)) >>= fun v => pure v).run Try.prog w = _
  simp only [Builtin.max2, o]
  by_cases h : x < y
  · rw [if_pos h, Int.max_eq_right (by omega)]; rfl
  · rw [if_neg h]
    by_cases g : x = y
    · subst g
      rw [if_pos rfl, ite_self, Int.max_self]; rfl
    · rw [if_neg g, Int.max_eq_left (by omega)]; rfl

set_option maxHeartbeats 400000 in
theorem smaller_fl (p q r s : Int) (w : World) (p1 : -9007199254740992 < p) (p2 : p < 9007199254740992) (q1 : -9007199254740992 < q) (q2 : q < 9007199254740992) (r1 : -9007199254740992 < r) (r2 : r < 9007199254740992) (s1 : -9007199254740992 < s) (s2 : s < 9007199254740992) :
    Calls Try.prog 42 #[.complex .f64 (fl p) (fl q), .complex .f64 (fl r) (fl s)] w fun e w' => e = .returned (.complex .f64 (fl (min p r)) (fl (min q s))) ∧ w = w' := by
  have e1 := min_fl p r p1 p2 r1 r2
  have e2 := min_fl q s q1 q2 s1 s2
  clear p1 p2 q1 q2 r1 r2 s1 s2
  generalize fl (min p r) = x1 at *
  generalize fl (min q s) = x2 at *
  generalize fl p = y1 at *
  generalize fl q = y2 at *
  generalize fl r = y3 at *
  generalize fl s = y4 at *
  go_enter Try.func42, Try.ntmps42
  go_wp2
  go_ret
  exact ⟨rfl, rfl⟩

set_option maxHeartbeats 400000 in
theorem larger_fl (p q r s : Int) (w : World) (p1 : -9007199254740992 < p) (p2 : p < 9007199254740992) (q1 : -9007199254740992 < q) (q2 : q < 9007199254740992) (r1 : -9007199254740992 < r) (r2 : r < 9007199254740992) (s1 : -9007199254740992 < s) (s2 : s < 9007199254740992) :
    Calls Try.prog 43 #[.complex .f64 (fl p) (fl q), .complex .f64 (fl r) (fl s)] w fun e w' => e = .returned (.complex .f64 (fl (max p r)) (fl (max q s))) ∧ w = w' := by
  have e1 := max_fl p r p1 p2 r1 r2
  have e2 := max_fl q s q1 q2 s1 s2
  clear p1 p2 q1 q2 r1 r2 s1 s2
  generalize fl (max p r) = x1 at *
  generalize fl (max q s) = x2 at *
  generalize fl p = y1 at *
  generalize fl q = y2 at *
  generalize fl r = y3 at *
  generalize fl s = y4 at *
  go_enter Try.func43, Try.ntmps43
  go_wp2
  go_ret
  exact ⟨rfl, rfl⟩
end Go.Proofs.Ytjoeogdkcggmdaa
