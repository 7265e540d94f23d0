/- Contracts of the page's own for points and boxes, and of the law's small helpers. -/
import Derived.Test.YtjoeogdkcggmdaaP4
import Derived.Deep.RegionWith
namespace Go.Proofs.Ytjoeogdkcggmdaa
open Go.RowKit
set_option linter.unusedVariables false

set_option maxHeartbeats 400000 in
theorem num_any (n : Int) (w : World) :
    Calls Try.prog 17 #[.int .i64 n] w fun e w' => e = .returned (.int .i64 n) ∧ w = w' := by
  go_enter Try.func17, Try.ntmps17
  go_wp2
  go_ret
  exact ⟨rfl, rfl⟩

set_option maxHeartbeats 400000 in
theorem iadd_any (x y : Int) (w : World) (x1 : -1099511627776 ≤ x) (x2 : x ≤ 1099511627776) (y1 : -1099511627776 ≤ y) (y2 : y ≤ 1099511627776) :
    Calls Try.prog 38 #[.int .i64 x, .int .i64 y] w fun e w' => e = .returned (.int .i64 (satI (x + y))) ∧ w = w' := by
  go_enter Try.func38, Try.ntmps38
  go_wp2_with (go_at_call 47; refine (refsat_any _ _).mono ?_; rintro e w' ⟨rfl, rfl⟩)
  go_ret
  exact ⟨rfl, rfl⟩

set_option maxHeartbeats 400000 in
theorem isub_any (x y : Int) (w : World) (x1 : -1099511627776 ≤ x) (x2 : x ≤ 1099511627776) (y1 : -1099511627776 ≤ y) (y2 : y ≤ 1099511627776) :
    Calls Try.prog 39 #[.int .i64 x, .int .i64 y] w fun e w' => e = .returned (.int .i64 (satI (x - y))) ∧ w = w' := by
  go_enter Try.func39, Try.ntmps39
  go_wp2_with (go_at_call 47; refine (refsat_any _ _).mono ?_; rintro e w' ⟨rfl, rfl⟩)
  go_ret
  exact ⟨rfl, rfl⟩

theorem X_pt {a b : Nat} {x y : Int} (h : Pt a b x y) (w : World) :
    Calls Try.prog 18 #[.complex .f64 a b] w fun e w' => e = .returned (.int .i64 x) ∧ w = w' :=
  refX_wh a b x w h.wa (by have := h.x1; omega) (by have := h.x2; omega)
theorem Y_pt {a b : Nat} {x y : Int} (h : Pt a b x y) (w : World) :
    Calls Try.prog 19 #[.complex .f64 a b] w fun e w' => e = .returned (.int .i64 y) ∧ w = w' :=
  refY_wh a b y w h.wb (by have := h.y1; omega) (by have := h.y2; omega)

set_option maxHeartbeats 400000 in
theorem refAdd_pt (a b c d : Nat) (x y u v : Int) (w : World) (h : Pt a b x y) (g : Pt c d u v) :
    Calls Try.prog 23 #[.complex .f64 a b, .complex .f64 c d] w fun e w' => e = .returned (.complex .f64 (fl (satI (x + u))) (fl (satI (y + v)))) ∧ w = w' := by
  have C1 := Lib.hid (fun w => X_pt h w)
  have C2 := Lib.hid (fun w => X_pt g w)
  have C3 := Lib.hid (fun w => Y_pt h w)
  have C4 := Lib.hid (fun w => Y_pt g w)
  have C5 := Lib.hid (fun w => iadd_any x u w h.x1 h.x2 g.x1 g.x2)
  have C6 := Lib.hid (fun w => iadd_any y v w h.y1 h.y2 g.y1 g.y2)
  clear h g
  go_enter Try.func23, Try.ntmps23
  go_wp2_with fail
  refine (C1.out _).mono ?_
  rintro e w' ⟨rfl, rfl⟩
  go_wp2_with fail
  refine (C2.out _).mono ?_
  rintro e w' ⟨rfl, rfl⟩
  go_wp2_with fail
  refine (C5.out _).mono ?_
  rintro e w' ⟨rfl, rfl⟩
  go_wp2_with fail
  refine (C3.out _).mono ?_
  rintro e w' ⟨rfl, rfl⟩
  go_wp2_with fail
  refine (C4.out _).mono ?_
  rintro e w' ⟨rfl, rfl⟩
  go_wp2_with fail
  refine (C6.out _).mono ?_
  rintro e w' ⟨rfl, rfl⟩
  go_wp2_with fail
  refine (refOf_any _ _ _).mono ?_
  rintro e w' ⟨rfl, rfl⟩
  go_wp2_with fail
  go_ret
  exact ⟨rfl, rfl⟩

set_option maxHeartbeats 400000 in
theorem refSub_pt (a b c d : Nat) (x y u v : Int) (w : World) (h : Pt a b x y) (g : Pt c d u v) :
    Calls Try.prog 24 #[.complex .f64 a b, .complex .f64 c d] w fun e w' => e = .returned (.complex .f64 (fl (satI (x - u))) (fl (satI (y - v)))) ∧ w = w' := by
  have C1 := Lib.hid (fun w => X_pt h w)
  have C2 := Lib.hid (fun w => X_pt g w)
  have C3 := Lib.hid (fun w => Y_pt h w)
  have C4 := Lib.hid (fun w => Y_pt g w)
  have C5 := Lib.hid (fun w => isub_any x u w h.x1 h.x2 g.x1 g.x2)
  have C6 := Lib.hid (fun w => isub_any y v w h.y1 h.y2 g.y1 g.y2)
  clear h g
  go_enter Try.func24, Try.ntmps24
  go_wp2_with fail
  refine (C1.out _).mono ?_
  rintro e w' ⟨rfl, rfl⟩
  go_wp2_with fail
  refine (C2.out _).mono ?_
  rintro e w' ⟨rfl, rfl⟩
  go_wp2_with fail
  refine (C5.out _).mono ?_
  rintro e w' ⟨rfl, rfl⟩
  go_wp2_with fail
  refine (C3.out _).mono ?_
  rintro e w' ⟨rfl, rfl⟩
  go_wp2_with fail
  refine (C4.out _).mono ?_
  rintro e w' ⟨rfl, rfl⟩
  go_wp2_with fail
  refine (C6.out _).mono ?_
  rintro e w' ⟨rfl, rfl⟩
  go_wp2_with fail
  refine (refOf_any _ _ _).mono ?_
  rintro e w' ⟨rfl, rfl⟩
  go_wp2_with fail
  go_ret
  exact ⟨rfl, rfl⟩

theorem refPoint_is (a b : Nat) (v : Bool) (w : World) (h : isPt a b = v) :
    Calls Try.prog 16 #[.complex .f64 a b] w fun e w' => e = .returned (.bool v) ∧ w = w' := by
  rw [← h]; exact refPoint_any a b w

set_option maxHeartbeats 400000 in
theorem refBox_any (a b c d : Nat) (w : World) :
    Calls Try.prog 25 #[.complex .f64 a b, .complex .f64 c d] w fun e w' => e = .returned (.bool (isBox a b c d)) ∧ w = w' := by
  unfold isBox
  cases h1 : isPt a b
  · have C := Lib.hid (fun w => refPoint_is a b _ w h1)
    clear h1
    go_enter Try.func25, Try.ntmps25
    go_wp2_with fail
    refine (C.out _).mono ?_
    rintro e w' ⟨rfl, rfl⟩
    go_wp2_with fail
    go_ret
    exact ⟨rfl, rfl⟩
  · have C := Lib.hid (fun w => refPoint_is a b _ w h1)
    cases h2 : isPt c d
    · have D := Lib.hid (fun w => refPoint_is c d _ w h2)
      clear h1 h2
      go_enter Try.func25, Try.ntmps25
      go_wp2_with fail
      refine (C.out _).mono ?_
      rintro e w' ⟨rfl, rfl⟩
      go_wp2_with fail
      refine (D.out _).mono ?_
      rintro e w' ⟨rfl, rfl⟩
      go_wp2_with fail
      go_ret
      exact ⟨rfl, rfl⟩
    · have D := Lib.hid (fun w => refPoint_is c d _ w h2)
      have hp := pt_of h2
      have E := Lib.hid (fun w => X_pt hp w)
      have F := Lib.hid (fun w => Y_pt hp w)
      clear h1 h2 hp
      generalize partOf c = u at *
      generalize partOf d = v at *
      by_cases hu : 0 ≤ u
      · have hu' := decide_eq_true hu
        rw [hu']
        clear hu'
        go_enter Try.func25, Try.ntmps25
        go_wp2_with fail
        refine (C.out _).mono ?_
        rintro e w' ⟨rfl, rfl⟩
        go_wp2_with fail
        refine (D.out _).mono ?_
        rintro e w' ⟨rfl, rfl⟩
        go_wp2_with fail
        refine (E.out _).mono ?_
        rintro e w' ⟨rfl, rfl⟩
        go_wp2_with fail
        refine (F.out _).mono ?_
        rintro e w' ⟨rfl, rfl⟩
        go_wp2_with fail
        go_ret
        exact ⟨rfl, rfl⟩
      · have hu' := decide_eq_false hu
        rw [hu']
        clear hu' F
        go_enter Try.func25, Try.ntmps25
        go_wp2_with fail
        refine (C.out _).mono ?_
        rintro e w' ⟨rfl, rfl⟩
        go_wp2_with fail
        refine (D.out _).mono ?_
        rintro e w' ⟨rfl, rfl⟩
        go_wp2_with fail
        refine (E.out _).mono ?_
        rintro e w' ⟨rfl, rfl⟩
        go_wp2_with fail
        go_ret
        exact ⟨rfl, rfl⟩

theorem refBox_is (a b c d : Nat) (v : Bool) (w : World) (h : isBox a b c d = v) :
    Calls Try.prog 25 #[.complex .f64 a b, .complex .f64 c d] w fun e w' => e = .returned (.bool v) ∧ w = w' := by
  rw [← h]; exact refBox_any a b c d w

theorem f64bits_run (b : Nat) (w : World) : (callFunc 48 #[.float .f64 b]).run Try.prog w = .ok (.value (.int .u64 b)) w := by
  rw [run_callFunc_extern (e := Extern.MathFloatBits.float64bits) Try.func48 (by kernel_rfl) (by kernel_rfl) (by kernel_rfl) (by kernel_rfl)]
  rfl

set_option maxHeartbeats 400000 in
theorem signbit_zero (w : World) :
    Calls Try.prog 44 #[.float .f64 0] w fun e w' => e = .returned (.bool false) ∧ w = w' := by
  have h := f64bits_run 0
  go_enter Try.func44, Try.ntmps44
  go_wp2
  go_ret
  exact ⟨rfl, rfl⟩

theorem ne_wh {x y : Nat} {p q : Int} (hx : Wh x p) (hy : Wh y q) : (FloatKind.f64.format.order x y != some .eq) = decide (p ≠ q) := by
  have := eq_wh hx hy
  rw [bne, this]
  by_cases h : p = q <;> simp [h]

set_option maxHeartbeats 400000 in
theorem clean_fl (x y : Int) (w : World) (x1 : -1099511627776 ≤ x) (x2 : x ≤ 1099511627776) (y1 : -1099511627776 ≤ y) (y2 : y ≤ 1099511627776) :
    Calls Try.prog 32 #[.complex .f64 (fl x) (fl y)] w fun e w' => e = .returned (.bool true) ∧ w = w' := by
  have h := pt_fl x1 x2 y1 y2
  have e1 := ne_wh h.wa wh_zero
  have e2 := ne_wh h.wb wh_zero
  have S := Lib.hid signbit_zero
  clear h x1 x2 y1 y2
  by_cases hx : x = 0
  · rw [show fl x = 0 by rw [hx, fl_zero]] at e1 ⊢
    rw [decide_eq_false (by simp [hx])] at e1
    by_cases hy : y = 0
    · rw [show fl y = 0 by rw [hy, fl_zero]] at e2 ⊢
      rw [decide_eq_false (by simp [hy])] at e2
      clear hx hy
      go_enter Try.func32, Try.ntmps32
      go_wp2_with fail
      refine (S.out _).mono ?_
      rintro e w' ⟨rfl, rfl⟩
      go_wp2_with fail
      refine (S.out _).mono ?_
      rintro e w' ⟨rfl, rfl⟩
      go_wp2_with fail
      go_ret
      exact ⟨rfl, rfl⟩
    · rw [decide_eq_true (by simp [hy])] at e2
      clear hx hy
      go_enter Try.func32, Try.ntmps32
      go_wp2_with fail
      refine (S.out _).mono ?_
      rintro e w' ⟨rfl, rfl⟩
      go_wp2_with fail
      go_ret
      exact ⟨rfl, rfl⟩
  · rw [decide_eq_true (by simp [hx])] at e1
    by_cases hy : y = 0
    · rw [show fl y = 0 by rw [hy, fl_zero]] at e2 ⊢
      rw [decide_eq_false (by simp [hy])] at e2
      clear hx hy
      go_enter Try.func32, Try.ntmps32
      go_wp2_with fail
      refine (S.out _).mono ?_
      rintro e w' ⟨rfl, rfl⟩
      go_wp2_with fail
      go_ret
      exact ⟨rfl, rfl⟩
    · rw [decide_eq_true (by simp [hy])] at e2
      clear hx hy S
      go_enter Try.func32, Try.ntmps32
      go_wp2_with fail
      go_ret
      exact ⟨rfl, rfl⟩

set_option maxHeartbeats 400000 in
theorem told_no (w : World) :
    Calls Try.prog 11 #[.complex .f64 0 0, .int .i64 1, .bool false, .complex .f64 0 0] w fun e w' => e = .returned (.bool true) ∧ w = w' := by
  have e1 := eq_wh wh_zero wh_zero
  rw [decide_eq_true rfl] at e1
  go_enter Try.func11, Try.ntmps11
  go_wp2_with fail
  refine (num_any _ _).mono ?_
  rintro e w' ⟨rfl, rfl⟩
  go_wp2_with fail
  go_ret
  exact ⟨rfl, rfl⟩

set_option maxHeartbeats 400000 in
theorem told_yes (x y : Int) (w : World) (x1 : -1099511627776 ≤ x) (x2 : x ≤ 1099511627776) (y1 : -1099511627776 ≤ y) (y2 : y ≤ 1099511627776) :
    Calls Try.prog 11 #[.complex .f64 (fl x) (fl y), .int .i64 0, .bool true, .complex .f64 (fl x) (fl y)] w fun e w' => e = .returned (.bool true) ∧ w = w' := by
  have h := pt_fl x1 x2 y1 y2
  have e1 := eq_wh h.wa h.wa
  have e2 := eq_wh h.wb h.wb
  rw [decide_eq_true rfl] at e1 e2
  have C := Lib.hid (fun w => clean_fl x y w x1 x2 y1 y2)
  clear h x1 x2 y1 y2
  go_enter Try.func11, Try.ntmps11
  go_wp2_with fail
  refine (num_any _ _).mono ?_
  rintro e w' ⟨rfl, rfl⟩
  go_wp2_with fail
  refine (C.out _).mono ?_
  rintro e w' ⟨rfl, rfl⟩
  go_wp2_with fail
  go_ret
  exact ⟨rfl, rfl⟩

def withinI (i n : Int) : Int := i % 18446744073709551616 % n
theorem within_bd (i n : Int) (hn : 0 < n) : 0 ≤ withinI i n ∧ withinI i n < n :=
  ⟨Int.emod_nonneg _ (Int.ne_of_gt hn), Int.emod_lt_of_pos _ hn⟩

set_option maxHeartbeats 400000 in
theorem within_any (i n : Int) (w : World) (hn : 0 < n) (hn' : n ≤ 4611686018427387904) :
    Calls Try.prog 33 #[.int .i64 i, .int .i64 n] w fun e w' => e = .returned (.int .i64 (withinI i n)) ∧ w = w' := by
  have hz : (n == 0) = false := by simp; omega
  go_enter Try.func33, Try.ntmps33
  go_wp2
  go_ret
  have h1 := Int.emod_nonneg (i % 18446744073709551616) (Int.ne_of_gt hn)
  have h2 := Int.emod_lt_of_pos (i % 18446744073709551616) hn
  exact ⟨ret_int (by unfold withinI; rw [IntKind.wrap_u64, Int.tmod_eq_emod_of_nonneg (by omega), IntWalk.wrap64_in _ (by omega)]), rfl⟩
end Go.Proofs.Ytjoeogdkcggmdaa
