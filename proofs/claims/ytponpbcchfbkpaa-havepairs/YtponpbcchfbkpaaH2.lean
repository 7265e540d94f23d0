/- Two vectors: whether they go together; the larger one, how far behind; the sum of a row. -/
import Derived.Test.YtponpbcchfbkpaaH1
namespace Go.Proofs.Ytponpbcchfbkpaa
open Go.RowKit Go.Lib
set_option linter.unusedVariables false

theorem check_yes (a : Option Addr) (l : List Int) (n c : Nat) (w : World) (hr : RowK .i64 w a l) (hn : n = l.length) (hl : l.length ≤ 140737488355328) (h : vecB l = true) : Calls Try.prog 15 #[.slice a n c] w fun e w' => e = .returned (.int .i64 0) ∧ w = w' := by
  have := check_any a l n c w hr hn hl
  rw [errC_t h] at this
  exact this
theorem check_no (a : Option Addr) (l : List Int) (n c : Nat) (w : World) (hr : RowK .i64 w a l) (hn : n = l.length) (hl : l.length ≤ 140737488355328) (h : vecB l = false) : Calls Try.prog 15 #[.slice a n c] w fun e w' => e = .returned (.int .i64 1) ∧ w = w' := by
  have := check_any a l n c w hr hn hl
  rw [errC_f h] at this
  exact this
theorem refVector_is (a : Option Addr) (l : List Int) (n c : Nat) (w : World) (hr : RowK .i64 w a l) (hn : n = l.length) (hl : l.length ≤ 140737488355328) {b : Bool} (h : vecB l = b) : Calls Try.prog 13 #[.slice a n c] w fun e w' => e = .returned (.bool b) ∧ w = w' := by
  subst h
  exact refVector_any a l n c w hr hn hl

set_option maxHeartbeats 1000000 in
theorem compatible_any (a b : Option Addr) (l m : List Int) (na ca nb cb : Nat) (w : World) (ha : RowK .i64 w a l) (hb : RowK .i64 w b m) (hna : na = l.length) (hnb : nb = m.length) (hl : l.length ≤ 140737488355328) (hm : m.length ≤ 140737488355328) :
    Calls Try.prog 26 #[.slice a na ca, .slice b nb cb] w fun e w' => e = .returned (.bool (pairB l m)) ∧ w = w' := by
  by_cases h0 : na = nb
  · cases h1 : vecB l
    · have HV : Hid (pairB l m = false) := by show _ = false; rw [← Bool.not_eq_true, pairB_iff]; simp [h1]
      have C1 := Lib.hid (check_no a l na ca w ha hna hl h1)
      clear ha hb hna hnb h1
      subst h0
      go_enter Try.func26, Try.ntmps26
      go_wp2_with fail
      refine (C1.out).mono ?_
      rintro e w' ⟨rfl, rfl⟩
      go_wp2
      go_ret
      exact ⟨ret_bool HV.out.symm, rfl⟩
    · have C1 := Lib.hid (check_yes a l na ca w ha hna hl h1)
      cases h2 : vecB m
      · have HV : Hid (pairB l m = false) := by show _ = false; rw [← Bool.not_eq_true, pairB_iff]; simp [h2]
        have C2 := Lib.hid (check_no b m nb cb w hb hnb hm h2)
        clear ha hb hna hnb h1 h2
        subst h0
        go_enter Try.func26, Try.ntmps26
        go_wp2_with fail
        refine (C1.out).mono ?_
        rintro e w' ⟨rfl, rfl⟩
        go_wp2_with fail
        refine (C2.out).mono ?_
        rintro e w' ⟨rfl, rfl⟩
        go_wp2
        go_ret
        exact ⟨ret_bool HV.out.symm, rfl⟩
      · have HV : Hid (pairB l m = true) := by show _ = true; rw [pairB_iff]; exact ⟨h1, h2, by omega⟩
        have C2 := Lib.hid (check_yes b m nb cb w hb hnb hm h2)
        clear ha hb hna hnb h1 h2
        subst h0
        go_enter Try.func26, Try.ntmps26
        go_wp2_with fail
        refine (C1.out).mono ?_
        rintro e w' ⟨rfl, rfl⟩
        go_wp2_with fail
        refine (C2.out).mono ?_
        rintro e w' ⟨rfl, rfl⟩
        go_wp2
        go_ret
        exact ⟨ret_bool HV.out.symm, rfl⟩
  · have HV : Hid (pairB l m = false) := by show _ = false; rw [← Bool.not_eq_true, pairB_iff]; omega
    have t1 : ((na : Int) == (nb : Int)) = false := beq_eq_false_iff_ne.2 (by omega)
    have t2 : (na == nb) = false := beq_eq_false_iff_ne.2 (by omega)
    have t3 : ¬ (na : Int) = (nb : Int) := by omega
    clear ha hb hna hnb
    go_enter Try.func26, Try.ntmps26
    go_wp2
    go_ret
    exact ⟨ret_bool HV.out.symm, rfl⟩

set_option maxHeartbeats 1000000 in
theorem refPair_any (a b : Option Addr) (l m : List Int) (na ca nb cb : Nat) (w : World) (ha : RowK .i64 w a l) (hb : RowK .i64 w b m) (hna : na = l.length) (hnb : nb = m.length) (hl : l.length ≤ 140737488355328) (hm : m.length ≤ 140737488355328) :
    Calls Try.prog 16 #[.slice a na ca, .slice b nb cb] w fun e w' => e = .returned (.bool (pairB l m)) ∧ w = w' := by
  cases h1 : vecB l
  · have HV : Hid (pairB l m = false) := by show _ = false; rw [← Bool.not_eq_true, pairB_iff]; simp [h1]
    have C1 := Lib.hid (refVector_is a l na ca w ha hna hl h1)
    clear ha hb hna hnb h1
    go_enter Try.func16, Try.ntmps16
    go_wp2_with fail
    refine (C1.out).mono ?_
    rintro e w' ⟨rfl, rfl⟩
    go_wp2
    go_ret
    exact ⟨ret_bool HV.out.symm, rfl⟩
  · have C1 := Lib.hid (refVector_is a l na ca w ha hna hl h1)
    cases h2 : vecB m
    · have HV : Hid (pairB l m = false) := by show _ = false; rw [← Bool.not_eq_true, pairB_iff]; simp [h2]
      have C2 := Lib.hid (refVector_is b m nb cb w hb hnb hm h2)
      clear ha hb hna hnb h1 h2
      go_enter Try.func16, Try.ntmps16
      go_wp2_with fail
      refine (C1.out).mono ?_
      rintro e w' ⟨rfl, rfl⟩
      go_wp2_with fail
      refine (C2.out).mono ?_
      rintro e w' ⟨rfl, rfl⟩
      go_wp2
      go_ret
      exact ⟨ret_bool HV.out.symm, rfl⟩
    · have C2 := Lib.hid (refVector_is b m nb cb w hb hnb hm h2)
      by_cases h0 : na = nb
      · have HV : Hid (pairB l m = true) := by show _ = true; rw [pairB_iff]; exact ⟨h1, h2, by omega⟩
        clear ha hb hna hnb h1 h2
        subst h0
        go_enter Try.func16, Try.ntmps16
        go_wp2_with fail
        refine (C1.out).mono ?_
        rintro e w' ⟨rfl, rfl⟩
        go_wp2_with fail
        refine (C2.out).mono ?_
        rintro e w' ⟨rfl, rfl⟩
        go_wp2
        go_ret
        exact ⟨ret_bool HV.out.symm, rfl⟩
      · have HV : Hid (pairB l m = false) := by show _ = false; rw [← Bool.not_eq_true, pairB_iff]; omega
        have t1 : ((na : Int) == (nb : Int)) = false := beq_eq_false_iff_ne.2 (by omega)
        have t2 : (na == nb) = false := beq_eq_false_iff_ne.2 (by omega)
        have t3 : ¬ (na : Int) = (nb : Int) := by omega
        clear ha hb hna hnb h1 h2
        go_enter Try.func16, Try.ntmps16
        go_wp2_with fail
        refine (C1.out).mono ?_
        rintro e w' ⟨rfl, rfl⟩
        go_wp2_with fail
        refine (C2.out).mono ?_
        rintro e w' ⟨rfl, rfl⟩
        go_wp2
        go_ret
        exact ⟨ret_bool HV.out.symm, rfl⟩

theorem max_int (x y : Int) (ts : Array TypeId) (t : TypeId) (w : World) : (Builtin.max_ ts t #[.int .i64 x, .int .i64 y]).run Try.prog w = .ok (.int .i64 (max x y)) w := by
  change (Builtin.max2 (.int .i64 x) (.int .i64 y) >>= fun v => pure v).run Try.prog w = _
  simp only [Builtin.max2]
  by_cases h : x < y
  · rw [if_pos h, Int.max_eq_right (by omega)]; rfl
  · rw [if_neg h, Int.max_eq_left (by omega)]; rfl

set_option maxHeartbeats 400000 in
theorem larger_any (x y : Int) (w : World) : Calls Try.prog 28 #[.int .i64 x, .int .i64 y] w fun e w' => e = .returned (.int .i64 (max x y)) ∧ w = w' := by
  have hm := fun ts t W => max_int x y ts t W
  generalize max x y = z at *
  go_enter Try.func28, Try.ntmps28
  go_wp2
  go_ret
  exact ⟨rfl, rfl⟩

set_option maxHeartbeats 400000 in
theorem behind_any (x y : Int) (w : World) (hx : 0 ≤ x ∧ x ≤ 1099511627776) (hy : 0 ≤ y ∧ y ≤ 1099511627776) : Calls Try.prog 29 #[.int .i64 x, .int .i64 y] w fun e w' => e = .returned (.int .i64 (max 0 (y - x))) ∧ w = w' := by
  have hm := fun ts t W => max_int 0 (y - x) ts t W
  generalize max 0 (y - x) = z at *
  go_enter Try.func29, Try.ntmps29
  go_wp2
  go_ret
  exact ⟨rfl, rfl⟩
end Go.Proofs.Ytponpbcchfbkpaa
