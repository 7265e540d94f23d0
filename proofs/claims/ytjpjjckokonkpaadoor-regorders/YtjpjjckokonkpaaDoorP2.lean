/- The page's own: value, Check, Default, Goes. -/
import Derived.Test.YtjpjjckokonkpaaDoorP1
namespace Go.Proofs.YtjpjjckokonkpaaDoor.Pr
open Go.RowKit Go.Lib
set_option linter.unusedVariables false

theorem results_tmp4 {fn : Func} {t u v x : Tmp} (h : fn.results = #[.tmp t, .tmp u, .tmp v, .tmp x]) (tmps : Array Value) (P : Program) (w : World) :
    (results fn tmps).run P w = .ok (.tuple #[tmps.getD t undef, tmps.getD u undef, tmps.getD v undef, tmps.getD x undef]) w := by
  simp [results, h]
def ValPost (z : Int) (w : World) (e : Ending) (w' : World) : Prop := e = .returned (.tuple #[.int .i64 (if propB z then lowT z.toNat else 0), .int .i64 (if propB z then highT z.toNat else 0), .int .i64 (usZ z), .bool (propB z)]) ∧ w = w'

set_option maxHeartbeats 1000000 in
theorem value_0 (w : World) : Calls Tryd.prog 31 #[.int .i64 0] w (ValPost 0 w) := by
  go_enter Tryd.func31, Tryd.ntmps31
  go_wp2
  (try simp only [Exit.inBlock, Exit.then])
  refine bodyPost_ret (results_tmp4 rfl _ _ _) rfl ?_
  exact ⟨rfl, rfl⟩

set_option maxHeartbeats 1000000 in
theorem value_1 (w : World) : Calls Tryd.prog 31 #[.int .i64 1] w (ValPost 1 w) := by
  go_enter Tryd.func31, Tryd.ntmps31
  go_wp2
  (try simp only [Exit.inBlock, Exit.then])
  refine bodyPost_ret (results_tmp4 rfl _ _ _) rfl ?_
  exact ⟨rfl, rfl⟩

set_option maxHeartbeats 1000000 in
theorem value_2 (w : World) : Calls Tryd.prog 31 #[.int .i64 2] w (ValPost 2 w) := by
  go_enter Tryd.func31, Tryd.ntmps31
  go_wp2
  (try simp only [Exit.inBlock, Exit.then])
  refine bodyPost_ret (results_tmp4 rfl _ _ _) rfl ?_
  exact ⟨rfl, rfl⟩

set_option maxHeartbeats 1000000 in
theorem value_3 (w : World) : Calls Tryd.prog 31 #[.int .i64 3] w (ValPost 3 w) := by
  go_enter Tryd.func31, Tryd.ntmps31
  go_wp2
  (try simp only [Exit.inBlock, Exit.then])
  refine bodyPost_ret (results_tmp4 rfl _ _ _) rfl ?_
  exact ⟨rfl, rfl⟩

set_option maxHeartbeats 1000000 in
theorem value_4 (w : World) : Calls Tryd.prog 31 #[.int .i64 4] w (ValPost 4 w) := by
  go_enter Tryd.func31, Tryd.ntmps31
  go_wp2
  (try simp only [Exit.inBlock, Exit.then])
  refine bodyPost_ret (results_tmp4 rfl _ _ _) rfl ?_
  exact ⟨rfl, rfl⟩

set_option maxHeartbeats 1000000 in
theorem value_5 (w : World) : Calls Tryd.prog 31 #[.int .i64 5] w (ValPost 5 w) := by
  go_enter Tryd.func31, Tryd.ntmps31
  go_wp2
  (try simp only [Exit.inBlock, Exit.then])
  refine bodyPost_ret (results_tmp4 rfl _ _ _) rfl ?_
  exact ⟨rfl, rfl⟩

set_option maxHeartbeats 1000000 in
theorem value_6 (w : World) : Calls Tryd.prog 31 #[.int .i64 6] w (ValPost 6 w) := by
  go_enter Tryd.func31, Tryd.ntmps31
  go_wp2
  (try simp only [Exit.inBlock, Exit.then])
  refine bodyPost_ret (results_tmp4 rfl _ _ _) rfl ?_
  exact ⟨rfl, rfl⟩

set_option maxHeartbeats 1000000 in
theorem value_7 (w : World) : Calls Tryd.prog 31 #[.int .i64 7] w (ValPost 7 w) := by
  go_enter Tryd.func31, Tryd.ntmps31
  go_wp2
  (try simp only [Exit.inBlock, Exit.then])
  refine bodyPost_ret (results_tmp4 rfl _ _ _) rfl ?_
  exact ⟨rfl, rfl⟩

set_option maxHeartbeats 1000000 in
theorem value_8 (w : World) : Calls Tryd.prog 31 #[.int .i64 8] w (ValPost 8 w) := by
  go_enter Tryd.func31, Tryd.ntmps31
  go_wp2
  (try simp only [Exit.inBlock, Exit.then])
  refine bodyPost_ret (results_tmp4 rfl _ _ _) rfl ?_
  exact ⟨rfl, rfl⟩

set_option maxHeartbeats 1000000 in
theorem value_9 (w : World) : Calls Tryd.prog 31 #[.int .i64 9] w (ValPost 9 w) := by
  go_enter Tryd.func31, Tryd.ntmps31
  go_wp2
  (try simp only [Exit.inBlock, Exit.then])
  refine bodyPost_ret (results_tmp4 rfl _ _ _) rfl ?_
  exact ⟨rfl, rfl⟩

set_option maxHeartbeats 1000000 in
theorem value_10 (w : World) : Calls Tryd.prog 31 #[.int .i64 10] w (ValPost 10 w) := by
  go_enter Tryd.func31, Tryd.ntmps31
  go_wp2
  (try simp only [Exit.inBlock, Exit.then])
  refine bodyPost_ret (results_tmp4 rfl _ _ _) rfl ?_
  exact ⟨rfl, rfl⟩

set_option maxHeartbeats 1000000 in
theorem value_11 (w : World) : Calls Tryd.prog 31 #[.int .i64 11] w (ValPost 11 w) := by
  go_enter Tryd.func31, Tryd.ntmps31
  go_wp2
  (try simp only [Exit.inBlock, Exit.then])
  refine bodyPost_ret (results_tmp4 rfl _ _ _) rfl ?_
  exact ⟨rfl, rfl⟩

set_option maxHeartbeats 1000000 in
theorem value_12 (w : World) : Calls Tryd.prog 31 #[.int .i64 12] w (ValPost 12 w) := by
  go_enter Tryd.func31, Tryd.ntmps31
  go_wp2
  (try simp only [Exit.inBlock, Exit.then])
  refine bodyPost_ret (results_tmp4 rfl _ _ _) rfl ?_
  exact ⟨rfl, rfl⟩

set_option maxHeartbeats 1000000 in
theorem value_13 (w : World) : Calls Tryd.prog 31 #[.int .i64 13] w (ValPost 13 w) := by
  go_enter Tryd.func31, Tryd.ntmps31
  go_wp2
  (try simp only [Exit.inBlock, Exit.then])
  refine bodyPost_ret (results_tmp4 rfl _ _ _) rfl ?_
  exact ⟨rfl, rfl⟩

set_option maxHeartbeats 1000000 in
theorem value_14 (w : World) : Calls Tryd.prog 31 #[.int .i64 14] w (ValPost 14 w) := by
  go_enter Tryd.func31, Tryd.ntmps31
  go_wp2
  (try simp only [Exit.inBlock, Exit.then])
  refine bodyPost_ret (results_tmp4 rfl _ _ _) rfl ?_
  exact ⟨rfl, rfl⟩

set_option maxHeartbeats 1000000 in
theorem value_15 (w : World) : Calls Tryd.prog 31 #[.int .i64 15] w (ValPost 15 w) := by
  go_enter Tryd.func31, Tryd.ntmps31
  go_wp2
  (try simp only [Exit.inBlock, Exit.then])
  refine bodyPost_ret (results_tmp4 rfl _ _ _) rfl ?_
  exact ⟨rfl, rfl⟩

set_option maxHeartbeats 1000000 in
theorem value_16 (w : World) : Calls Tryd.prog 31 #[.int .i64 16] w (ValPost 16 w) := by
  go_enter Tryd.func31, Tryd.ntmps31
  go_wp2
  (try simp only [Exit.inBlock, Exit.then])
  refine bodyPost_ret (results_tmp4 rfl _ _ _) rfl ?_
  exact ⟨rfl, rfl⟩

set_option maxHeartbeats 1000000 in
theorem value_17 (w : World) : Calls Tryd.prog 31 #[.int .i64 17] w (ValPost 17 w) := by
  go_enter Tryd.func31, Tryd.ntmps31
  go_wp2
  (try simp only [Exit.inBlock, Exit.then])
  refine bodyPost_ret (results_tmp4 rfl _ _ _) rfl ?_
  exact ⟨rfl, rfl⟩

set_option maxHeartbeats 1000000 in
theorem value_18 (w : World) : Calls Tryd.prog 31 #[.int .i64 18] w (ValPost 18 w) := by
  go_enter Tryd.func31, Tryd.ntmps31
  go_wp2
  (try simp only [Exit.inBlock, Exit.then])
  refine bodyPost_ret (results_tmp4 rfl _ _ _) rfl ?_
  exact ⟨rfl, rfl⟩

set_option maxHeartbeats 1000000 in
theorem value_no (z : Int) (w : World) (h : propB z = false) : Calls Tryd.prog 31 #[.int .i64 z] w (ValPost z w) := by
  have HE : Hid (.returned (.tuple #[.int .i64 0, .int .i64 0, .int .i64 0, .bool false]) = Ending.returned (.tuple #[.int .i64 (if propB z then lowT z.toNat else 0), .int .i64 (if propB z then highT z.toNat else 0), .int .i64 (usZ z), .bool (propB z)])) := by
    show _ = _
    rw [usZ_no h, h]; rfl
  have hz := propB_no h
  clear h
  have n0 : ¬ z = 0 := by omega
  have n1 : ¬ z = 1 := by omega
  have n2 : ¬ z = 2 := by omega
  have n3 : ¬ z = 3 := by omega
  have n4 : ¬ z = 4 := by omega
  have n5 : ¬ z = 5 := by omega
  have n6 : ¬ z = 6 := by omega
  have n7 : ¬ z = 7 := by omega
  have n8 : ¬ z = 8 := by omega
  have n9 : ¬ z = 9 := by omega
  have n10 : ¬ z = 10 := by omega
  have n11 : ¬ z = 11 := by omega
  have n12 : ¬ z = 12 := by omega
  have n13 : ¬ z = 13 := by omega
  have n14 : ¬ z = 14 := by omega
  have n15 : ¬ z = 15 := by omega
  have n16 : ¬ z = 16 := by omega
  have n17 : ¬ z = 17 := by omega
  have n18 : ¬ z = 18 := by omega
  clear hz
  go_enter Tryd.func31, Tryd.ntmps31
  go_wp2
  (try simp only [Exit.inBlock, Exit.then])
  refine bodyPost_ret (results_tmp4 rfl _ _ _) rfl ?_
  exact ⟨HE.out, rfl⟩

theorem value_any (z : Int) (w : World) : Calls Tryd.prog 31 #[.int .i64 z] w (ValPost z w) := by
  cases h : propB z
  · exact value_no z w h
  · obtain ⟨p, rfl, hp⟩ := propB_yes h
    match p, hp with
    | 0, _ => exact value_0 w
    | 1, _ => exact value_1 w
    | 2, _ => exact value_2 w
    | 3, _ => exact value_3 w
    | 4, _ => exact value_4 w
    | 5, _ => exact value_5 w
    | 6, _ => exact value_6 w
    | 7, _ => exact value_7 w
    | 8, _ => exact value_8 w
    | 9, _ => exact value_9 w
    | 10, _ => exact value_10 w
    | 11, _ => exact value_11 w
    | 12, _ => exact value_12 w
    | 13, _ => exact value_13 w
    | 14, _ => exact value_14 w
    | 15, _ => exact value_15 w
    | 16, _ => exact value_16 w
    | 17, _ => exact value_17 w
    | 18, _ => exact value_18 w

set_option maxHeartbeats 1000000 in
theorem refCheck_any (z v : Int) (w : World) : Calls Tryd.prog 24 #[.int .i64 z, .int .i64 v] w fun e w' => e = .returned (.int .i64 (errP z v)) ∧ w = w' := by
  have HI := Lib.hid (value_any z w)
  unfold ValPost at HI
  generalize usZ z = us at *
  cases hb : propB z
  · rw [hb] at HI
    simp only [Bool.false_eq_true, if_false] at HI
    have HC := Lib.hid (errP_no v hb)
    clear hb
    go_enter Tryd.func24, Tryd.ntmps24
    go_wp2_with fail
    refine (HI.out).mono ?_
    rintro e w1 ⟨rfl, rfl⟩
    go_wp2
    go_ret
    exact ⟨ret_int HC.out.symm, rfl⟩
  · rw [hb] at HI
    obtain ⟨p, rfl, hp⟩ := propB_yes hb
    clear hb
    simp only [if_true, Int.toNat_natCast] at HI
    by_cases g1 : lowT p ≤ v
    · have hd1 : decide (v < lowT p) = false := decide_eq_false (by omega)
      by_cases g2 : v ≤ highT p
      · have HC := Lib.hid (errP_ok hp g1 g2)
        have hd2 : decide (highT p < v) = false := decide_eq_false (by omega)
        clear g1 g2
        generalize lowT p = lo at *
        generalize highT p = hi at *
        go_enter Tryd.func24, Tryd.ntmps24
        go_wp2_with fail
        refine (HI.out).mono ?_
        rintro e w1 ⟨rfl, rfl⟩
        go_wp2
        go_ret
        exact ⟨ret_int HC.out.symm, rfl⟩
      · have HC := Lib.hid (errP_hi hp g2)
        have hd2 : decide (highT p < v) = true := decide_eq_true (by omega)
        clear g1 g2
        generalize lowT p = lo at *
        generalize highT p = hi at *
        go_enter Tryd.func24, Tryd.ntmps24
        go_wp2_with fail
        refine (HI.out).mono ?_
        rintro e w1 ⟨rfl, rfl⟩
        go_wp2
        go_ret
        exact ⟨ret_int HC.out.symm, rfl⟩
    · have hd1 : decide (v < lowT p) = true := decide_eq_true (by omega)
      have HC := Lib.hid (errP_lo hp g1)
      clear g1
      generalize lowT p = lo at *
      generalize highT p = hi at *
      go_enter Tryd.func24, Tryd.ntmps24
      go_wp2_with fail
      refine (HI.out).mono ?_
      rintro e w1 ⟨rfl, rfl⟩
      go_wp2
      go_ret
      exact ⟨ret_int HC.out.symm, rfl⟩

theorem inT_iff : ∀ p : Nat, p < 19 → inT p = decide (p = 17 ∨ p = 18) := by decide
theorem inZ_is (z : Int) : inZ z = decide (z = 17 ∨ z = 18) := by
  cases h : propB z
  · rw [inZ_no h]
    have := propB_no h
    symm
    rw [decide_eq_false_iff_not]
    omega
  · obtain ⟨p, rfl, hp⟩ := propB_yes h
    rw [inZ_nat hp, inT_iff p hp]
    simp only [decide_eq_decide]
    omega
end Go.Proofs.YtjpjjckokonkpaaDoor.Pr
