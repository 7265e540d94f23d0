/- The small functions of keys. -/
import Derived.Test.YtobnecjkanaofaaM2
namespace Go.Proofs.Ytobnecjkanaofaa
open Go.RowKit Go.Lib

theorem byte_wrap (s : ByteArray) (i : Nat) (h : i < s.size) : wrap64 ((s[i]'h).toNat : Int) = ((s[i]'h).toNat : Int) := by
  have := (s[i]'h).toNat_lt
  exact IntWalk.wrap64_in _ (by omega)
theorem emp_iff (s : ByteArray) : s.toList = [] ↔ strN s = [] := by
  rw [ByteArray.toList_eq]; unfold strN
  constructor
  · intro h; rw [h]; rfl
  · intro h; exact List.map_eq_nil_iff.1 h
theorem em_strN (s : ByteArray) : (s.toList == (ByteArray.mk #[]).toList) = decide (strN s = []) := same_strN s ⟨#[]⟩
theorem at_strN (s : ByteArray) (i : Nat) (h : i < s.size) (d : Int) : ((s[i]'h).toNat : Int) = (strN s).getD i d := by
  unfold strN
  rw [List.getD_eq_getElem?_getD, List.getElem?_map]
  rw [List.getElem?_eq_getElem (by simpa using h)]
  rfl
theorem far_strN (s : ByteArray) (i : Nat) (h : ¬ i < s.size) (d : Int) : (strN s).getD i d = d := by
  rw [List.getD_eq_getElem?_getD, List.getElem?_eq_none (by rw [strN_len]; omega)]; rfl

set_option maxHeartbeats 400000 in
theorem num_any (n : Int) (w : World) : Calls Try.prog 8 #[.int .i64 n] w fun e w' => e = .returned (.int .i64 n) ∧ w = w' := by
  go_enter Try.func8, Try.ntmps8
  go_wp2
  go_ret
  exact ⟨rfl, rfl⟩

set_option maxHeartbeats 400000 in
theorem low_any (s : ByteArray) (i : Nat) (w : World) : Calls Try.prog 20 #[.string s, .int .i64 (i : Int)] w fun e w' => e = .returned (.int .i64 ((strN s).getD i 0)) ∧ w = w' := by
  by_cases h : i < s.size
  · have hd : decide ((s.size : Int) ≤ (i : Int)) = false := decide_eq_false (by omega)
    have HE := Lib.hid (at_strN s i h 0)
    go_enter Try.func20, Try.ntmps20
    go_wp2
    go_ret
    exact ⟨ret_int ((byte_wrap s i h).trans HE.out), rfl⟩
  · have hd : decide ((s.size : Int) ≤ (i : Int)) = true := decide_eq_true (by omega)
    have HE := Lib.hid (far_strN s i h 0)
    go_enter Try.func20, Try.ntmps20
    go_wp2
    go_ret
    exact ⟨ret_int HE.out.symm, rfl⟩

set_option maxHeartbeats 400000 in
theorem high_any (s : ByteArray) (i : Nat) (w : World) : Calls Try.prog 21 #[.string s, .int .i64 (i : Int)] w fun e w' => e = .returned (.int .i64 ((strN s).getD i 256)) ∧ w = w' := by
  by_cases h : i < s.size
  · have hd : decide ((s.size : Int) ≤ (i : Int)) = false := decide_eq_false (by omega)
    have HE := Lib.hid (at_strN s i h 256)
    go_enter Try.func21, Try.ntmps21
    go_wp2
    go_ret
    exact ⟨ret_int ((byte_wrap s i h).trans HE.out), rfl⟩
  · have hd : decide ((s.size : Int) ≤ (i : Int)) = true := decide_eq_true (by omega)
    have HE := Lib.hid (far_strN s i h 256)
    go_enter Try.func21, Try.ntmps21
    go_wp2
    go_ret
    exact ⟨ret_int HE.out.symm, rfl⟩

def errK (s : ByteArray) : Int := if keyB (strN s) = true then 0 else 1
theorem keyB_size (s : ByteArray) : keyB (strN s) = (decide (strN s ≠ []) && decide (s.size ≤ 64) && decide ((strN s).getD (s.size - 1) 0 ≠ 0)) := by
  unfold keyB
  rw [endB_last, strN_len]
  by_cases h : strN s = []
  · simp [h]
  · simp only [h, ne_eq, not_false_iff, decide_true, Bool.true_and]
    rw [Bool.and_comm]


theorem emp_yes {s : ByteArray} (h : strN s = []) : s.toList.isEmpty = true ∧ s.toList = [] := by
  have := (emp_iff s).2 h
  exact ⟨by rw [this]; rfl, this⟩
theorem emp_no {s : ByteArray} (h : ¬ strN s = []) : s.toList.isEmpty = false ∧ ¬ s.toList = [] := by
  have : ¬ s.toList = [] := fun e => h ((emp_iff s).1 e)
  refine ⟨?_, this⟩
  cases hl : s.toList with
  | nil => exact absurd hl this
  | cons => rfl
theorem size_pos {s : ByteArray} (h : ¬ strN s = []) : 0 < s.size := by
  rw [← strN_len]
  exact List.length_pos_iff.2 h

theorem keyB_true {s : ByteArray} (h0 : ¬ strN s = []) (h1 : s.size ≤ 64) (h2 : ¬ (strN s).getD (s.size - 1) 0 = 0) : keyB (strN s) = true := by
  rw [keyB_size, decide_eq_true h0, decide_eq_true h1, decide_eq_true h2]; rfl
set_option maxHeartbeats 400000 in
theorem check_any (s : ByteArray) (w : World) : Calls Try.prog 9 #[.string s] w fun e w' => e = .returned (.int .i64 (errK s)) ∧ w = w' := by
  by_cases h0 : strN s = []
  · have HE : Hid (errK s = 1) := by show _ = _; simp [errK, keyB, h0, endB]
    obtain ⟨e1, e2⟩ := emp_yes h0
    clear h0
    go_enter Try.func9, Try.ntmps9
    go_wp2
    go_ret
    exact ⟨ret_int HE.out.symm, rfl⟩
  · obtain ⟨e1, e2⟩ := emp_no h0
    have hp := size_pos h0
    by_cases h1 : 64 < s.size
    · have HE : Hid (errK s = 1) := by show _ = _; simp [errK, keyB_size]; omega
      have hd : decide ((64 : Int) < (s.size : Int)) = true := decide_eq_true (by omega)
      clear h0
      go_enter Try.func9, Try.ntmps9
      go_wp2
      go_ret
      exact ⟨ret_int HE.out.symm, rfl⟩
    · have hd : decide ((64 : Int) < (s.size : Int)) = false := decide_eq_false (by omega)
      have hl := at_strN s (s.size - 1) (by omega) 0
      by_cases hz : (strN s).getD (s.size - 1) 0 = 0
      · have HE : Hid (errK s = 1) := by show _ = _; simp [errK, keyB_size]; intros; exact hz
        have hk : (((s[s.size - 1]'(by omega)).toNat : Int) == 0) = true := by rw [hl, hz]; rfl
        clear h0 hl hz
        go_enter Try.func9, Try.ntmps9
        go_wp2
        go_ret
        exact ⟨ret_int HE.out.symm, rfl⟩
      · have HE : Hid (errK s = 0) := by show _ = _; rw [errK, if_pos (keyB_true h0 (by omega) hz)]
        have hk : (((s[s.size - 1]'(by omega)).toNat : Int) == 0) = false := by rw [hl]; simpa using hz
        clear h0 hl hz
        go_enter Try.func9, Try.ntmps9
        go_wp2
        go_ret
        exact ⟨ret_int HE.out.symm, rfl⟩

set_option maxHeartbeats 400000 in
theorem refKey_any (s : ByteArray) (w : World) : Calls Try.prog 10 #[.string s] w fun e w' => e = .returned (.bool (keyB (strN s))) ∧ w = w' := by
  by_cases h0 : strN s = []
  · have HE : Hid (keyB (strN s) = false) := by show _ = _; simp [keyB, h0, endB]
    have hs : s.size = 0 := by rw [← strN_len, h0]; rfl
    have hd : decide ((1 : Int) ≤ (s.size : Int)) = false := decide_eq_false (by omega)
    clear h0
    go_enter Try.func10, Try.ntmps10
    go_wp2
    go_ret
    exact ⟨ret_bool HE.out.symm, rfl⟩
  · have hp := size_pos h0
    have hd0 : decide ((1 : Int) ≤ (s.size : Int)) = true := decide_eq_true (by omega)
    by_cases h1 : 64 < s.size
    · have HE : Hid (keyB (strN s) = false) := by show _ = _; simp [keyB_size]; omega
      have hd : decide ((s.size : Int) ≤ (64 : Int)) = false := decide_eq_false (by omega)
      clear h0
      go_enter Try.func10, Try.ntmps10
      go_wp2
      go_ret
      exact ⟨ret_bool HE.out.symm, rfl⟩
    · have hd : decide ((s.size : Int) ≤ (64 : Int)) = true := decide_eq_true (by omega)
      have hl := at_strN s (s.size - 1) (by omega) 0
      by_cases hz : (strN s).getD (s.size - 1) 0 = 0
      · have HE : Hid (keyB (strN s) = false) := by show _ = _; simp [keyB_size]; intros; exact hz
        have hk : (((s[s.size - 1]'(by omega)).toNat : Int) != 0) = false := by rw [hl, hz]; rfl
        clear h0 hl hz
        go_enter Try.func10, Try.ntmps10
        go_wp2
        go_ret
        exact ⟨ret_bool HE.out.symm, rfl⟩
      · have HE : Hid (keyB (strN s) = true) := by exact keyB_true h0 (by omega) hz
        have hk : (((s[s.size - 1]'(by omega)).toNat : Int) != 0) = true := by rw [hl]; simpa using hz
        clear h0 hl hz
        go_enter Try.func10, Try.ntmps10
        go_wp2
        go_ret
        exact ⟨ret_bool HE.out.symm, rfl⟩

set_option maxHeartbeats 400000 in
theorem limit_any (s : ByteArray) (w : World) : Calls Try.prog 19 #[.string s] w fun e w' => e = .returned (.bool (limB (strN s))) ∧ w = w' := by
  have HC := Lib.hid (fun W => check_any s W)
  by_cases h0 : strN s = []
  · have HE : Hid (limB (strN s) = true) := by show _ = _; simp [limB, h0]
    obtain ⟨e1, e2⟩ := emp_yes h0
    clear h0
    go_enter Try.func19, Try.ntmps19
    go_wp2
    go_ret
    exact ⟨ret_bool HE.out.symm, rfl⟩
  · obtain ⟨e1, e2⟩ := emp_no h0
    by_cases hk : keyB (strN s) = true
    · have HE : Hid (limB (strN s) = true) := by show _ = _; simp [limB, hk]
      have hr : errK s = 0 := by simp [errK, hk]
      rw [hr] at HC
      clear h0 hk hr
      go_enter Try.func19, Try.ntmps19
      go_wp2_with fail
      refine (HC.out _).mono ?_
      rintro e w' ⟨rfl, rfl⟩
      go_wp2
      go_ret
      exact ⟨ret_bool HE.out.symm, rfl⟩
    · have HE : Hid (limB (strN s) = false) := by show _ = _; simp [limB, hk, h0]
      have hr : errK s = 1 := by simp [errK, hk]
      rw [hr] at HC
      clear h0 hk hr
      go_enter Try.func19, Try.ntmps19
      go_wp2_with fail
      refine (HC.out _).mono ?_
      rintro e w' ⟨rfl, rfl⟩
      go_wp2
      go_ret
      exact ⟨ret_bool HE.out.symm, rfl⟩

set_option maxHeartbeats 400000 in
theorem limits_any (s t : ByteArray) (w : World) : Calls Try.prog 17 #[.string s, .string t] w fun e w' => e = .returned (.bool (mayB (strN s) (strN t))) ∧ w = w' := by
  have HS := Lib.hid (fun W => limit_any s W)
  have HT := Lib.hid (fun W => limit_any t W)
  cases hs : limB (strN s) with
  | false =>
    have HE : Hid (mayB (strN s) (strN t) = false) := by show _ = _; simp [mayB, hs]
    rw [hs] at HS
    clear hs
    go_enter Try.func17, Try.ntmps17
    go_wp2_with fail
    refine (HS.out _).mono ?_
    rintro e w' ⟨rfl, rfl⟩
    go_wp2
    go_ret
    exact ⟨ret_bool HE.out.symm, rfl⟩
  | true =>
    rw [hs] at HS
    cases ht : limB (strN t) with
    | false =>
      have HE : Hid (mayB (strN s) (strN t) = false) := by show _ = _; simp [mayB, ht]
      rw [ht] at HT
      clear hs ht
      go_enter Try.func17, Try.ntmps17
      go_wp2_with fail
      refine (HS.out _).mono ?_
      rintro e w' ⟨rfl, rfl⟩
      go_wp2_with fail
      refine (HT.out _).mono ?_
      rintro e w' ⟨rfl, rfl⟩
      go_wp2
      go_ret
      exact ⟨ret_bool HE.out.symm, rfl⟩
    | true =>
      rw [ht] at HT
      by_cases h0 : strN s = []
      · have HE : Hid (mayB (strN s) (strN t) = true) := by show _ = _; simp [mayB, ht, hs]; simp [h0]
        obtain ⟨e1, e2⟩ := emp_yes h0
        clear h0 hs ht
        go_enter Try.func17, Try.ntmps17
        go_wp2_with fail
        refine (HS.out _).mono ?_
        rintro e w' ⟨rfl, rfl⟩
        go_wp2_with fail
        refine (HT.out _).mono ?_
        rintro e w' ⟨rfl, rfl⟩
        go_wp2
        go_ret
        exact ⟨ret_bool HE.out.symm, rfl⟩
      · obtain ⟨e1, e2⟩ := emp_no h0
        by_cases h1 : strN t = []
        · have HE : Hid (mayB (strN s) (strN t) = true) := by show _ = _; simp [mayB, ht, hs]; simp [h1]
          obtain ⟨f1, f2⟩ := emp_yes h1
          clear h0 hs ht h1
          go_enter Try.func17, Try.ntmps17
          go_wp2_with fail
          refine (HS.out _).mono ?_
          rintro e w' ⟨rfl, rfl⟩
          go_wp2_with fail
          refine (HT.out _).mono ?_
          rintro e w' ⟨rfl, rfl⟩
          go_wp2
          go_ret
          exact ⟨ret_bool HE.out.symm, rfl⟩
        · have HE : Hid (mayB (strN s) (strN t) = ltB (strN s) (strN t)) := by show _ = _; simp [mayB, ht, hs, h0, h1]
          obtain ⟨f1, f2⟩ := emp_no h1
          have HL := Lib.hid (less_strN s t)
          clear h0 hs ht h1
          go_enter Try.func17, Try.ntmps17
          go_wp2_with fail
          refine (HS.out _).mono ?_
          rintro e w' ⟨rfl, rfl⟩
          go_wp2_with fail
          refine (HT.out _).mono ?_
          rintro e w' ⟨rfl, rfl⟩
          go_wp2
          go_ret
          exact ⟨ret_bool (HL.out.trans HE.out.symm), rfl⟩

set_option maxHeartbeats 400000 in
theorem refMay_any (s t : ByteArray) (w : World) : Calls Try.prog 11 #[.string s, .string t] w fun e w' => e = .returned (.bool (mayB (strN s) (strN t))) ∧ w = w' := by
  have HS := Lib.hid (fun W => refKey_any s W)
  have HT := Lib.hid (fun W => refKey_any t W)
  have HL := Lib.hid (less_strN s t)
  by_cases h0 : strN s = []
  · obtain ⟨e1, e2⟩ := emp_yes h0
    by_cases h1 : strN t = []
    · obtain ⟨f1, f2⟩ := emp_yes h1
      have HE : Hid (mayB (strN s) (strN t) = true) := by show _ = _; simp [mayB, limB, h0, h1]
      clear h0 h1
      go_enter Try.func11, Try.ntmps11
      go_wp2
      go_ret
      exact ⟨ret_bool HE.out.symm, rfl⟩
    · obtain ⟨f1, f2⟩ := emp_no h1
      have HE : Hid (mayB (strN s) (strN t) = keyB (strN t)) := by show _ = _; simp [mayB, limB, h0, h1]
      clear h0 h1
      cases ht : keyB (strN t) <;> rw [ht] at HE HT <;> clear ht
      all_goals
        go_enter Try.func11, Try.ntmps11
        go_wp2_with fail
        refine (HT.out _).mono ?_
        rintro e w' ⟨rfl, rfl⟩
        go_wp2
        go_ret
        exact ⟨ret_bool HE.out.symm, rfl⟩
  · obtain ⟨e1, e2⟩ := emp_no h0
    cases hs : keyB (strN s) with
    | false =>
      have HE : Hid (mayB (strN s) (strN t) = false) := by show _ = _; simp [mayB, limB, h0, hs]
      rw [hs] at HS
      clear h0 hs
      go_enter Try.func11, Try.ntmps11
      go_wp2_with fail
      refine (HS.out _).mono ?_
      rintro e w' ⟨rfl, rfl⟩
      go_wp2
      go_ret
      exact ⟨ret_bool HE.out.symm, rfl⟩
    | true =>
      rw [hs] at HS
      by_cases h1 : strN t = []
      · obtain ⟨f1, f2⟩ := emp_yes h1
        have HE : Hid (mayB (strN s) (strN t) = true) := by show _ = _; simp [mayB, limB, hs, h1]
        clear h0 h1 hs
        go_enter Try.func11, Try.ntmps11
        go_wp2_with fail
        refine (HS.out _).mono ?_
        rintro e w' ⟨rfl, rfl⟩
        go_wp2
        go_ret
        exact ⟨ret_bool HE.out.symm, rfl⟩
      · obtain ⟨f1, f2⟩ := emp_no h1
        cases ht : keyB (strN t) with
        | false =>
          have HE : Hid (mayB (strN s) (strN t) = false) := by show _ = _; simp [mayB, limB, h1, ht]
          rw [ht] at HT
          clear h0 hs h1 ht
          go_enter Try.func11, Try.ntmps11
          go_wp2_with fail
          refine (HS.out _).mono ?_
          rintro e w' ⟨rfl, rfl⟩
          go_wp2_with fail
          refine (HT.out _).mono ?_
          rintro e w' ⟨rfl, rfl⟩
          go_wp2
          go_ret
          exact ⟨ret_bool HE.out.symm, rfl⟩
        | true =>
          have HE : Hid (mayB (strN s) (strN t) = ltB (strN s) (strN t)) := by show _ = _; simp [mayB, limB, ht, hs, h0, h1]
          rw [ht] at HT
          clear h0 hs h1 ht
          go_enter Try.func11, Try.ntmps11
          go_wp2_with fail
          refine (HS.out _).mono ?_
          rintro e w' ⟨rfl, rfl⟩
          go_wp2_with fail
          refine (HT.out _).mono ?_
          rintro e w' ⟨rfl, rfl⟩
          go_wp2
          go_ret
          exact ⟨ret_bool (HL.out.trans HE.out.symm), rfl⟩

def modN (z : Int) (n : Nat) : Nat := (z % 18446744073709551616).toNat % n
theorem modN_lt (z : Int) {n : Nat} (h : 0 < n) : modN z n < n := Nat.mod_lt _ h
set_option maxHeartbeats 400000 in
theorem withinN_any (z : Int) (n : Nat) (w : World) (h0 : 0 < n) (h1 : n ≤ 1000) : Calls Try.prog 15 #[.int .i64 z, .int .i64 (n : Int)] w fun e w' => e = .returned (.int .i64 (modN z n : Nat)) ∧ w = w' := by
  go_enter Try.func15, Try.ntmps15
  go_wp2
  go_ret
  refine ⟨ret_int ?_, rfl⟩
  unfold modN
  rw [IntKind.wrap_u64, Int.tmod_eq_emod_of_nonneg (by omega), Int.natCast_emod, Int.toNat_of_nonneg (by omega)]
  have h2 : 0 ≤ z % 18446744073709551616 % (n : Int) := Int.emod_nonneg _ (by omega)
  have h3 : z % 18446744073709551616 % (n : Int) < (n : Int) := Int.emod_lt_of_pos _ (by omega)
  generalize z % 18446744073709551616 % (n : Int) = y at *
  exact IntWalk.wrap64_in y (by omega)
end Go.Proofs.Ytobnecjkanaofaa
