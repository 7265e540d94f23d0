/- The page's own MulDiv. -/
import Derived.Test.YtladhdpmphmbpaaF
namespace Go.Proofs.Ytladhdpmphmbpaa
open Go.RowKit
set_option linter.unusedVariables false

/-- behind the bits from j on -/
def RefAt (a b c : Int) (j : Nat) (q r : Int) : Prop := q = min (a / 2 ^ j * b / c) 4398046511104 ∧ r = a / 2 ^ j * b % c

theorem ref_start (a b c : Int) (ha : 0 ≤ a) (ha' : a ≤ 1099511627776) : RefAt a b c 42 0 0 := by
  have h : a / 2 ^ 42 = 0 := by
    rw [show (2 : Int) ^ 42 = 4398046511104 from rfl]
    omega
  unfold RefAt
  rw [h, Int.zero_mul, Int.zero_ediv, Int.zero_emod]
  exact ⟨by decide, rfl⟩

theorem ref_bd (a b c q r : Int) (j : Nat) (ha : 0 ≤ a) (hb : 0 ≤ b) (hc : 0 < c) (h : RefAt a b c j q r) : 0 ≤ q ∧ q ≤ 4398046511104 ∧ 0 ≤ r ∧ r < c := by
  obtain ⟨h1, h2⟩ := h
  have h3 := Int.ediv_nonneg ha (Int.le_of_lt (pow_pos2 j))
  have h4 := Int.ediv_nonneg (Int.mul_nonneg h3 hb) (Int.le_of_lt hc)
  have h5 := Int.emod_nonneg (a / 2 ^ j * b) (Int.ne_of_gt hc)
  have h6 := Int.emod_lt_of_pos (a / 2 ^ j * b) hc
  omega

/-- one bit more -/
theorem ref_step (a b c q r : Int) (i : Nat) (ha : 0 ≤ a) (hb : 0 ≤ b) (hc : 0 < c) (h : RefAt a b c (i + 1) q r) (t : Int) (ht : t = a / 2 ^ i % 2) :
    RefAt a b c i (min (2 * q + (2 * r + t * b) / c) 4398046511104) ((2 * r + t * b) % c) := by
  have hv := whole_half a i
  rw [← ht] at hv
  have hbd := ref_bd a b c q r (i + 1) ha hb hc h
  obtain ⟨h1, h2⟩ := h
  have h3 := Int.ediv_nonneg ha (Int.le_of_lt (pow_pos2 (i + 1)))
  have h4 := Int.ediv_nonneg (Int.mul_nonneg h3 hb) (Int.le_of_lt hc)
  have h7 := Int.mul_ediv_add_emod (a / 2 ^ (i + 1) * b) c
  have htb : 0 ≤ t * b := Int.mul_nonneg (by omega) hb
  rw [← h2] at h7
  generalize a / 2 ^ (i + 1) = v at *
  generalize v * b / c = Q at *
  have e : a / 2 ^ i * b = c * (2 * Q) + (2 * r + t * b) := by rw [hv]; grind
  have h8 := Int.ediv_nonneg (show 0 ≤ 2 * r + t * b by omega) (Int.le_of_lt hc)
  unfold RefAt
  rw [e, Int.add_comm (c * (2 * Q)), Int.add_mul_ediv_left _ _ (by omega), Int.add_mul_emod_self_left]
  refine ⟨?_, rfl⟩
  omega

theorem ref_end (p c q r : Int) (a b : Int) (ha : 0 ≤ a) (hb : 0 ≤ b) (hc : 0 < c) (hp : p = a * b) (h : RefAt a b c 0 q r) : satI q = satI (p / c) ∧ satI (if 0 < r then -q - 1 else -q) = satI ((-p) / c) := by
  obtain ⟨h1, h2⟩ := h
  rw [Int.pow_zero, Int.ediv_one, ← hp] at h1 h2
  have h3 := Int.ediv_nonneg (show 0 ≤ p by rw [hp]; exact Int.mul_nonneg ha hb) (Int.le_of_lt hc)
  rw [neg_div p c hc, ← h2]
  generalize p / c = Q at *
  unfold satI
  refine ⟨?_, ?_⟩
  · split <;> (try split) <;> (try split) <;> (try split) <;> omega
  · split <;> (try split) <;> (try split) <;> (try split) <;> omega

theorem and_one_i64 (x : Int) (h0 : 0 ≤ x) (h1 : x ≤ 1099511627776) : bits .and .i64 x 1 = x % 2 := by
  have h127 : (BitVec.ofInt 64 1).toNat = 2 ^ 1 - 1 := by decide
  have key : (BitVec.ofInt 64 x &&& BitVec.ofInt 64 1).toNat = (x % ((2 ^ 64 : Nat) : Int)).toNat % 2 ^ 1 := by
    rw [BitVec.toNat_and, BitVec.toNat_ofInt, h127, Nat.and_two_pow_sub_one_eq_mod]
  show IntKind.i64.wrap ((BitVec.ofInt 64 x &&& BitVec.ofInt 64 1).toNat : Nat) = x % 2
  rw [key, IntKind.wrap_i64]
  omega

theorem min_if (x y : Int) : min x y = if y < x then y else x := by
  split <;> omega

set_option maxRecDepth 100000 in
set_option maxHeartbeats 1000000 in
theorem refmd_pp (a b c m n p : Int) (w : World) (hm : m = a) (hn : n = b) (hp : p = m * n) (ga : 0 ≤ a) (gb : 0 ≤ b) (ha1 : -1099511627776 ≤ a) (ha2 : a ≤ 1099511627776) (hb1 : -1099511627776 ≤ b) (hb2 : b ≤ 1099511627776) (hc0 : 0 < c) (hc1 : c ≤ 1099511627776) :
    Calls Try.prog 21 #[.int .i64 a, .int .i64 b, .int .i64 c] w fun e w' => e = .returned (.int .i64 (satI (p / c))) ∧ w = w' := by
  have hm0 : 0 ≤ m := by omega
  have hm1 : m ≤ 1099511627776 := by omega
  have hn0 : 0 ≤ n := by omega
  have hn1 : n ≤ 1099511627776 := by omega
  have HP := Lib.hid hp
  clear hp
  obtain rfl : m = a := hm
  obtain rfl : n = b := hn
  have da : decide (m < 0) = false := by simp; omega
  have db : decide (n < 0) = false := by simp; omega
  go_enter Try.func21, Try.ntmps21
  go_wp2_with fail
  go_loop [8, 9, 10] (fun s t u => ∃ (j : Nat) (q r : Int), j ≤ 42 ∧ s = .int .i64 q ∧ t = .int .i64 r ∧ u = .int .i64 ((j : Int) - 1) ∧ RefAt m n c j q r) (fun _ _ u => (intOf u + 1).toNat)
  case atStart => exact ⟨42, 0, 0, by omega, rfl, rfl, rfl, ref_start m n c hm0 hm1⟩
  case round =>
    obtain ⟨j, q, r, hj, rfl, rfl, rfl, hat⟩ := hrel
    obtain ⟨hq0, hq1, hr0, hr1⟩ := ref_bd m n c q r j hm0 hn0 hc0 hat
    by_cases hz : j = 0
    · subst hz
      obtain ⟨he1, he2⟩ := ref_end p c q r m n hm0 hn0 hc0 HP.out hat
      have HE1 := Lib.hid he1
      have HE2 := Lib.hid he2
      clear he1 he2 hat
      go_wp2_with (go_at_call 13; refine (refsat_any _ _).mono ?_; rintro e w' ⟨rfl, rfl⟩)
      go_ret
      exact ⟨ret_int HE1.out, rfl⟩
    · obtain ⟨i, rfl⟩ : ∃ i, j = i + 1 := ⟨j - 1, by omega⟩
      rw [show ((i + 1 : Nat) : Int) - 1 = (i : Int) by omega]
      have hx0 := Int.ediv_nonneg hm0 (Int.le_of_lt (pow_pos2 i))
      have hx1 := Int.ediv_le_self (2 ^ i) hm0
      have he := and_one_i64 (m / 2 ^ i) hx0 (by omega)
      have hst := ref_step m n c q r i hm0 hn0 hc0 hat _ rfl
      have ht : m / 2 ^ i % 2 = 0 ∨ m / 2 ^ i % 2 = 1 := by omega
      clear hz hat hx0 hx1
      rcases ht with ht | ht
      · rw [ht] at he hst
        rw [show 2 * r + 0 * n = 2 * r by omega] at hst
        have hd0 := Int.ediv_nonneg (show 0 ≤ 2 * r by omega) (Int.le_of_lt hc0)
        have hd1 := Int.ediv_le_self c (show 0 ≤ 2 * r by omega)
        have HST := Lib.hid hst
        clear hst ht
        go_wp2_with fail
        all_goals
          go_round
          case rel => exact ⟨i, _, _, by omega, rfl, rfl, rfl, by have h := HST.out; rw [min_if] at h; exact h⟩
          case measure => first | (simp [intOf]; done) | (simp [intOf]; omega)
      · rw [ht] at he hst
        rw [show 2 * r + 1 * n = 2 * r + n by omega] at hst
        have hd0 := Int.ediv_nonneg (show 0 ≤ 2 * r + n by omega) (Int.le_of_lt hc0)
        have hd1 := Int.ediv_le_self c (show 0 ≤ 2 * r + n by omega)
        have HST := Lib.hid hst
        clear hst ht
        go_wp2_with fail
        all_goals
          go_round
          case rel => exact ⟨i, _, _, by omega, rfl, rfl, rfl, by have h := HST.out; rw [min_if] at h; exact h⟩
          case measure => first | (simp [intOf]; done) | (simp [intOf]; omega)

set_option maxRecDepth 100000 in
set_option maxHeartbeats 1000000 in
theorem refmd_np (a b c m n p : Int) (w : World) (hm : m = (-a)) (hn : n = b) (hp : p = m * n) (ga : a < 0) (gb : 0 ≤ b) (ha1 : -1099511627776 ≤ a) (ha2 : a ≤ 1099511627776) (hb1 : -1099511627776 ≤ b) (hb2 : b ≤ 1099511627776) (hc0 : 0 < c) (hc1 : c ≤ 1099511627776) :
    Calls Try.prog 21 #[.int .i64 a, .int .i64 b, .int .i64 c] w fun e w' => e = .returned (.int .i64 (satI ((-p) / c))) ∧ w = w' := by
  have hm0 : 0 ≤ m := by omega
  have hm1 : m ≤ 1099511627776 := by omega
  have hn0 : 0 ≤ n := by omega
  have hn1 : n ≤ 1099511627776 := by omega
  have HP := Lib.hid hp
  clear hp
  have ea : -a = m := hm.symm
  obtain rfl : n = b := hn
  clear hm
  have da : decide (a < 0) = true := by simp; omega
  have db : decide (n < 0) = false := by simp; omega
  go_enter Try.func21, Try.ntmps21
  go_wp2_with fail
  go_loop [8, 9, 10] (fun s t u => ∃ (j : Nat) (q r : Int), j ≤ 42 ∧ s = .int .i64 q ∧ t = .int .i64 r ∧ u = .int .i64 ((j : Int) - 1) ∧ RefAt m n c j q r) (fun _ _ u => (intOf u + 1).toNat)
  case atStart => exact ⟨42, 0, 0, by omega, rfl, rfl, rfl, ref_start m n c hm0 hm1⟩
  case round =>
    obtain ⟨j, q, r, hj, rfl, rfl, rfl, hat⟩ := hrel
    obtain ⟨hq0, hq1, hr0, hr1⟩ := ref_bd m n c q r j hm0 hn0 hc0 hat
    by_cases hz : j = 0
    · subst hz
      obtain ⟨he1, he2⟩ := ref_end p c q r m n hm0 hn0 hc0 HP.out hat
      have HE1 := Lib.hid he1
      have HE2 := Lib.hid he2
      clear he1 he2 hat
      by_cases hr : 0 < r
      · go_wp2_with (go_at_call 13; refine (refsat_any _ _).mono ?_; rintro e w' ⟨rfl, rfl⟩)
        go_ret
        have h := HE2.out
        rw [if_pos hr] at h
        exact ⟨ret_int h, rfl⟩
      · go_wp2_with (go_at_call 13; refine (refsat_any _ _).mono ?_; rintro e w' ⟨rfl, rfl⟩)
        go_ret
        have h := HE2.out
        rw [if_neg (by omega)] at h
        exact ⟨ret_int h, rfl⟩
    · obtain ⟨i, rfl⟩ : ∃ i, j = i + 1 := ⟨j - 1, by omega⟩
      rw [show ((i + 1 : Nat) : Int) - 1 = (i : Int) by omega]
      have hx0 := Int.ediv_nonneg hm0 (Int.le_of_lt (pow_pos2 i))
      have hx1 := Int.ediv_le_self (2 ^ i) hm0
      have he := and_one_i64 (m / 2 ^ i) hx0 (by omega)
      have hst := ref_step m n c q r i hm0 hn0 hc0 hat _ rfl
      have ht : m / 2 ^ i % 2 = 0 ∨ m / 2 ^ i % 2 = 1 := by omega
      clear hz hat hx0 hx1
      rcases ht with ht | ht
      · rw [ht] at he hst
        rw [show 2 * r + 0 * n = 2 * r by omega] at hst
        have hd0 := Int.ediv_nonneg (show 0 ≤ 2 * r by omega) (Int.le_of_lt hc0)
        have hd1 := Int.ediv_le_self c (show 0 ≤ 2 * r by omega)
        have HST := Lib.hid hst
        clear hst ht
        go_wp2_with fail
        all_goals
          go_round
          case rel => exact ⟨i, _, _, by omega, rfl, rfl, rfl, by have h := HST.out; rw [min_if] at h; exact h⟩
          case measure => first | (simp [intOf]; done) | (simp [intOf]; omega)
      · rw [ht] at he hst
        rw [show 2 * r + 1 * n = 2 * r + n by omega] at hst
        have hd0 := Int.ediv_nonneg (show 0 ≤ 2 * r + n by omega) (Int.le_of_lt hc0)
        have hd1 := Int.ediv_le_self c (show 0 ≤ 2 * r + n by omega)
        have HST := Lib.hid hst
        clear hst ht
        go_wp2_with fail
        all_goals
          go_round
          case rel => exact ⟨i, _, _, by omega, rfl, rfl, rfl, by have h := HST.out; rw [min_if] at h; exact h⟩
          case measure => first | (simp [intOf]; done) | (simp [intOf]; omega)

set_option maxRecDepth 100000 in
set_option maxHeartbeats 1000000 in
theorem refmd_pn (a b c m n p : Int) (w : World) (hm : m = a) (hn : n = (-b)) (hp : p = m * n) (ga : 0 ≤ a) (gb : b < 0) (ha1 : -1099511627776 ≤ a) (ha2 : a ≤ 1099511627776) (hb1 : -1099511627776 ≤ b) (hb2 : b ≤ 1099511627776) (hc0 : 0 < c) (hc1 : c ≤ 1099511627776) :
    Calls Try.prog 21 #[.int .i64 a, .int .i64 b, .int .i64 c] w fun e w' => e = .returned (.int .i64 (satI ((-p) / c))) ∧ w = w' := by
  have hm0 : 0 ≤ m := by omega
  have hm1 : m ≤ 1099511627776 := by omega
  have hn0 : 0 ≤ n := by omega
  have hn1 : n ≤ 1099511627776 := by omega
  have HP := Lib.hid hp
  clear hp
  obtain rfl : m = a := hm
  have eb : -b = n := hn.symm
  clear hn
  have da : decide (m < 0) = false := by simp; omega
  have db : decide (b < 0) = true := by simp; omega
  go_enter Try.func21, Try.ntmps21
  go_wp2_with fail
  go_loop [8, 9, 10] (fun s t u => ∃ (j : Nat) (q r : Int), j ≤ 42 ∧ s = .int .i64 q ∧ t = .int .i64 r ∧ u = .int .i64 ((j : Int) - 1) ∧ RefAt m n c j q r) (fun _ _ u => (intOf u + 1).toNat)
  case atStart => exact ⟨42, 0, 0, by omega, rfl, rfl, rfl, ref_start m n c hm0 hm1⟩
  case round =>
    obtain ⟨j, q, r, hj, rfl, rfl, rfl, hat⟩ := hrel
    obtain ⟨hq0, hq1, hr0, hr1⟩ := ref_bd m n c q r j hm0 hn0 hc0 hat
    by_cases hz : j = 0
    · subst hz
      obtain ⟨he1, he2⟩ := ref_end p c q r m n hm0 hn0 hc0 HP.out hat
      have HE1 := Lib.hid he1
      have HE2 := Lib.hid he2
      clear he1 he2 hat
      by_cases hr : 0 < r
      · go_wp2_with (go_at_call 13; refine (refsat_any _ _).mono ?_; rintro e w' ⟨rfl, rfl⟩)
        go_ret
        have h := HE2.out
        rw [if_pos hr] at h
        exact ⟨ret_int h, rfl⟩
      · go_wp2_with (go_at_call 13; refine (refsat_any _ _).mono ?_; rintro e w' ⟨rfl, rfl⟩)
        go_ret
        have h := HE2.out
        rw [if_neg (by omega)] at h
        exact ⟨ret_int h, rfl⟩
    · obtain ⟨i, rfl⟩ : ∃ i, j = i + 1 := ⟨j - 1, by omega⟩
      rw [show ((i + 1 : Nat) : Int) - 1 = (i : Int) by omega]
      have hx0 := Int.ediv_nonneg hm0 (Int.le_of_lt (pow_pos2 i))
      have hx1 := Int.ediv_le_self (2 ^ i) hm0
      have he := and_one_i64 (m / 2 ^ i) hx0 (by omega)
      have hst := ref_step m n c q r i hm0 hn0 hc0 hat _ rfl
      have ht : m / 2 ^ i % 2 = 0 ∨ m / 2 ^ i % 2 = 1 := by omega
      clear hz hat hx0 hx1
      rcases ht with ht | ht
      · rw [ht] at he hst
        rw [show 2 * r + 0 * n = 2 * r by omega] at hst
        have hd0 := Int.ediv_nonneg (show 0 ≤ 2 * r by omega) (Int.le_of_lt hc0)
        have hd1 := Int.ediv_le_self c (show 0 ≤ 2 * r by omega)
        have HST := Lib.hid hst
        clear hst ht
        go_wp2_with fail
        all_goals
          go_round
          case rel => exact ⟨i, _, _, by omega, rfl, rfl, rfl, by have h := HST.out; rw [min_if] at h; exact h⟩
          case measure => first | (simp [intOf]; done) | (simp [intOf]; omega)
      · rw [ht] at he hst
        rw [show 2 * r + 1 * n = 2 * r + n by omega] at hst
        have hd0 := Int.ediv_nonneg (show 0 ≤ 2 * r + n by omega) (Int.le_of_lt hc0)
        have hd1 := Int.ediv_le_self c (show 0 ≤ 2 * r + n by omega)
        have HST := Lib.hid hst
        clear hst ht
        go_wp2_with fail
        all_goals
          go_round
          case rel => exact ⟨i, _, _, by omega, rfl, rfl, rfl, by have h := HST.out; rw [min_if] at h; exact h⟩
          case measure => first | (simp [intOf]; done) | (simp [intOf]; omega)

set_option maxRecDepth 100000 in
set_option maxHeartbeats 1000000 in
theorem refmd_nn (a b c m n p : Int) (w : World) (hm : m = (-a)) (hn : n = (-b)) (hp : p = m * n) (ga : a < 0) (gb : b < 0) (ha1 : -1099511627776 ≤ a) (ha2 : a ≤ 1099511627776) (hb1 : -1099511627776 ≤ b) (hb2 : b ≤ 1099511627776) (hc0 : 0 < c) (hc1 : c ≤ 1099511627776) :
    Calls Try.prog 21 #[.int .i64 a, .int .i64 b, .int .i64 c] w fun e w' => e = .returned (.int .i64 (satI (p / c))) ∧ w = w' := by
  have hm0 : 0 ≤ m := by omega
  have hm1 : m ≤ 1099511627776 := by omega
  have hn0 : 0 ≤ n := by omega
  have hn1 : n ≤ 1099511627776 := by omega
  have HP := Lib.hid hp
  clear hp
  have ea : -a = m := hm.symm
  have eb : -b = n := hn.symm
  clear hm hn
  have da : decide (a < 0) = true := by simp; omega
  have db : decide (b < 0) = true := by simp; omega
  go_enter Try.func21, Try.ntmps21
  go_wp2_with fail
  go_loop [8, 9, 10] (fun s t u => ∃ (j : Nat) (q r : Int), j ≤ 42 ∧ s = .int .i64 q ∧ t = .int .i64 r ∧ u = .int .i64 ((j : Int) - 1) ∧ RefAt m n c j q r) (fun _ _ u => (intOf u + 1).toNat)
  case atStart => exact ⟨42, 0, 0, by omega, rfl, rfl, rfl, ref_start m n c hm0 hm1⟩
  case round =>
    obtain ⟨j, q, r, hj, rfl, rfl, rfl, hat⟩ := hrel
    obtain ⟨hq0, hq1, hr0, hr1⟩ := ref_bd m n c q r j hm0 hn0 hc0 hat
    by_cases hz : j = 0
    · subst hz
      obtain ⟨he1, he2⟩ := ref_end p c q r m n hm0 hn0 hc0 HP.out hat
      have HE1 := Lib.hid he1
      have HE2 := Lib.hid he2
      clear he1 he2 hat
      go_wp2_with (go_at_call 13; refine (refsat_any _ _).mono ?_; rintro e w' ⟨rfl, rfl⟩)
      go_ret
      exact ⟨ret_int HE1.out, rfl⟩
    · obtain ⟨i, rfl⟩ : ∃ i, j = i + 1 := ⟨j - 1, by omega⟩
      rw [show ((i + 1 : Nat) : Int) - 1 = (i : Int) by omega]
      have hx0 := Int.ediv_nonneg hm0 (Int.le_of_lt (pow_pos2 i))
      have hx1 := Int.ediv_le_self (2 ^ i) hm0
      have he := and_one_i64 (m / 2 ^ i) hx0 (by omega)
      have hst := ref_step m n c q r i hm0 hn0 hc0 hat _ rfl
      have ht : m / 2 ^ i % 2 = 0 ∨ m / 2 ^ i % 2 = 1 := by omega
      clear hz hat hx0 hx1
      rcases ht with ht | ht
      · rw [ht] at he hst
        rw [show 2 * r + 0 * n = 2 * r by omega] at hst
        have hd0 := Int.ediv_nonneg (show 0 ≤ 2 * r by omega) (Int.le_of_lt hc0)
        have hd1 := Int.ediv_le_self c (show 0 ≤ 2 * r by omega)
        have HST := Lib.hid hst
        clear hst ht
        go_wp2_with fail
        all_goals
          go_round
          case rel => exact ⟨i, _, _, by omega, rfl, rfl, rfl, by have h := HST.out; rw [min_if] at h; exact h⟩
          case measure => first | (simp [intOf]; done) | (simp [intOf]; omega)
      · rw [ht] at he hst
        rw [show 2 * r + 1 * n = 2 * r + n by omega] at hst
        have hd0 := Int.ediv_nonneg (show 0 ≤ 2 * r + n by omega) (Int.le_of_lt hc0)
        have hd1 := Int.ediv_le_self c (show 0 ≤ 2 * r + n by omega)
        have HST := Lib.hid hst
        clear hst ht
        go_wp2_with fail
        all_goals
          go_round
          case rel => exact ⟨i, _, _, by omega, rfl, rfl, rfl, by have h := HST.out; rw [min_if] at h; exact h⟩
          case measure => first | (simp [intOf]; done) | (simp [intOf]; omega)

theorem refmuldiv_any (a b c : Int) (w : World) (ha : coordB a = true) (hb : coordB b = true) (hc : coordB c = true) (hc0 : 0 < c) :
    Calls Try.prog 21 #[.int .i64 a, .int .i64 b, .int .i64 c] w fun e w' => e = .returned (.int .i64 (satI (a * b / c))) ∧ w = w' := by
  simp [coordB] at ha hb hc
  by_cases ga : a < 0
  · by_cases gb : b < 0
    · have h := refmd_nn a b c (-a) (-b) (-a * -b) w rfl rfl rfl ga gb ha.1 ha.2 hb.1 hb.2 hc0 hc.2
      rw [Int.neg_mul_neg] at h
      exact h
    · have h := refmd_np a b c (-a) b (-a * b) w rfl rfl rfl ga (by omega) ha.1 ha.2 hb.1 hb.2 hc0 hc.2
      rw [Int.neg_mul, Int.neg_neg] at h
      exact h
  · by_cases gb : b < 0
    · have h := refmd_pn a b c a (-b) (a * -b) w rfl rfl rfl (by omega) gb ha.1 ha.2 hb.1 hb.2 hc0 hc.2
      rw [Int.mul_neg, Int.neg_neg] at h
      exact h
    · exact refmd_pp a b c a b (a * b) w rfl rfl rfl (by omega) (by omega) ha.1 ha.2 hb.1 hb.2 hc0 hc.2
end Go.Proofs.Ytladhdpmphmbpaa
