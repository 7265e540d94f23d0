/- product and quotient -/
import Derived.Test.YtekiknngiefkbaaA
import Derived.WalkMore
import Derived.ScopeJumps
namespace Go.Proofs.Ytekiknngiefkbaa
open Go.RowKit
set_option linter.unusedVariables false

theorem mul_bd (a b m n : Int) (ha : 0 ≤ a) (ham : a ≤ m) (hb : 0 ≤ b) (hbn : b ≤ n) : 0 ≤ a * b ∧ a * b ≤ m * n :=
  ⟨Int.mul_nonneg ha hb, Int.mul_le_mul ham hbn hb (by omega)⟩

set_option maxHeartbeats 400000 in
theorem magnitude_any (a : Int) (w : World) (ha : coordB a = true) :
    Calls Try.prog 25 #[.int .i64 a] w fun e w' => e = .returned (.int .u64 (a.natAbs : Int)) ∧ w = w' := by
  simp [coordB] at ha
  obtain ⟨ha1, ha2⟩ := ha
  go_enter Try.func25, Try.ntmps25
  go_wp2
  all_goals
    go_ret
    exact ⟨ret_int (by omega), rfl⟩

def W (x : Int) : Int := IntKind.u64.wrap x
theorem W_in (x : Int) (h : 0 ≤ x ∧ x ≤ 18446744073709551615) : IntKind.u64.wrap x = x := IntWalk.u64_in x h

/-- the two words of a product of halves -/
theorem prod_core (p q r s : Int) (hp : 0 ≤ p ∧ p ≤ 65536) (hq : 0 ≤ q ∧ q ≤ 1099511627776) (hr : 0 ≤ r ∧ r ≤ 1099511627776) (hs : 0 ≤ s ∧ s ≤ 18446744065119617025) :
    p + (q + s / 4294967296) / 4294967296 + (r + (q + s / 4294967296) % 4294967296) / 4294967296 = (p * 18446744073709551616 + (q + r) * 4294967296 + s) / 18446744073709551616 ∧
    (r + (q + s / 4294967296) % 4294967296) * 4294967296 % 18446744073709551616 + s % 4294967296 = (p * 18446744073709551616 + (q + r) * 4294967296 + s) % 18446744073709551616 := by
  omega

theorem or_join (x y : Int) (hx : 0 ≤ x) (hx' : x < 18446744073709551616) (hm : x % 4294967296 = 0) (hy : 0 ≤ y) (hy' : y < 4294967296) : bits .or .u64 x y = x + y := by
  obtain ⟨n, rfl⟩ := Int.eq_ofNat_of_zero_le hx
  obtain ⟨m, rfl⟩ := Int.eq_ofNat_of_zero_le hy
  rw [bits_or_u64_nat n m (by omega) (by omega), nat_join 32 n m (by omega) (by omega)]
  rfl

theorem or_bit64 (x y : Int) (hx : 0 ≤ x) (hx' : x < 18446744073709551616) (hm : x % 2 = 0) (hy : 0 ≤ y) (hy' : y < 2) : bits .or .u64 x y = x + y := by
  obtain ⟨n, rfl⟩ := Int.eq_ofNat_of_zero_le hx
  obtain ⟨m, rfl⟩ := Int.eq_ofNat_of_zero_le hy
  rw [bits_or_u64_nat n m (by omega) (by omega), nat_join 1 n m (by omega) (by omega)]
  rfl

theorem ret2 {k l : IntKind} {a b c d : Int} (h : a = c) (g : b = d) : Ending.returned (.tuple #[.int k a, .int l b]) = .returned (.tuple #[.int k c, .int l d]) := by rw [h, g]

set_option maxHeartbeats 400000 in
theorem product_any (a b : Int) (w : World) (ha : 0 ≤ a) (ha' : a ≤ 1099511627776) (hb : 0 ≤ b) (hb' : b ≤ 1099511627776) :
    Calls Try.prog 24 #[.int .u64 a, .int .u64 b] w fun e w' => e = .returned (.tuple #[.int .u64 (a * b / 18446744073709551616), .int .u64 (a * b % 18446744073709551616)]) ∧ w = w' := by
  go_enter Try.func24, Try.ntmps24
  go_wp2
  go_ret2
  have ea := and_low32 a (by omega) (by omega)
  have eb := and_low32 b (by omega) (by omega)
  have exa : a = a / 4294967296 * 4294967296 + a % 4294967296 := by omega
  have exb : b = b / 4294967296 * 4294967296 + b % 4294967296 := by omega
  have b1 : 0 ≤ a / 4294967296 ∧ a / 4294967296 ≤ 256 := by omega
  have b2 : 0 ≤ a % 4294967296 ∧ a % 4294967296 ≤ 4294967295 := by omega
  have b3 : 0 ≤ b / 4294967296 ∧ b / 4294967296 ≤ 256 := by omega
  have b4 : 0 ≤ b % 4294967296 ∧ b % 4294967296 ≤ 4294967295 := by omega
  have hab : a * b = a / 4294967296 * (b / 4294967296) * 18446744073709551616 + (a / 4294967296 * (b % 4294967296) + a % 4294967296 * (b / 4294967296)) * 4294967296 + a % 4294967296 * (b % 4294967296) := by
    have := split_mul (a / 4294967296) (a % 4294967296) (b / 4294967296) (b % 4294967296)
    rw [← exa, ← exb] at this
    exact this
  refine ⟨ret2 ?_ ?_, rfl⟩
  all_goals
    rw [hab]
    simp only [ea, eb]
    clear ea eb exa exb hab
    generalize a / 4294967296 = x1 at *
    generalize a % 4294967296 = x0 at *
    generalize b / 4294967296 = y1 at *
    generalize b % 4294967296 = y0 at *
    have pA := mul_bd x1 y1 256 256 b1.1 b1.2 b3.1 b3.2
    have pB := mul_bd x1 y0 256 4294967295 b1.1 b1.2 b4.1 b4.2
    have pC := prod_bound x0 y0 b2.1 b2.2 b4.1 b4.2
    have pD := mul_bd x0 y1 4294967295 256 b2.1 b2.2 b3.1 b3.2
    generalize x1 * y1 = p at *
    generalize x1 * y0 = q at *
    generalize x0 * y0 = s at *
    generalize x0 * y1 = r at *
    have pc := prod_core p q r s (by omega) (by omega) (by omega) (by omega)
    simp only [W_in p (by omega), W_in q (by omega), W_in r (by omega), W_in s (by omega), W_in (q + s / 4294967296) (by omega), and_low32 (q + s / 4294967296) (by omega) (by omega), and_low32 s (by omega) (by omega), W_in (p + (q + s / 4294967296) / 4294967296) (by omega), W_in (r + (q + s / 4294967296) % 4294967296) (by omega)]
  · rw [W_in _ (by omega)]
    omega
  · rw [IntKind.wrap_u64, or_join _ _ (by omega) (by omega) (by omega) (by omega) (by omega)]
    omega

def whole (high low : Int) : Int := high * 18446744073709551616 + low
def qS (high low d : Int) : Int := if whole high low / d < 1099511627776 then whole high low / d else 1099511627776
def qR (high low d : Int) : Int := if whole high low / d < 1099511627776 then whole high low % d else 0
def AtBit (high low d : Int) (k : Nat) (size rest : Int) : Prop := size = whole high low / 2 ^ k / d ∧ rest = whole high low / 2 ^ k % d
def QuotJ (high low d : Int) (w : World) (a' : Act) (w' : World) : Prop :=
  w = w' ∧ ∃ (k : Nat) (size rest : Int) (u9 u10 u11 u12 u13 u14 u15 u16 u17 u18 u19 u20 u21 u22 u23 u24 u25 u26 u27 u28 u29 u30 u31 u32 u33 u34 u35 u36 u37 : Value), a' = { tmps := #[.int .u64 high, .int .u64 low, .int .u64 d, undef, undef, undef, .int .u64 size, .int .u64 rest, .int .i64 ((k : Int) + 1), u9, u10, u11, u12, u13, u14, u15, u16, u17, u18, u19, u20, u21, u22, u23, u24, u25, u26, u27, u28, u29, u30, u31, u32, u33, u34, u35, u36, u37], defers := [] } ∧ k ≤ 62 ∧ AtBit high low d (k + 1) size rest

theorem pow_pos2 (k : Nat) : (0 : Int) < 2 ^ k := Int.pow_pos (by decide)

theorem whole_bit (high low : Int) (k : Nat) (hk : k ≤ 63) : whole high low / 2 ^ k % 2 = low / 2 ^ k % 2 := by
  unfold whole
  have e : (18446744073709551616 : Int) = 2 ^ (63 - k) * 2 * 2 ^ k := by
    rw [Int.mul_assoc, Int.mul_comm 2, ← Int.mul_assoc, ← Int.pow_add, show 63 - k + k = 63 by omega]
    rfl
  rw [e, ← Int.mul_assoc, Int.add_comm, Int.add_mul_ediv_right _ _ (Int.ne_of_gt (pow_pos2 k))]
  rw [← Int.mul_assoc, Int.add_mul_emod_self_right]

theorem whole_half (v : Int) (k : Nat) : v / 2 ^ k = v / 2 ^ (k + 1) * 2 + v / 2 ^ k % 2 := by
  have : v / 2 ^ (k + 1) = v / 2 ^ k / 2 := by
    rw [Int.pow_succ, Int.ediv_ediv_of_nonneg (Int.le_of_lt (pow_pos2 k))]
  omega

theorem div_uniq (n d q r : Int) (hd : 0 < d) (h : n = d * q + r) (h0 : 0 ≤ r) (h1 : r < d) : n / d = q ∧ n % d = r := by
  subst h
  rw [Int.add_comm]
  refine ⟨?_, ?_⟩
  · rw [Int.add_mul_ediv_left _ _ (by omega), Int.ediv_eq_zero_of_lt h0 h1]; omega
  · rw [Int.add_mul_emod_self_left, Int.emod_eq_of_lt h0 h1]

theorem at_step (high low d size rest bt : Int) (k : Nat) (hk : k ≤ 63) (hd : 0 < d) (h : AtBit high low d (k + 1) size rest) (hb : bt = low / 2 ^ k % 2) (hr0 : 0 ≤ rest) (hr1 : rest < d) :
    (d ≤ rest * 2 + bt → AtBit high low d k (size * 2 + 1) (rest * 2 + bt - d)) ∧ (rest * 2 + bt < d → AtBit high low d k (size * 2) (rest * 2 + bt)) := by
  obtain ⟨h1, h2⟩ := h
  have hv := whole_half (whole high low) k
  rw [whole_bit high low k hk, ← hb] at hv
  have hq : whole high low / 2 ^ (k + 1) = d * size + rest := by rw [h1, h2]; exact (Int.mul_ediv_add_emod _ _).symm
  have hbb : 0 ≤ bt ∧ bt ≤ 1 := by omega
  unfold AtBit
  refine ⟨fun hle => ?_, fun hlt => ?_⟩
  · have := div_uniq (whole high low / 2 ^ k) d (size * 2 + 1) (rest * 2 + bt - d) hd (by rw [hv, hq]; grind) (by omega) (by omega)
    exact ⟨this.1.symm, this.2.symm⟩
  · have := div_uniq (whole high low / 2 ^ k) d (size * 2) (rest * 2 + bt) hd (by rw [hv, hq]; grind) (by omega) (by omega)
    exact ⟨this.1.symm, this.2.symm⟩

theorem at_rest (high low d size rest : Int) (k : Nat) (hd : 0 < d) (h : AtBit high low d k size rest) : 0 ≤ rest ∧ rest < d := by
  obtain ⟨_, h2⟩ := h
  rw [h2]
  exact ⟨Int.emod_nonneg _ (by omega), Int.emod_lt_of_pos _ hd⟩

theorem at_size (high low d size rest : Int) (k : Nat) (hh : 0 ≤ high) (hd : high < d) (hl : 0 ≤ low) (hl' : low < 18446744073709551616) (h : AtBit high low d (k + 1) size rest) : 0 ≤ size ∧ size ≤ 9223372036854775807 := by
  have hr := at_rest high low d size rest (k + 1) (by omega) h
  obtain ⟨h1, h2⟩ := h
  have hv0 : 0 ≤ whole high low := by unfold whole; omega
  have hv1 : whole high low < d * 18446744073709551616 := by unfold whole; omega
  have hx0 : 0 ≤ whole high low / 2 ^ (k + 1) := Int.ediv_nonneg hv0 (Int.le_of_lt (pow_pos2 _))
  have hq : whole high low / 2 ^ (k + 1) = d * size + rest := by rw [h1, h2]; exact (Int.mul_ediv_add_emod _ _).symm
  have hx1 : whole high low / 2 ^ (k + 1) ≤ whole high low / 2 := by
    have : whole high low / 2 ^ (k + 1) = whole high low / 2 / 2 ^ k := by
      rw [Int.pow_succ, Int.mul_comm, Int.ediv_ediv_of_nonneg (by decide)]
    rw [this]
    exact Int.ediv_le_self _ (by omega)
  have hs0 : 0 ≤ size := by rw [h1]; exact Int.ediv_nonneg hx0 (by omega)
  refine ⟨hs0, ?_⟩
  have hsd : d * size < d * 9223372036854775808 := by omega
  have := Int.lt_of_mul_lt_mul_left hsd (by omega)
  omega

theorem at_end (high low d size rest : Int) (h : AtBit high low d 0 size rest) : (1099511627776 ≤ size → qS high low d = 1099511627776 ∧ qR high low d = 0) ∧ (size < 1099511627776 → qS high low d = size ∧ qR high low d = rest) := by
  obtain ⟨h1, h2⟩ := h
  rw [Int.pow_zero, Int.ediv_one] at h1 h2
  unfold qS qR
  rw [← h1, ← h2]
  refine ⟨fun hle => ?_, fun hlt => ?_⟩
  · rw [if_neg (by omega), if_neg (by omega)]; exact ⟨rfl, rfl⟩
  · rw [if_pos hlt, if_pos hlt]; exact ⟨rfl, rfl⟩

theorem and_one64 (x : Int) (h0 : 0 ≤ x) (h1 : x < 18446744073709551616) : bits .and .u64 x 1 = x % 2 := by
  obtain ⟨n, rfl⟩ := Int.eq_ofNat_of_zero_le h0
  have := bits_and_u64_nat n 1 (by omega) (by omega)
  rw [nat_mask1] at this
  exact this

theorem low_lt (low : Int) (k : Nat) (hl : 0 ≤ low) (hl' : low < 18446744073709551616) : 0 ≤ low / 2 ^ k ∧ low / 2 ^ k < 18446744073709551616 := by
  have h0 := Int.ediv_nonneg hl (Int.le_of_lt (pow_pos2 k))
  have h1 := Int.ediv_le_self (2 ^ k) hl
  omega

theorem at_first (high low d : Int) (hh : 0 ≤ high) (hd : high < d) (hl : 0 ≤ low) (hl' : low < 18446744073709551616) : AtBit high low d (63 + 1) 0 high := by
  have : whole high low / 2 ^ (63 + 1) = high := by
    unfold whole
    rw [show (2 : Int) ^ (63 + 1) = 18446744073709551616 from rfl]
    omega
  unfold AtBit
  rw [this, Int.ediv_eq_zero_of_lt hh hd, Int.emod_eq_of_lt hh hd]
  exact ⟨rfl, rfl⟩

set_option maxRecDepth 100000 in
set_option maxHeartbeats 1000000 in
theorem quotient_loop (high low d : Int) (w : World) (hh : 0 ≤ high) (hd : high < d) (hd' : d ≤ 1099511627776) (hl : 0 ≤ low) (hl' : low < 18446744073709551616) :
    Calls Try.prog 26 #[.int .u64 high, .int .u64 low, .int .u64 d] w fun e w' => e = .returned (.tuple #[.int .u64 (qS high low d), .int .u64 (qR high low d)]) ∧ w = w' := by
  have HL := Lib.hid hl'
  clear hl'
  go_enter Try.func26, Try.ntmps26
  go_wp2
  refine wp_scope_jumps 0 (QuotJ high low d w) (fun a' _ => (intOf (a'.tmps.getD 8 undef)).toNat) rfl ?_ ?_
  · have hf := at_first high low d hh hd hl HL.out
    have hb := low_lt low 63 hl HL.out
    have hst := at_step high low d 0 high _ 63 (by omega) (by omega) hf rfl hh hd
    have e1 := and_one64 _ hb.1 hb.2
    have hbt : low / 2 ^ 63 % 2 = 0 ∨ low / 2 ^ 63 % 2 = 1 := by omega
    rw [show (2 : Int) ^ 63 = 9223372036854775808 from rfl] at hst e1 hbt
    have hb0 : 0 ≤ low / 9223372036854775808 % 2 := by omega
    have hb1 : low / 9223372036854775808 % 2 ≤ 1 := by omega
    clear hbt hb
    generalize low / 9223372036854775808 % 2 = bt at *
    have he2 : bits .or .u64 (high * 2) bt = high * 2 + bt := or_bit64 _ _ (by omega) (by omega) (by omega) (by omega) (by omega)
    have he3 : bits .or .u64 0 1 = 1 := or_bit64 0 1 (by omega) (by omega) (by omega) (by omega) (by omega)
    have HST := Lib.hid hst
    clear hf hst
    go_wp2
    go_step3
    go_wp2
    · have hle : d ≤ high * 2 + bt := by assumption
      go_step3
      exact ⟨rfl, rfl, 62, _, _, _, _, _, _, _, _, _, _, _, _, _, _, _, _, _, _, _, _, _, _, _, _, _, _, _, _, _, _, _, rfl, by omega, (HST.out).1 hle⟩
    · have hle : high * 2 + bt < d := by assumption
      go_step3
      exact ⟨rfl, rfl, 62, _, _, _, _, _, _, _, _, _, _, _, _, _, _, _, _, _, _, _, _, _, _, _, _, _, _, _, _, _, _, _, rfl, by omega, (HST.out).2 hle⟩
  · rintro a' w' ⟨rfl, k, size, rest, u9, u10, u11, u12, u13, u14, u15, u16, u17, u18, u19, u20, u21, u22, u23, u24, u25, u26, u27, u28, u29, u30, u31, u32, u33, u34, u35, u36, u37, rfl, hk, hat⟩
    have hr := at_rest high low d size rest (k + 1) (by omega) hat
    obtain ⟨hr0, hr1⟩ := hr
    have hs := at_size high low d size rest k hh hd hl HL.out hat
    obtain ⟨hs0, hs1⟩ := hs
    have hst := at_step high low d size rest _ k (by omega) (by omega) hat rfl hr0 hr1
    have hb := low_lt low k hl HL.out
    have he1 := and_one64 _ hb.1 hb.2
    have hb0 : 0 ≤ low / 2 ^ k % 2 := by omega
    have hb1 : low / 2 ^ k % 2 ≤ 1 := by omega
    generalize low / 2 ^ k % 2 = bt at *
    have he2 : bits .or .u64 (rest * 2) bt = rest * 2 + bt := or_bit64 _ _ (by omega) (by omega) (by omega) (by omega) (by omega)
    have he3 : bits .or .u64 (size * 2) 1 = size * 2 + 1 := or_bit64 _ _ (by omega) (by omega) (by omega) (by omega) (by omega)
    have HST := Lib.hid hst
    clear hat hst hb
    by_cases hlast : k = 0
    · subst hlast
      rw [Int.pow_zero, Int.ediv_one] at he1
      by_cases hge : d ≤ rest * 2 + bt
      · have he := at_end high low d _ _ ((HST.out).1 hge)
        have HE := Lib.hid he
        clear he
        go_wp2
        · have hc : 1099511627776 ≤ size * 2 + 1 := by assumption
          simp only [Exit.jump]
          go_ret2
          exact ⟨by rw [((HE.out).1 hc).1, ((HE.out).1 hc).2]; rfl, rfl⟩
        · have hc : size * 2 + 1 < 1099511627776 := by assumption
          simp only [Exit.jump]
          go_ret2
          exact ⟨by rw [((HE.out).2 hc).1, ((HE.out).2 hc).2]; rfl, rfl⟩
      · have hlt : rest * 2 + bt < d := by omega
        have he := at_end high low d _ _ ((HST.out).2 hlt)
        have HE := Lib.hid he
        clear he hge
        go_wp2
        · have hc : 1099511627776 ≤ size * 2 := by assumption
          simp only [Exit.jump]
          go_ret2
          exact ⟨by rw [((HE.out).1 hc).1, ((HE.out).1 hc).2]; rfl, rfl⟩
        · have hc : size * 2 < 1099511627776 := by assumption
          simp only [Exit.jump]
          go_ret2
          exact ⟨by rw [((HE.out).2 hc).1, ((HE.out).2 hc).2]; rfl, rfl⟩
    · obtain ⟨j, rfl⟩ : ∃ j, k = j + 1 := ⟨k - 1, by omega⟩
      clear hlast
      go_wp2
      · have hle : d ≤ rest * 2 + bt := by assumption
        go_step3
        refine ⟨rfl, ⟨rfl, j, _, _, _, _, _, _, _, _, _, _, _, _, _, _, _, _, _, _, _, _, _, _, _, _, _, _, _, _, _, _, _, rfl, by omega, (HST.out).1 hle⟩, ?_⟩
        simp [intOf]
        omega
      · have hle : rest * 2 + bt < d := by assumption
        go_step3
        refine ⟨rfl, ⟨rfl, j, _, _, _, _, _, _, _, _, _, _, _, _, _, _, _, _, _, _, _, _, _, _, _, _, _, _, _, _, _, _, _, rfl, by omega, (HST.out).2 hle⟩, ?_⟩
        simp [intOf]
        omega
end Go.Proofs.Ytekiknngiefkbaa
