/- Contracts of Add, Sub, MulDiv, Mul, Clamp, and of the page's own. -/
import Derived.Test.YtekiknngiefkbaaB
namespace Go.Proofs.Ytekiknngiefkbaa
open Go.RowKit
set_option linter.unusedVariables false

set_option maxHeartbeats 400000 in
theorem quotient_full (high low d : Int) (w : World) (hd : d ≤ high) (hd0 : 0 < d) :
    Calls Try.prog 26 #[.int .u64 high, .int .u64 low, .int .u64 d] w fun e w' => e = .returned (.tuple #[.int .u64 1099511627776, .int .u64 0]) ∧ w = w' := by
  go_enter Try.func26, Try.ntmps26
  go_wp2
  go_step3
  go_wp2
  rw [Exit.noGoto_ret]
  go_ret2
  exact ⟨rfl, rfl⟩

theorem q_full (high low d : Int) (hd : d ≤ high) (hd0 : 0 < d) (hl : 0 ≤ low) : qS high low d = 1099511627776 ∧ qR high low d = 0 := by
  have h : 18446744073709551616 ≤ whole high low / d := by
    rw [Int.le_ediv_iff_mul_le hd0]
    unfold whole
    omega
  unfold qS qR
  rw [if_neg (by omega), if_neg (by omega)]
  exact ⟨rfl, rfl⟩

theorem quotient_any (high low d : Int) (w : World) (hh : 0 ≤ high) (hd0 : 0 < d) (hd' : d ≤ 1099511627776) (hl : 0 ≤ low) (hl' : low < 18446744073709551616) :
    Calls Try.prog 26 #[.int .u64 high, .int .u64 low, .int .u64 d] w fun e w' => e = .returned (.tuple #[.int .u64 (qS high low d), .int .u64 (qR high low d)]) ∧ w = w' := by
  by_cases h : high < d
  · exact quotient_loop high low d w hh h hd' hl hl'
  · rw [(q_full high low d (by omega) hd0 hl).1, (q_full high low d (by omega) hd0 hl).2]
    exact quotient_full high low d w (by omega) hd0

/-- the size and the rest of a product's quotient -/
def pS (p c : Int) : Int := if p / c < 1099511627776 then p / c else 1099511627776
def pR (p c : Int) : Int := if p / c < 1099511627776 then p % c else 0

theorem quotient_of (p c : Int) (w : World) (hp : 0 ≤ p) (hd0 : 0 < c) (hd' : c ≤ 1099511627776) :
    Calls Try.prog 26 #[.int .u64 (p / 18446744073709551616), .int .u64 (p % 18446744073709551616), .int .u64 c] w fun e w' => e = .returned (.tuple #[.int .u64 (pS p c), .int .u64 (pR p c)]) ∧ w = w' := by
  have h := quotient_any (p / 18446744073709551616) (p % 18446744073709551616) c w (by omega) hd0 hd' (by omega) (by omega)
  have e : whole (p / 18446744073709551616) (p % 18446744073709551616) = p := by unfold whole; omega
  unfold qS qR at h
  rw [e] at h
  exact h

theorem pS_bd (p c : Int) (hp : 0 ≤ p) (hc : 0 < c) : 0 ≤ pS p c ∧ pS p c ≤ 1099511627776 ∧ 0 ≤ pR p c ∧ pR p c ≤ c ∧ (pS p c = 1099511627776 → pR p c = 0) := by
  have h0 := Int.ediv_nonneg hp (Int.le_of_lt hc)
  have h1 := Int.emod_nonneg p (Int.ne_of_gt hc)
  have h2 := Int.emod_lt_of_pos p hc
  unfold pS pR
  split <;> omega

theorem sat_pos (p c : Int) (hp : 0 ≤ p) (hc : 0 < c) : satI (p / c) = pS p c := by
  have h0 := Int.ediv_nonneg hp (Int.le_of_lt hc)
  unfold satI pS
  split <;> (try split) <;> (try split) <;> omega

theorem neg_div (p c : Int) (hc : 0 < c) : (-p) / c = -(p / c) - (if 0 < p % c then 1 else 0) := by
  have h1 := Int.emod_nonneg p (Int.ne_of_gt hc)
  have h2 := Int.emod_lt_of_pos p hc
  have h3 := Int.mul_ediv_add_emod p c
  split
  · exact (div_uniq (-p) c _ (c - p % c) hc (by rw [Int.mul_sub, Int.mul_neg]; omega) (by omega) (by omega)).1
  · exact (div_uniq (-p) c _ 0 hc (by rw [Int.mul_sub, Int.mul_neg]; omega) (by omega) (by omega)).1

theorem sat_neg (p c : Int) (hp : 0 ≤ p) (hc : 0 < c) : satI ((-p) / c) = -(if 0 < pR p c then pS p c + 1 else pS p c) := by
  have h0 := Int.ediv_nonneg hp (Int.le_of_lt hc)
  have h1 := Int.emod_nonneg p (Int.ne_of_gt hc)
  rw [neg_div p c hc]
  unfold satI pS pR
  by_cases h : p / c < 1099511627776
  · rw [if_pos h, if_pos h]
    by_cases g : 0 < p % c
    · rw [if_pos g, if_pos g]
      split <;> (try split) <;> omega
    · rw [if_neg g, if_neg g]
      split <;> (try split) <;> omega
  · rw [if_neg h, if_neg h]
    split <;> (try split) <;> (try split) <;> (try split) <;> omega

end Go.Proofs.Ytekiknngiefkbaa
