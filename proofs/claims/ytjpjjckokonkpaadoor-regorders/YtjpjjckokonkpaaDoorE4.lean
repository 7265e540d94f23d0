/- Which number bytes begin with: the page's TakeNum; takeCount; texts. -/
import Derived.Test.YtjpjjckokonkpaaDoorE3
namespace Go.Proofs.YtjpjjckokonkpaaDoor
open Go.RowKit Go.Lib
set_option linter.unusedVariables false

theorem or_at64 {i : Nat} {acc p g : Int} (hp : p = g * 128 ^ i) (hg0 : 0 ≤ g) (ha0 : 0 ≤ acc) (ha1 : acc < 128 ^ i) (h : acc + p ≤ 9223372036854775807) : bits .or .u64 acc p = acc + p := by
  have hp0 : 0 ≤ p := by rw [hp]; exact Int.mul_nonneg hg0 (Int.le_of_lt (pow128 i))
  refine bits_join_low .u64 64 (by decide) wraps_u64 (7 * i) acc p ha0 (by rw [← pow_128]; exact ha1) (by omega) hp0 ?_ (by omega)
  rw [hp, ← pow_128, Int.mul_emod_left]
theorem and127b (x : Int) (h0 : 0 ≤ x) (h1 : x < 256) : bits .and .u8 x 127 = x % 128 := bits_mask .u8 8 (by decide) wraps_u8 7 (by decide) x h0 (by omega)

theorem tk_bad {bs : List Int} {w : World} {i : Nat} {s c : Int} {R : Int × Nat × Int} (h : tkN bs = if 128 ≤ c then R else if (c = 0 ∧ 0 < i) ∨ 4611686018427387904 < s then (0, 0, 1) else (s, i + 1, 0)) (hl : ¬ 128 ≤ c) (hn : (c = 0 ∧ 0 < i) ∨ 4611686018427387904 < s) :
    TakePost bs w (.returned (.tuple #[.int .i64 0, .int .i64 0, .int .i64 1])) w := by
  rw [if_neg hl, if_pos hn] at h
  exact ⟨by rw [h]; rfl, rfl⟩
theorem tk_good {bs : List Int} {w : World} {i : Nat} {s c : Int} {R : Int × Nat × Int} (h : tkN bs = if 128 ≤ c then R else if (c = 0 ∧ 0 < i) ∨ 4611686018427387904 < s then (0, 0, 1) else (s, i + 1, 0)) (hl : ¬ 128 ≤ c) (hn : ¬ ((c = 0 ∧ 0 < i) ∨ 4611686018427387904 < s)) :
    TakePost bs w (.returned (.tuple #[.int .i64 s, .int .i64 ((i : Int) + 1), .int .i64 0])) w := by
  rw [if_neg hl, if_neg hn] at h
  exact ⟨by rw [h]; rfl, rfl⟩

end Go.Proofs.YtjpjjckokonkpaaDoor
