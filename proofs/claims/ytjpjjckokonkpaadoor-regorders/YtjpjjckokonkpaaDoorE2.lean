/- The page's Num; the program's Num. -/
import Derived.Test.YtjpjjckokonkpaaDoorE1
namespace Go.Proofs.YtjpjjckokonkpaaDoor
open Go.RowKit Go.Lib
set_option linter.unusedVariables false

theorem wraps_i64 (n : Int) (h₀ : 0 ≤ n) (h₁ : n < 2 ^ 63) : IntKind.i64.wrap n = n := by rw [IntKind.wrap_i64]; omega
theorem and127 (x : Int) (h0 : 0 ≤ x) (h1 : x ≤ 4611686018427387904) : bits .and .i64 x 127 = x % 128 := bits_mask .i64 63 (by decide) wraps_i64 7 (by decide) x h0 (by omega)
theorem or128 (x : Int) (h0 : 0 ≤ x) (h1 : x < 128) : bits .or .u8 x 128 = x + 128 := by
  have h := bits_join .u8 8 (by decide) wraps_u8 7 128 x (by decide) (by decide) (by decide) h0 (by omega) (by omega)
  obtain ⟨b, rfl⟩ := Int.eq_ofNat_of_zero_le h0
  have e : (128 : Int) = ((128 : Nat) : Int) := rfl
  rw [e] at h ⊢
  rw [(bits_nat .u8 8 (by decide) wraps_u8 128 b (by decide) (by omega)).2] at h
  rw [(bits_nat .u8 8 (by decide) wraps_u8 b 128 (by omega) (by decide)).2, Nat.or_comm, h]
  omega

/-- what Num, Text, Nums tell -/
def BytesPost (w : World) (zs : List Int) (e : Ending) (w' : World) : Prop := ∃ v', e = .returned (.tuple #[v', .int .i64 0]) ∧ OwnK .u8 5 w' w.heap.size v' zs ∧ Below w.heap.size w w'

end Go.Proofs.YtjpjjckokonkpaaDoor
