/- The page's own: value, Check, Default, Goes. -/
import Derived.Test.YtabbbpmhmlapgaaDoorP1
namespace Go.Proofs.YtabbbpmhmlapgaaDoor.Pr
open Go.RowKit Go.Lib
set_option linter.unusedVariables false

theorem results_tmp4 {fn : Func} {t u v x : Tmp} (h : fn.results = #[.tmp t, .tmp u, .tmp v, .tmp x]) (tmps : Array Value) (P : Program) (w : World) :
    (results fn tmps).run P w = .ok (.tuple #[tmps.getD t undef, tmps.getD u undef, tmps.getD v undef, tmps.getD x undef]) w := by
  simp [results, h]
def ValPost (z : Int) (w : World) (e : Ending) (w' : World) : Prop := e = .returned (.tuple #[.int .i64 (if propB z then lowT z.toNat else 0), .int .i64 (if propB z then highT z.toNat else 0), .int .i64 (usZ z), .bool (propB z)]) ∧ w = w'

theorem inT_iff : ∀ p : Nat, p < 19 → inT p = decide (p = 17 ∨ p = 18) := by decide
theorem inZ_is (z : Int) : inZ z = decide (z = 17 ∨ z = 18) := by
  cases h : propB z
  · rw [inZ_no h]
    have := propB_no h
    symm
    rw [decide_eq_false_iff_not]
    omega
  · obtain ⟨p, rfl, hp⟩ := propB_yes h
    rw [inZ_nat hp, inT_iff p hp]
    simp only [decide_eq_decide]
    omega
end Go.Proofs.YtabbbpmhmlapgaaDoor.Pr
