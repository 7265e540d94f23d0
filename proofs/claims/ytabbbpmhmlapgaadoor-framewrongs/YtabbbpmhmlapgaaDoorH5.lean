/- Join, Lacks, Covers, Count; the page's Covers; mathematics of them. -/
import Derived.Test.YtabbbpmhmlapgaaDoorH2
namespace Go.Proofs.YtabbbpmhmlapgaaDoor.Hv
open Go.RowKit Go.Lib
set_option linter.unusedVariables false

theorem vec_mem {l : List Int} (h : vecB l = true) : ∀ z ∈ l, 0 ≤ z ∧ z ≤ 1099511627776 := by
  unfold vecB at h
  simp only [Bool.and_eq_true, List.all_eq_true, tmB, decide_eq_true_eq] at h
  exact h.1
def ErrPost (w : World) (e : Ending) (w' : World) : Prop := e = .returned (.tuple #[.slice none 0 0, .int .i64 1]) ∧ w = w'
end Go.Proofs.YtabbbpmhmlapgaaDoor.Hv
