/- What CodeBack and CodeRows hold on to; a row appended within a region that draws its order. -/
import Derived.Test.YtjpjjckokonkpaaDoorK0
import Derived.Deep.DrawnRows
namespace Go.Proofs.YtjpjjckokonkpaaDoor
open Go.RowKit Go.Lib
set_option linter.unusedVariables false

theorem OwnK.form' {kd : IntKind} {e : TypeId} {w : World} {base : Nat} {v : Value} {zs : List Int} (h : OwnK kd e w base v zs) : ∃ a n cap, v = .slice a n cap ∧ n = zs.length ∧ RowK kd w a zs ∧ zs.length ≤ cap := by
  obtain ⟨a, c, e', hr, hc, _⟩ := h.form
  exact ⟨a, _, c, e', rfl, hr, hc⟩
/-- a copy with a row behind it: what is told -/
theorem glued {w0 w2 w3 : World} {v2 v3 : Value} {zs ys : List Int} (ho : OwnK .u8 5 w2 w0.heap.size v2 zs) (hb : Below w0.heap.size w0 w2) (hg : Grew .u8 5 w0.heap.size w2 v2 zs ys v3 w3) : OwnK .u8 5 w3 w0.heap.size v3 (zs ++ ys) ∧ Below w0.heap.size w0 w3 :=
  ⟨hg.own, hg.bel _ _ hb (Nat.le_refl _) hb.size⟩
end Go.Proofs.YtjpjjckokonkpaaDoor
