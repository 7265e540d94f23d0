/- Two vectors: whether they go together; the larger one, how far behind; the sum of a row. -/
import Derived.Test.YtabbbpmhmlapgaaDoorH1
namespace Go.Proofs.YtabbbpmhmlapgaaDoor.Hv
open Go.RowKit Go.Lib
set_option linter.unusedVariables false

theorem check_yes (a : Option Addr) (l : List Int) (n c : Nat) (w : World) (hr : RowK .i64 w a l) (hn : n = l.length) (hl : l.length ≤ 140737488355328) (h : vecB l = true) : Calls Tryd.prog 28 #[.slice a n c] w fun e w' => e = .returned (.int .i64 0) ∧ w = w' := by
  have := check_any a l n c w hr hn hl
  rw [errC_t h] at this
  exact this
theorem check_no (a : Option Addr) (l : List Int) (n c : Nat) (w : World) (hr : RowK .i64 w a l) (hn : n = l.length) (hl : l.length ≤ 140737488355328) (h : vecB l = false) : Calls Tryd.prog 28 #[.slice a n c] w fun e w' => e = .returned (.int .i64 1) ∧ w = w' := by
  have := check_any a l n c w hr hn hl
  rw [errC_f h] at this
  exact this
theorem max_int (x y : Int) (ts : Array TypeId) (t : TypeId) (w : World) : (Builtin.max_ ts t #[.int .i64 x, .int .i64 y]).run Tryd.prog w = .ok (.int .i64 (max x y)) w := by
  change (Builtin.max2 (.int .i64 x) (.int .i64 y) >>= fun v => pure v).run Tryd.prog w = _
  simp only [Builtin.max2]
  by_cases h : x < y
  · rw [if_pos h, Int.max_eq_right (by omega)]; rfl
  · rw [if_neg h, Int.max_eq_left (by omega)]; rfl

end Go.Proofs.YtabbbpmhmlapgaaDoor.Hv
