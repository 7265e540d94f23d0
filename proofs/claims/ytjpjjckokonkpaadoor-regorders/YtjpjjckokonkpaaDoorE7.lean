/- Rows of numbers out of bytes. -/
import Derived.Test.YtjpjjckokonkpaaDoorE6
namespace Go.Proofs.YtjpjjckokonkpaaDoor
open Go.RowKit Go.Lib
set_option linter.unusedVariables false

def ListPost (bs : List Int) (w : World) (e : Ending) (w' : World) : Prop := ∃ v, e = .returned (.tuple #[v, .int .i64 ((tkNs bs).2.1 : Int), .int .i64 (tkNs bs).2.2]) ∧ OwnK .i64 3 w' w.heap.size v (tkNs bs).1 ∧ Below w.heap.size w w'
theorem listPost_err' {bs : List Int} {w w' : World} {x : Int} (h : tkNs bs = ([], 0, x)) (hb : Below w.heap.size w w') : ListPost bs w (.returned (.tuple #[.slice none 0 0, .int .i64 0, .int .i64 x])) w' :=
  ⟨.slice none 0 0, by rw [h]; rfl, by rw [h]; exact OwnK.nil _ _ _ _, hb⟩
theorem listPost_err {bs : List Int} {w : World} {x : Int} (h : tkNs bs = ([], 0, x)) : ListPost bs w (.returned (.tuple #[.slice none 0 0, .int .i64 0, .int .i64 x])) w := listPost_err' h (Below.refl _ _)
theorem listPost_ok {bs ls : List Int} {w w' : World} {p : Nat} {v : Value} (h : tkNs bs = (ls, p, 0)) (ho : OwnK .i64 3 w' w.heap.size v ls) (hb : Below w.heap.size w w') : ListPost bs w (.returned (.tuple #[v, .int .i64 (p : Int), .int .i64 0])) w' :=
  ⟨v, by rw [h], by rw [h]; exact ho, hb⟩

end Go.Proofs.YtjpjjckokonkpaaDoor
