/- How many follow; texts. -/
import Derived.Test.YtjpjjckokonkpaaDoorE4
namespace Go.Proofs.YtjpjjckokonkpaaDoor
open Go.RowKit Go.Lib
set_option linter.unusedVariables false

/-- the number that says how many follow, at most so many -/
def tkC (bs : List Int) (m : Int) : Int × Nat × Int := if (tkN bs).2.2 ≠ 0 then (0, 0, (tkN bs).2.2) else if m < (tkN bs).1 then (0, 0, 1) else tkN bs

def TextPost (bs : List Int) (w : World) (e : Ending) (w' : World) : Prop := e = .returned (.tuple #[.string (tkS bs).1, .int .i64 ((tkS bs).2.1 : Int), .int .i64 (tkS bs).2.2]) ∧ w = w'

end Go.Proofs.YtjpjjckokonkpaaDoor
