/- All, of the page. -/
import Derived.Test.YtahimngohnghaabDoorP3
namespace Go.Proofs.YtahimngohnghaabDoor
open Go.RowKit Go.Lib
set_option linter.unusedVariables false

def RefAllPost (zs : List Int) (w : World) (e : Ending) (w' : World) : Prop := e = .returned (.bool (allB zs)) ∧ Below w.heap.size w w'
end Go.Proofs.YtahimngohnghaabDoor
