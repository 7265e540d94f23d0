/- The laws' small functions: the same row? a copy; written over; too much; awake. -/
import Derived.Test.YtjpjjckokonkpaaDoorE7
namespace Go.Proofs.YtjpjjckokonkpaaDoor
open Go.RowKit Go.Lib
set_option linter.unusedVariables false

def EqPost (w : World) (e : Ending) (w' : World) : Prop := e = .returned (.bool true) ∧ ∃ n, w' = w.drewN n

theorem OwnK.stored {kd : IntKind} {e : TypeId} {w : World} {base g cap n : Nat} {zs : List Int} (hn : zs.length = n) (h : OwnK kd e w base (.slice (some ⟨g, 0, none⟩) n cap) zs) (j : Nat) (z : Int) : OwnK kd e (w.setCell ⟨g, j, none⟩ (.int kd z)) base (.slice (some ⟨g, 0, none⟩) n cap) (zs.set j z) := by
  subst hn
  have h1 := (World.ownsRow.stored h j (.int kd z)).1
  unfold OwnK
  rw [List.length_set, List.map_set]
  exact h1
theorem OwnK.cellAt {kd : IntKind} {e : TypeId} {w : World} {base g cap n : Nat} {zs : List Int} (hn : zs.length = n) (h : OwnK kd e w base (.slice (some ⟨g, 0, none⟩) n cap) zs) (j : Nat) (hj : j < n) : w.cell? ⟨g, j, none⟩ = some (.int kd (zs.getD j 0)) ∧ w.frozen? ⟨g, j, none⟩ = false ∧ base ≤ g ∧ g < w.heap.size := by
  subst hn
  have h1 := World.ownsRow.cellAt h j (by omega)
  rw [List.getElem?_map, List.getElem?_eq_getElem hj] at h1
  refine ⟨?_, World.ownsRow.frozenAt h j, OwnK.lt h rfl⟩
  rw [h1, List.getD_eq_getElem?_getD, List.getElem?_eq_getElem hj]; rfl

def SpoilPost (w : World) (base : Nat) (e : Ending) (w' : World) : Prop := e = .returned (.tuple #[]) ∧ Below base w w'

/-- too much to be played? -/
def heavyB (s l x : Nat) : Bool := decide (65546 < s ∨ 2000 < l ∨ 3000 < x)
def BoolPost (w : World) (b : Bool) (e : Ending) (w' : World) : Prop := e = .returned (.bool b) ∧ Below w.heap.size w w'

end Go.Proofs.YtjpjjckokonkpaaDoor
