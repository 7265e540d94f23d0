/- A row written over: no other row changes. -/
import Derived.Test.YtjpjjckokonkpaaDoorK5
namespace Go.Proofs.YtjpjjckokonkpaaDoor
open Go.RowKit Go.Lib
set_option linter.unusedVariables false

theorem grown_setCell (w : World) (a : Addr) (u : Value) : w.grownBy (w.setCell a u) (some a.block) :=
  ⟨rfl, rfl, rfl, by simp [World.setCell], fun k _ hk => Below.heap_setCell _ _ _ k (fun e => hk (by rw [e]))⟩
theorem grown_row {w w' : World} {row : Option Nat} (hg : w.grownBy w' row) {kd : IntKind} {a : Option Addr} {zs : List Int} (hr : RowK kd w a zs) (hne : 0 < zs.length → ∀ b off, a = some ⟨b, off, none⟩ → some b ≠ row) : RowK kd w' a zs := by
  intro i hi
  obtain ⟨b, off, rfl, hc⟩ := hr i hi
  exact ⟨b, off, rfl, hg.cell hc (hne (by omega) b off rfl)⟩
theorem OwnK.grown {kd : IntKind} {e : TypeId} {w w' : World} {base : Nat} {v : Value} {zs : List Int} {row : Option Nat} (h : OwnK kd e w base v zs) (hg : w.grownBy w' row) (hne : v.ownBlock = none ∨ v.ownBlock ≠ row) : OwnK kd e w' base v zs := World.ownsRow.kept h hg hne

def OverPost (w : World) (v : Value) (e : Ending) (w' : World) : Prop := e = .returned (.tuple #[]) ∧ w.grownBy w' v.ownBlock
end Go.Proofs.YtjpjjckokonkpaaDoor
