/-
  DERIVED. GIVEN WITH THE SEED: THE CARDS: each row of YtjlbpmmckgjajaaDoorRows.lean that lists a variable, with what it lists TIED to the program's text (the seventh form; the later family's looks); each row that meets fmt, with fmt's text TOLD by the authors' own Lean function (tested against real Go, not proved from fmt's source: count such statements apart). THE CARD IS WHAT COUNTS. Prove the row's statement (the work); the ties are given (YtjlbpmmckgjajaaDoorTie.lean); close each card by the builder's one call (the guide's Derived/Test/ToyasCard.lean, 'card_holds'). Laid BY PROGRAM, IN A SANDBOX (cutbox-door.mjs). By AI agents, Wed Nov 11 2026. No macro, syntax, notation, axiom, sorry.
-/
import Derived.Test.YtjlbpmmckgjajaaDoorRows
import GoSem.ClaimSeven
namespace Go.Proofs.YtjlbpmmckgjajaaDoor
namespace Rows

/-- THE TIED CARD OF 'arraslaw16.TreeOrders'. -/
def treeOrdersCard : Claim7 := { stood := { row := treeOrdersRow, standIns := [], harness := (true, "2646b14a47b1a720b11ee92dfa274e00956e5455e210f76c6b54e55164f63642"), looks := false }, kinds := [], alts := [], laidByText := true, laidKinds := [.data], laidTests := true, laidLooks := .later }
def TreeOrdersCardSaid : Prop := Claim7.holds Tryd.pinned (.plain (OpenSpec.ofChange treeOrdersSpec)) treeOrdersCard

/-- THE TIED CARD OF 'arraslaw16.TreeRounds'. -/
def treeRoundsCard : Claim7 := { stood := { row := treeRoundsRow, standIns := [], harness := (true, "2646b14a47b1a720b11ee92dfa274e00956e5455e210f76c6b54e55164f63642"), looks := false }, kinds := [], alts := [], laidByText := true, laidKinds := [.data], laidTests := true, laidLooks := .later }
def TreeRoundsCardSaid : Prop := Claim7.holds Tryd.pinned (.plain (OpenSpec.ofChange treeRoundsSpec)) treeRoundsCard

/-- THE TIED CARD OF 'arraslaw16.TreeLate'. -/
def treeLateCard : Claim7 := { stood := { row := treeLateRow, standIns := [], harness := (true, "2646b14a47b1a720b11ee92dfa274e00956e5455e210f76c6b54e55164f63642"), looks := false }, kinds := [], alts := [], laidByText := true, laidKinds := [.data], laidTests := true, laidLooks := .later }
def TreeLateCardSaid : Prop := Claim7.holds Tryd.pinned (.plain (OpenSpec.ofChange treeLateSpec)) treeLateCard

/-- THE SECOND FORM's CARD OF 'arraslaw16.TreeOrders'. -/
def treeOrdersUptoCard : Claim7 := { stood := { row := treeOrdersUptoRow, standIns := [], harness := (true, "2646b14a47b1a720b11ee92dfa274e00956e5455e210f76c6b54e55164f63642"), looks := false }, kinds := [], alts := [], laidByText := true, laidKinds := [.data], laidTests := true, laidLooks := .later }
def TreeOrdersUptoCardSaid : Prop := Claim7.holds Tryd.pinned (.plain (OpenSpec.upto treeOrdersSpec)) treeOrdersUptoCard

/-- THE SECOND FORM's CARD OF 'arraslaw16.TreeRounds'. -/
def treeRoundsUptoCard : Claim7 := { stood := { row := treeRoundsUptoRow, standIns := [], harness := (true, "2646b14a47b1a720b11ee92dfa274e00956e5455e210f76c6b54e55164f63642"), looks := false }, kinds := [], alts := [], laidByText := true, laidKinds := [.data], laidTests := true, laidLooks := .later }
def TreeRoundsUptoCardSaid : Prop := Claim7.holds Tryd.pinned (.plain (OpenSpec.upto treeRoundsSpec)) treeRoundsUptoCard

/-- THE SECOND FORM's CARD OF 'arraslaw16.TreeLate'. -/
def treeLateUptoCard : Claim7 := { stood := { row := treeLateUptoRow, standIns := [], harness := (true, "2646b14a47b1a720b11ee92dfa274e00956e5455e210f76c6b54e55164f63642"), looks := false }, kinds := [], alts := [], laidByText := true, laidKinds := [.data], laidTests := true, laidLooks := .later }
def TreeLateUptoCardSaid : Prop := Claim7.holds Tryd.pinned (.plain (OpenSpec.upto treeLateSpec)) treeLateUptoCard
end Rows
end Go.Proofs.YtjlbpmmckgjajaaDoor
