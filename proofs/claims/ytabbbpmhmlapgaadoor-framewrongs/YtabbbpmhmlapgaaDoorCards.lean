/-
  DERIVED. GIVEN WITH THE SEED: THE CARDS: each row of YtabbbpmhmlapgaaDoorRows.lean that lists a variable, with what it lists TIED to the program's text (the seventh form; the later family's looks); each row that meets fmt, with fmt's text TOLD by the authors' own Lean function (tested against real Go, not proved from fmt's source: count such statements apart). THE CARD IS WHAT COUNTS. Prove the row's statement (the work); the ties are given (YtabbbpmhmlapgaaDoorTie.lean); close each card by the builder's one call (the guide's Derived/Test/ToyasCard.lean, 'card_holds'). Laid BY PROGRAM, IN A SANDBOX (cutbox-door.mjs). By AI agents, Wed Nov 11 2026. No macro, syntax, notation, axiom, sorry.
-/
import Derived.Test.YtabbbpmhmlapgaaDoorRows
import GoSem.ClaimSeven
namespace Go.Proofs.YtabbbpmhmlapgaaDoor
namespace Rows

/-- THE TIED CARD OF 'arraslaw10.OpWrongs'. -/
def opWrongsCard : Claim7 := { stood := { row := opWrongsRow, standIns := [], harness := (true, "b037e7c33f4a3082bd0be2c44c0b37142c8546667f4ae9877acfdcea90763a95"), looks := false }, kinds := [], alts := [], laidByText := true, laidKinds := [.data], laidTests := true, laidLooks := .later }
def OpWrongsCardSaid : Prop := Claim7.holds Tryd.pinned (.plain (OpenSpec.ofChange opWrongsSpec)) opWrongsCard

/-- THE TIED CARD OF 'arraslaw11.FrameWrongs'. -/
def frameWrongsCard : Claim7 := { stood := { row := frameWrongsRow, standIns := [], harness := (true, "b037e7c33f4a3082bd0be2c44c0b37142c8546667f4ae9877acfdcea90763a95"), looks := false }, kinds := [], alts := [], laidByText := true, laidKinds := [.data], laidTests := true, laidLooks := .later }
def FrameWrongsCardSaid : Prop := Claim7.holds Tryd.pinned (.plain (OpenSpec.ofChange frameWrongsSpec)) frameWrongsCard

/-- THE SECOND FORM's CARD OF 'arraslaw10.OpWrongs'. -/
def opWrongsUptoCard : Claim7 := { stood := { row := opWrongsUptoRow, standIns := [], harness := (true, "b037e7c33f4a3082bd0be2c44c0b37142c8546667f4ae9877acfdcea90763a95"), looks := false }, kinds := [], alts := [], laidByText := true, laidKinds := [.data], laidTests := true, laidLooks := .later }
def OpWrongsUptoCardSaid : Prop := Claim7.holds Tryd.pinned (.plain (OpenSpec.upto opWrongsSpec)) opWrongsUptoCard

/-- THE SECOND FORM's CARD OF 'arraslaw11.FrameWrongs'. -/
def frameWrongsUptoCard : Claim7 := { stood := { row := frameWrongsUptoRow, standIns := [], harness := (true, "b037e7c33f4a3082bd0be2c44c0b37142c8546667f4ae9877acfdcea90763a95"), looks := false }, kinds := [], alts := [], laidByText := true, laidKinds := [.data], laidTests := true, laidLooks := .later }
def FrameWrongsUptoCardSaid : Prop := Claim7.holds Tryd.pinned (.plain (OpenSpec.upto frameWrongsSpec)) frameWrongsUptoCard
end Rows
end Go.Proofs.YtabbbpmhmlapgaaDoor
