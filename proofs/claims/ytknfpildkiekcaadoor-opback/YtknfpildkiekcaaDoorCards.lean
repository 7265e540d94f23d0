/-
  DERIVED. GIVEN WITH THE SEED: THE CARDS: each row of YtknfpildkiekcaaDoorRows.lean that lists a variable, with what it lists TIED to the program's text (the seventh form; the later family's looks); each row that meets fmt, with fmt's text TOLD by the authors' own Lean function (tested against real Go, not proved from fmt's source: count such statements apart). THE CARD IS WHAT COUNTS. Prove the row's statement (the work); the ties are given (YtknfpildkiekcaaDoorTie.lean); close each card by the builder's one call (the guide's Derived/Test/ToyasCard.lean, 'card_holds'). Laid BY PROGRAM, IN A SANDBOX (cutbox-door.mjs). By AI agents, Wed Nov 11 2026. No macro, syntax, notation, axiom, sorry.
-/
import Derived.Test.YtknfpildkiekcaaDoorRows
import GoSem.ClaimSeven
namespace Go.Proofs.YtknfpildkiekcaaDoor
namespace Rows

/-- THE TIED CARD OF 'arraslaw10.OpBytes'. -/
def opBytesCard : Claim7 := { stood := { row := opBytesRow, standIns := [], harness := (true, "81f2cb0e83ce36574400323717b5de5a1912ee74e4eb3babab13ca85e530acd3"), looks := false }, kinds := [], alts := [], laidByText := true, laidKinds := [.data], laidTests := true, laidLooks := .later }
def OpBytesCardSaid : Prop := Claim7.holds Tryd.pinned (.plain (OpenSpec.ofChange opBytesSpec)) opBytesCard

/-- THE TIED CARD OF 'arraslaw10.OpTakes'. -/
def opTakesCard : Claim7 := { stood := { row := opTakesRow, standIns := [], harness := (true, "81f2cb0e83ce36574400323717b5de5a1912ee74e4eb3babab13ca85e530acd3"), looks := false }, kinds := [], alts := [], laidByText := true, laidKinds := [.data], laidTests := true, laidLooks := .later }
def OpTakesCardSaid : Prop := Claim7.holds Tryd.pinned (.plain (OpenSpec.ofChange opTakesSpec)) opTakesCard

/-- THE TIED CARD OF 'arraslaw10.OpBack'. -/
def opBackCard : Claim7 := { stood := { row := opBackRow, standIns := [], harness := (true, "81f2cb0e83ce36574400323717b5de5a1912ee74e4eb3babab13ca85e530acd3"), looks := false }, kinds := [], alts := [], laidByText := true, laidKinds := [.data], laidTests := true, laidLooks := .later }
def OpBackCardSaid : Prop := Claim7.holds Tryd.pinned (.plain (OpenSpec.ofChange opBackSpec)) opBackCard

/-- THE TIED CARD OF 'arraslaw10.OpOrders'. -/
def opOrdersCard : Claim7 := { stood := { row := opOrdersRow, standIns := [], harness := (true, "81f2cb0e83ce36574400323717b5de5a1912ee74e4eb3babab13ca85e530acd3"), looks := false }, kinds := [], alts := [], laidByText := true, laidKinds := [.data], laidTests := true, laidLooks := .later }
def OpOrdersCardSaid : Prop := Claim7.holds Tryd.pinned (.plain (OpenSpec.ofChange opOrdersSpec)) opOrdersCard

/-- THE TIED CARD OF 'arraslaw10.OpWrongs'. -/
def opWrongsCard : Claim7 := { stood := { row := opWrongsRow, standIns := [], harness := (true, "81f2cb0e83ce36574400323717b5de5a1912ee74e4eb3babab13ca85e530acd3"), looks := false }, kinds := [], alts := [], laidByText := true, laidKinds := [.data], laidTests := true, laidLooks := .later }
def OpWrongsCardSaid : Prop := Claim7.holds Tryd.pinned (.plain (OpenSpec.ofChange opWrongsSpec)) opWrongsCard

/-- THE TIED CARD OF 'arraslaw10.OpMoves'. -/
def opMovesCard : Claim7 := { stood := { row := opMovesRow, standIns := [], harness := (true, "81f2cb0e83ce36574400323717b5de5a1912ee74e4eb3babab13ca85e530acd3"), looks := false }, kinds := [], alts := [], laidByText := true, laidKinds := [.data], laidTests := true, laidLooks := .later }
def OpMovesCardSaid : Prop := Claim7.holds Tryd.pinned (.plain (OpenSpec.ofChange opMovesSpec)) opMovesCard

/-- THE TIED CARD OF 'arraslaw10.OpStyles'. -/
def opStylesCard : Claim7 := { stood := { row := opStylesRow, standIns := [], harness := (true, "81f2cb0e83ce36574400323717b5de5a1912ee74e4eb3babab13ca85e530acd3"), looks := false }, kinds := [], alts := [], laidByText := true, laidKinds := [.data], laidTests := true, laidLooks := .later }
def OpStylesCardSaid : Prop := Claim7.holds Tryd.pinned (.plain (OpenSpec.ofChange opStylesSpec)) opStylesCard

/-- THE SECOND FORM's CARD OF 'arraslaw10.OpBytes'. -/
def opBytesUptoCard : Claim7 := { stood := { row := opBytesUptoRow, standIns := [], harness := (true, "81f2cb0e83ce36574400323717b5de5a1912ee74e4eb3babab13ca85e530acd3"), looks := false }, kinds := [], alts := [], laidByText := true, laidKinds := [.data], laidTests := true, laidLooks := .later }
def OpBytesUptoCardSaid : Prop := Claim7.holds Tryd.pinned (.plain (OpenSpec.upto opBytesSpec)) opBytesUptoCard

/-- THE SECOND FORM's CARD OF 'arraslaw10.OpTakes'. -/
def opTakesUptoCard : Claim7 := { stood := { row := opTakesUptoRow, standIns := [], harness := (true, "81f2cb0e83ce36574400323717b5de5a1912ee74e4eb3babab13ca85e530acd3"), looks := false }, kinds := [], alts := [], laidByText := true, laidKinds := [.data], laidTests := true, laidLooks := .later }
def OpTakesUptoCardSaid : Prop := Claim7.holds Tryd.pinned (.plain (OpenSpec.upto opTakesSpec)) opTakesUptoCard

/-- THE SECOND FORM's CARD OF 'arraslaw10.OpBack'. -/
def opBackUptoCard : Claim7 := { stood := { row := opBackUptoRow, standIns := [], harness := (true, "81f2cb0e83ce36574400323717b5de5a1912ee74e4eb3babab13ca85e530acd3"), looks := false }, kinds := [], alts := [], laidByText := true, laidKinds := [.data], laidTests := true, laidLooks := .later }
def OpBackUptoCardSaid : Prop := Claim7.holds Tryd.pinned (.plain (OpenSpec.upto opBackSpec)) opBackUptoCard

/-- THE SECOND FORM's CARD OF 'arraslaw10.OpOrders'. -/
def opOrdersUptoCard : Claim7 := { stood := { row := opOrdersUptoRow, standIns := [], harness := (true, "81f2cb0e83ce36574400323717b5de5a1912ee74e4eb3babab13ca85e530acd3"), looks := false }, kinds := [], alts := [], laidByText := true, laidKinds := [.data], laidTests := true, laidLooks := .later }
def OpOrdersUptoCardSaid : Prop := Claim7.holds Tryd.pinned (.plain (OpenSpec.upto opOrdersSpec)) opOrdersUptoCard

/-- THE SECOND FORM's CARD OF 'arraslaw10.OpWrongs'. -/
def opWrongsUptoCard : Claim7 := { stood := { row := opWrongsUptoRow, standIns := [], harness := (true, "81f2cb0e83ce36574400323717b5de5a1912ee74e4eb3babab13ca85e530acd3"), looks := false }, kinds := [], alts := [], laidByText := true, laidKinds := [.data], laidTests := true, laidLooks := .later }
def OpWrongsUptoCardSaid : Prop := Claim7.holds Tryd.pinned (.plain (OpenSpec.upto opWrongsSpec)) opWrongsUptoCard

/-- THE SECOND FORM's CARD OF 'arraslaw10.OpMoves'. -/
def opMovesUptoCard : Claim7 := { stood := { row := opMovesUptoRow, standIns := [], harness := (true, "81f2cb0e83ce36574400323717b5de5a1912ee74e4eb3babab13ca85e530acd3"), looks := false }, kinds := [], alts := [], laidByText := true, laidKinds := [.data], laidTests := true, laidLooks := .later }
def OpMovesUptoCardSaid : Prop := Claim7.holds Tryd.pinned (.plain (OpenSpec.upto opMovesSpec)) opMovesUptoCard

/-- THE SECOND FORM's CARD OF 'arraslaw10.OpStyles'. -/
def opStylesUptoCard : Claim7 := { stood := { row := opStylesUptoRow, standIns := [], harness := (true, "81f2cb0e83ce36574400323717b5de5a1912ee74e4eb3babab13ca85e530acd3"), looks := false }, kinds := [], alts := [], laidByText := true, laidKinds := [.data], laidTests := true, laidLooks := .later }
def OpStylesUptoCardSaid : Prop := Claim7.holds Tryd.pinned (.plain (OpenSpec.upto opStylesSpec)) opStylesUptoCard
end Rows
end Go.Proofs.YtknfpildkiekcaaDoor
