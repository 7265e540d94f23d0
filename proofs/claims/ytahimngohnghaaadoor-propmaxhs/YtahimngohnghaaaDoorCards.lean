/-
  DERIVED. GIVEN WITH THE SEED: THE CARDS: each row of YtahimngohnghaaaDoorRows.lean that lists a variable, with what it lists TIED to the program's text (the seventh form; the later family's looks); each row that meets fmt, with fmt's text TOLD by the authors' own Lean function (tested against real Go, not proved from fmt's source: count such statements apart). THE CARD IS WHAT COUNTS. Prove the row's statement (the work); the ties are given (YtahimngohnghaaaDoorTie.lean); close each card by the builder's one call (the guide's Derived/Test/ToyasCard.lean, 'card_holds'). Laid BY PROGRAM, IN A SANDBOX (cutbox-door.mjs). By AI agents, Wed Nov 11 2026. No macro, syntax, notation, axiom, sorry.
-/
import Derived.Test.YtahimngohnghaaaDoorRows
import GoSem.ClaimSeven
namespace Go.Proofs.YtahimngohnghaaaDoor
namespace Rows

/-- THE TIED CARD OF 'arraslaw9.PropChecks'. -/
def propChecksCard : Claim7 := { stood := { row := propChecksRow, standIns := [], harness := (true, "534d1945fa15f2bcaf2a7a713be3578ae924f30fe04b23dd8afe6b1744ab5e92"), looks := false }, kinds := [], alts := [], laidByText := true, laidKinds := [.data], laidTests := true, laidLooks := .later }
def PropChecksCardSaid : Prop := Claim7.holds Tryd.pinned (.plain (OpenSpec.ofChange propChecksSpec)) propChecksCard

/-- THE TIED CARD OF 'arraslaw9.PropStyles'. -/
def propStylesCard : Claim7 := { stood := { row := propStylesRow, standIns := [], harness := (true, "534d1945fa15f2bcaf2a7a713be3578ae924f30fe04b23dd8afe6b1744ab5e92"), looks := false }, kinds := [], alts := [], laidByText := true, laidKinds := [.data], laidTests := true, laidLooks := .later }
def PropStylesCardSaid : Prop := Claim7.holds Tryd.pinned (.plain (OpenSpec.ofChange propStylesSpec)) propStylesCard

/-- THE TIED CARD OF 'arraslaw9.PropEdges'. -/
def propEdgesCard : Claim7 := { stood := { row := propEdgesRow, standIns := [], harness := (true, "534d1945fa15f2bcaf2a7a713be3578ae924f30fe04b23dd8afe6b1744ab5e92"), looks := false }, kinds := [], alts := [], laidByText := true, laidKinds := [.data], laidTests := true, laidLooks := .later }
def PropEdgesCardSaid : Prop := Claim7.holds Tryd.pinned (.plain (OpenSpec.ofChange propEdgesSpec)) propEdgesCard

/-- THE TIED CARD OF 'arraslaw9.PropDisplays'. -/
def propDisplaysCard : Claim7 := { stood := { row := propDisplaysRow, standIns := [], harness := (true, "534d1945fa15f2bcaf2a7a713be3578ae924f30fe04b23dd8afe6b1744ab5e92"), looks := false }, kinds := [], alts := [], laidByText := true, laidKinds := [.data], laidTests := true, laidLooks := .later }
def PropDisplaysCardSaid : Prop := Claim7.holds Tryd.pinned (.plain (OpenSpec.ofChange propDisplaysSpec)) propDisplaysCard

/-- THE TIED CARD OF 'arraslaw9.PropDirects'. -/
def propDirectsCard : Claim7 := { stood := { row := propDirectsRow, standIns := [], harness := (true, "534d1945fa15f2bcaf2a7a713be3578ae924f30fe04b23dd8afe6b1744ab5e92"), looks := false }, kinds := [], alts := [], laidByText := true, laidKinds := [.data], laidTests := true, laidLooks := .later }
def PropDirectsCardSaid : Prop := Claim7.holds Tryd.pinned (.plain (OpenSpec.ofChange propDirectsSpec)) propDirectsCard

/-- THE TIED CARD OF 'arraslaw9.PropWraps'. -/
def propWrapsCard : Claim7 := { stood := { row := propWrapsRow, standIns := [], harness := (true, "534d1945fa15f2bcaf2a7a713be3578ae924f30fe04b23dd8afe6b1744ab5e92"), looks := false }, kinds := [], alts := [], laidByText := true, laidKinds := [.data], laidTests := true, laidLooks := .later }
def PropWrapsCardSaid : Prop := Claim7.holds Tryd.pinned (.plain (OpenSpec.ofChange propWrapsSpec)) propWrapsCard

/-- THE TIED CARD OF 'arraslaw9.PropWidths'. -/
def propWidthsCard : Claim7 := { stood := { row := propWidthsRow, standIns := [], harness := (true, "534d1945fa15f2bcaf2a7a713be3578ae924f30fe04b23dd8afe6b1744ab5e92"), looks := false }, kinds := [], alts := [], laidByText := true, laidKinds := [.data], laidTests := true, laidLooks := .later }
def PropWidthsCardSaid : Prop := Claim7.holds Tryd.pinned (.plain (OpenSpec.ofChange propWidthsSpec)) propWidthsCard

/-- THE TIED CARD OF 'arraslaw9.PropHeights'. -/
def propHeightsCard : Claim7 := { stood := { row := propHeightsRow, standIns := [], harness := (true, "534d1945fa15f2bcaf2a7a713be3578ae924f30fe04b23dd8afe6b1744ab5e92"), looks := false }, kinds := [], alts := [], laidByText := true, laidKinds := [.data], laidTests := true, laidLooks := .later }
def PropHeightsCardSaid : Prop := Claim7.holds Tryd.pinned (.plain (OpenSpec.ofChange propHeightsSpec)) propHeightsCard

/-- THE TIED CARD OF 'arraslaw9.PropMinWs'. -/
def propMinWsCard : Claim7 := { stood := { row := propMinWsRow, standIns := [], harness := (true, "534d1945fa15f2bcaf2a7a713be3578ae924f30fe04b23dd8afe6b1744ab5e92"), looks := false }, kinds := [], alts := [], laidByText := true, laidKinds := [.data], laidTests := true, laidLooks := .later }
def PropMinWsCardSaid : Prop := Claim7.holds Tryd.pinned (.plain (OpenSpec.ofChange propMinWsSpec)) propMinWsCard

/-- THE TIED CARD OF 'arraslaw9.PropMaxWs'. -/
def propMaxWsCard : Claim7 := { stood := { row := propMaxWsRow, standIns := [], harness := (true, "534d1945fa15f2bcaf2a7a713be3578ae924f30fe04b23dd8afe6b1744ab5e92"), looks := false }, kinds := [], alts := [], laidByText := true, laidKinds := [.data], laidTests := true, laidLooks := .later }
def PropMaxWsCardSaid : Prop := Claim7.holds Tryd.pinned (.plain (OpenSpec.ofChange propMaxWsSpec)) propMaxWsCard

/-- THE TIED CARD OF 'arraslaw9.PropMinHs'. -/
def propMinHsCard : Claim7 := { stood := { row := propMinHsRow, standIns := [], harness := (true, "534d1945fa15f2bcaf2a7a713be3578ae924f30fe04b23dd8afe6b1744ab5e92"), looks := false }, kinds := [], alts := [], laidByText := true, laidKinds := [.data], laidTests := true, laidLooks := .later }
def PropMinHsCardSaid : Prop := Claim7.holds Tryd.pinned (.plain (OpenSpec.ofChange propMinHsSpec)) propMinHsCard

/-- THE TIED CARD OF 'arraslaw9.PropMaxHs'. -/
def propMaxHsCard : Claim7 := { stood := { row := propMaxHsRow, standIns := [], harness := (true, "534d1945fa15f2bcaf2a7a713be3578ae924f30fe04b23dd8afe6b1744ab5e92"), looks := false }, kinds := [], alts := [], laidByText := true, laidKinds := [.data], laidTests := true, laidLooks := .later }
def PropMaxHsCardSaid : Prop := Claim7.holds Tryd.pinned (.plain (OpenSpec.ofChange propMaxHsSpec)) propMaxHsCard

/-- THE SECOND FORM's CARD OF 'arraslaw9.PropChecks'. -/
def propChecksUptoCard : Claim7 := { stood := { row := propChecksUptoRow, standIns := [], harness := (true, "534d1945fa15f2bcaf2a7a713be3578ae924f30fe04b23dd8afe6b1744ab5e92"), looks := false }, kinds := [], alts := [], laidByText := true, laidKinds := [.data], laidTests := true, laidLooks := .later }
def PropChecksUptoCardSaid : Prop := Claim7.holds Tryd.pinned (.plain (OpenSpec.upto propChecksSpec)) propChecksUptoCard

/-- THE SECOND FORM's CARD OF 'arraslaw9.PropStyles'. -/
def propStylesUptoCard : Claim7 := { stood := { row := propStylesUptoRow, standIns := [], harness := (true, "534d1945fa15f2bcaf2a7a713be3578ae924f30fe04b23dd8afe6b1744ab5e92"), looks := false }, kinds := [], alts := [], laidByText := true, laidKinds := [.data], laidTests := true, laidLooks := .later }
def PropStylesUptoCardSaid : Prop := Claim7.holds Tryd.pinned (.plain (OpenSpec.upto propStylesSpec)) propStylesUptoCard

/-- THE SECOND FORM's CARD OF 'arraslaw9.PropEdges'. -/
def propEdgesUptoCard : Claim7 := { stood := { row := propEdgesUptoRow, standIns := [], harness := (true, "534d1945fa15f2bcaf2a7a713be3578ae924f30fe04b23dd8afe6b1744ab5e92"), looks := false }, kinds := [], alts := [], laidByText := true, laidKinds := [.data], laidTests := true, laidLooks := .later }
def PropEdgesUptoCardSaid : Prop := Claim7.holds Tryd.pinned (.plain (OpenSpec.upto propEdgesSpec)) propEdgesUptoCard

/-- THE SECOND FORM's CARD OF 'arraslaw9.PropDisplays'. -/
def propDisplaysUptoCard : Claim7 := { stood := { row := propDisplaysUptoRow, standIns := [], harness := (true, "534d1945fa15f2bcaf2a7a713be3578ae924f30fe04b23dd8afe6b1744ab5e92"), looks := false }, kinds := [], alts := [], laidByText := true, laidKinds := [.data], laidTests := true, laidLooks := .later }
def PropDisplaysUptoCardSaid : Prop := Claim7.holds Tryd.pinned (.plain (OpenSpec.upto propDisplaysSpec)) propDisplaysUptoCard

/-- THE SECOND FORM's CARD OF 'arraslaw9.PropDirects'. -/
def propDirectsUptoCard : Claim7 := { stood := { row := propDirectsUptoRow, standIns := [], harness := (true, "534d1945fa15f2bcaf2a7a713be3578ae924f30fe04b23dd8afe6b1744ab5e92"), looks := false }, kinds := [], alts := [], laidByText := true, laidKinds := [.data], laidTests := true, laidLooks := .later }
def PropDirectsUptoCardSaid : Prop := Claim7.holds Tryd.pinned (.plain (OpenSpec.upto propDirectsSpec)) propDirectsUptoCard

/-- THE SECOND FORM's CARD OF 'arraslaw9.PropWraps'. -/
def propWrapsUptoCard : Claim7 := { stood := { row := propWrapsUptoRow, standIns := [], harness := (true, "534d1945fa15f2bcaf2a7a713be3578ae924f30fe04b23dd8afe6b1744ab5e92"), looks := false }, kinds := [], alts := [], laidByText := true, laidKinds := [.data], laidTests := true, laidLooks := .later }
def PropWrapsUptoCardSaid : Prop := Claim7.holds Tryd.pinned (.plain (OpenSpec.upto propWrapsSpec)) propWrapsUptoCard

/-- THE SECOND FORM's CARD OF 'arraslaw9.PropWidths'. -/
def propWidthsUptoCard : Claim7 := { stood := { row := propWidthsUptoRow, standIns := [], harness := (true, "534d1945fa15f2bcaf2a7a713be3578ae924f30fe04b23dd8afe6b1744ab5e92"), looks := false }, kinds := [], alts := [], laidByText := true, laidKinds := [.data], laidTests := true, laidLooks := .later }
def PropWidthsUptoCardSaid : Prop := Claim7.holds Tryd.pinned (.plain (OpenSpec.upto propWidthsSpec)) propWidthsUptoCard

/-- THE SECOND FORM's CARD OF 'arraslaw9.PropHeights'. -/
def propHeightsUptoCard : Claim7 := { stood := { row := propHeightsUptoRow, standIns := [], harness := (true, "534d1945fa15f2bcaf2a7a713be3578ae924f30fe04b23dd8afe6b1744ab5e92"), looks := false }, kinds := [], alts := [], laidByText := true, laidKinds := [.data], laidTests := true, laidLooks := .later }
def PropHeightsUptoCardSaid : Prop := Claim7.holds Tryd.pinned (.plain (OpenSpec.upto propHeightsSpec)) propHeightsUptoCard

/-- THE SECOND FORM's CARD OF 'arraslaw9.PropMinWs'. -/
def propMinWsUptoCard : Claim7 := { stood := { row := propMinWsUptoRow, standIns := [], harness := (true, "534d1945fa15f2bcaf2a7a713be3578ae924f30fe04b23dd8afe6b1744ab5e92"), looks := false }, kinds := [], alts := [], laidByText := true, laidKinds := [.data], laidTests := true, laidLooks := .later }
def PropMinWsUptoCardSaid : Prop := Claim7.holds Tryd.pinned (.plain (OpenSpec.upto propMinWsSpec)) propMinWsUptoCard

/-- THE SECOND FORM's CARD OF 'arraslaw9.PropMaxWs'. -/
def propMaxWsUptoCard : Claim7 := { stood := { row := propMaxWsUptoRow, standIns := [], harness := (true, "534d1945fa15f2bcaf2a7a713be3578ae924f30fe04b23dd8afe6b1744ab5e92"), looks := false }, kinds := [], alts := [], laidByText := true, laidKinds := [.data], laidTests := true, laidLooks := .later }
def PropMaxWsUptoCardSaid : Prop := Claim7.holds Tryd.pinned (.plain (OpenSpec.upto propMaxWsSpec)) propMaxWsUptoCard

/-- THE SECOND FORM's CARD OF 'arraslaw9.PropMinHs'. -/
def propMinHsUptoCard : Claim7 := { stood := { row := propMinHsUptoRow, standIns := [], harness := (true, "534d1945fa15f2bcaf2a7a713be3578ae924f30fe04b23dd8afe6b1744ab5e92"), looks := false }, kinds := [], alts := [], laidByText := true, laidKinds := [.data], laidTests := true, laidLooks := .later }
def PropMinHsUptoCardSaid : Prop := Claim7.holds Tryd.pinned (.plain (OpenSpec.upto propMinHsSpec)) propMinHsUptoCard

/-- THE SECOND FORM's CARD OF 'arraslaw9.PropMaxHs'. -/
def propMaxHsUptoCard : Claim7 := { stood := { row := propMaxHsUptoRow, standIns := [], harness := (true, "534d1945fa15f2bcaf2a7a713be3578ae924f30fe04b23dd8afe6b1744ab5e92"), looks := false }, kinds := [], alts := [], laidByText := true, laidKinds := [.data], laidTests := true, laidLooks := .later }
def PropMaxHsUptoCardSaid : Prop := Claim7.holds Tryd.pinned (.plain (OpenSpec.upto propMaxHsSpec)) propMaxHsUptoCard
end Rows
end Go.Proofs.YtahimngohnghaaaDoor
