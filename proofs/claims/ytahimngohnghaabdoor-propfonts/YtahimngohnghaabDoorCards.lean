/-
  DERIVED. GIVEN WITH THE SEED: THE CARDS: each row of YtahimngohnghaabDoorRows.lean that lists a variable, with what it lists TIED to the program's text (the seventh form; the later family's looks); each row that meets fmt, with fmt's text TOLD by the authors' own Lean function (tested against real Go, not proved from fmt's source: count such statements apart). THE CARD IS WHAT COUNTS. Prove the row's statement (the work); the ties are given (YtahimngohnghaabDoorTie.lean); close each card by the builder's one call (the guide's Derived/Test/ToyasCard.lean, 'card_holds'). Laid BY PROGRAM, IN A SANDBOX (cutbox-door.mjs). By AI agents, Wed Nov 11 2026. No macro, syntax, notation, axiom, sorry.
-/
import Derived.Test.YtahimngohnghaabDoorRows
import GoSem.ClaimSeven
namespace Go.Proofs.YtahimngohnghaabDoor
namespace Rows

/-- THE TIED CARD OF 'arraslaw9.PropGrows'. -/
def propGrowsCard : Claim7 := { stood := { row := propGrowsRow, standIns := [], harness := (true, "7189326857c7d8d3e9ddb32af6a864eee0295bb7cd15709d1ccd14ce873284d1"), looks := false }, kinds := [], alts := [], laidByText := true, laidKinds := [.data], laidTests := true, laidLooks := .later }
def PropGrowsCardSaid : Prop := Claim7.holds Tryd.pinned (.plain (OpenSpec.ofChange propGrowsSpec)) propGrowsCard

/-- THE TIED CARD OF 'arraslaw9.PropShrinks'. -/
def propShrinksCard : Claim7 := { stood := { row := propShrinksRow, standIns := [], harness := (true, "7189326857c7d8d3e9ddb32af6a864eee0295bb7cd15709d1ccd14ce873284d1"), looks := false }, kinds := [], alts := [], laidByText := true, laidKinds := [.data], laidTests := true, laidLooks := .later }
def PropShrinksCardSaid : Prop := Claim7.holds Tryd.pinned (.plain (OpenSpec.ofChange propShrinksSpec)) propShrinksCard

/-- THE TIED CARD OF 'arraslaw9.PropBases'. -/
def propBasesCard : Claim7 := { stood := { row := propBasesRow, standIns := [], harness := (true, "7189326857c7d8d3e9ddb32af6a864eee0295bb7cd15709d1ccd14ce873284d1"), looks := false }, kinds := [], alts := [], laidByText := true, laidKinds := [.data], laidTests := true, laidLooks := .later }
def PropBasesCardSaid : Prop := Claim7.holds Tryd.pinned (.plain (OpenSpec.ofChange propBasesSpec)) propBasesCard

/-- THE TIED CARD OF 'arraslaw9.PropMargins'. -/
def propMarginsCard : Claim7 := { stood := { row := propMarginsRow, standIns := [], harness := (true, "7189326857c7d8d3e9ddb32af6a864eee0295bb7cd15709d1ccd14ce873284d1"), looks := false }, kinds := [], alts := [], laidByText := true, laidKinds := [.data], laidTests := true, laidLooks := .later }
def PropMarginsCardSaid : Prop := Claim7.holds Tryd.pinned (.plain (OpenSpec.ofChange propMarginsSpec)) propMarginsCard

/-- THE TIED CARD OF 'arraslaw9.PropPads'. -/
def propPadsCard : Claim7 := { stood := { row := propPadsRow, standIns := [], harness := (true, "7189326857c7d8d3e9ddb32af6a864eee0295bb7cd15709d1ccd14ce873284d1"), looks := false }, kinds := [], alts := [], laidByText := true, laidKinds := [.data], laidTests := true, laidLooks := .later }
def PropPadsCardSaid : Prop := Claim7.holds Tryd.pinned (.plain (OpenSpec.ofChange propPadsSpec)) propPadsCard

/-- THE TIED CARD OF 'arraslaw9.PropGaps'. -/
def propGapsCard : Claim7 := { stood := { row := propGapsRow, standIns := [], harness := (true, "7189326857c7d8d3e9ddb32af6a864eee0295bb7cd15709d1ccd14ce873284d1"), looks := false }, kinds := [], alts := [], laidByText := true, laidKinds := [.data], laidTests := true, laidLooks := .later }
def PropGapsCardSaid : Prop := Claim7.holds Tryd.pinned (.plain (OpenSpec.ofChange propGapsSpec)) propGapsCard

/-- THE TIED CARD OF 'arraslaw9.PropJusts'. -/
def propJustsCard : Claim7 := { stood := { row := propJustsRow, standIns := [], harness := (true, "7189326857c7d8d3e9ddb32af6a864eee0295bb7cd15709d1ccd14ce873284d1"), looks := false }, kinds := [], alts := [], laidByText := true, laidKinds := [.data], laidTests := true, laidLooks := .later }
def PropJustsCardSaid : Prop := Claim7.holds Tryd.pinned (.plain (OpenSpec.ofChange propJustsSpec)) propJustsCard

/-- THE TIED CARD OF 'arraslaw9.PropAligns'. -/
def propAlignsCard : Claim7 := { stood := { row := propAlignsRow, standIns := [], harness := (true, "7189326857c7d8d3e9ddb32af6a864eee0295bb7cd15709d1ccd14ce873284d1"), looks := false }, kinds := [], alts := [], laidByText := true, laidKinds := [.data], laidTests := true, laidLooks := .later }
def PropAlignsCardSaid : Prop := Claim7.holds Tryd.pinned (.plain (OpenSpec.ofChange propAlignsSpec)) propAlignsCard

/-- THE TIED CARD OF 'arraslaw9.PropColors'. -/
def propColorsCard : Claim7 := { stood := { row := propColorsRow, standIns := [], harness := (true, "7189326857c7d8d3e9ddb32af6a864eee0295bb7cd15709d1ccd14ce873284d1"), looks := false }, kinds := [], alts := [], laidByText := true, laidKinds := [.data], laidTests := true, laidLooks := .later }
def PropColorsCardSaid : Prop := Claim7.holds Tryd.pinned (.plain (OpenSpec.ofChange propColorsSpec)) propColorsCard

/-- THE TIED CARD OF 'arraslaw9.PropFonts'. -/
def propFontsCard : Claim7 := { stood := { row := propFontsRow, standIns := [], harness := (true, "7189326857c7d8d3e9ddb32af6a864eee0295bb7cd15709d1ccd14ce873284d1"), looks := false }, kinds := [], alts := [], laidByText := true, laidKinds := [.data], laidTests := true, laidLooks := .later }
def PropFontsCardSaid : Prop := Claim7.holds Tryd.pinned (.plain (OpenSpec.ofChange propFontsSpec)) propFontsCard

/-- THE SECOND FORM's CARD OF 'arraslaw9.PropGrows'. -/
def propGrowsUptoCard : Claim7 := { stood := { row := propGrowsUptoRow, standIns := [], harness := (true, "7189326857c7d8d3e9ddb32af6a864eee0295bb7cd15709d1ccd14ce873284d1"), looks := false }, kinds := [], alts := [], laidByText := true, laidKinds := [.data], laidTests := true, laidLooks := .later }
def PropGrowsUptoCardSaid : Prop := Claim7.holds Tryd.pinned (.plain (OpenSpec.upto propGrowsSpec)) propGrowsUptoCard

/-- THE SECOND FORM's CARD OF 'arraslaw9.PropShrinks'. -/
def propShrinksUptoCard : Claim7 := { stood := { row := propShrinksUptoRow, standIns := [], harness := (true, "7189326857c7d8d3e9ddb32af6a864eee0295bb7cd15709d1ccd14ce873284d1"), looks := false }, kinds := [], alts := [], laidByText := true, laidKinds := [.data], laidTests := true, laidLooks := .later }
def PropShrinksUptoCardSaid : Prop := Claim7.holds Tryd.pinned (.plain (OpenSpec.upto propShrinksSpec)) propShrinksUptoCard

/-- THE SECOND FORM's CARD OF 'arraslaw9.PropBases'. -/
def propBasesUptoCard : Claim7 := { stood := { row := propBasesUptoRow, standIns := [], harness := (true, "7189326857c7d8d3e9ddb32af6a864eee0295bb7cd15709d1ccd14ce873284d1"), looks := false }, kinds := [], alts := [], laidByText := true, laidKinds := [.data], laidTests := true, laidLooks := .later }
def PropBasesUptoCardSaid : Prop := Claim7.holds Tryd.pinned (.plain (OpenSpec.upto propBasesSpec)) propBasesUptoCard

/-- THE SECOND FORM's CARD OF 'arraslaw9.PropMargins'. -/
def propMarginsUptoCard : Claim7 := { stood := { row := propMarginsUptoRow, standIns := [], harness := (true, "7189326857c7d8d3e9ddb32af6a864eee0295bb7cd15709d1ccd14ce873284d1"), looks := false }, kinds := [], alts := [], laidByText := true, laidKinds := [.data], laidTests := true, laidLooks := .later }
def PropMarginsUptoCardSaid : Prop := Claim7.holds Tryd.pinned (.plain (OpenSpec.upto propMarginsSpec)) propMarginsUptoCard

/-- THE SECOND FORM's CARD OF 'arraslaw9.PropPads'. -/
def propPadsUptoCard : Claim7 := { stood := { row := propPadsUptoRow, standIns := [], harness := (true, "7189326857c7d8d3e9ddb32af6a864eee0295bb7cd15709d1ccd14ce873284d1"), looks := false }, kinds := [], alts := [], laidByText := true, laidKinds := [.data], laidTests := true, laidLooks := .later }
def PropPadsUptoCardSaid : Prop := Claim7.holds Tryd.pinned (.plain (OpenSpec.upto propPadsSpec)) propPadsUptoCard

/-- THE SECOND FORM's CARD OF 'arraslaw9.PropGaps'. -/
def propGapsUptoCard : Claim7 := { stood := { row := propGapsUptoRow, standIns := [], harness := (true, "7189326857c7d8d3e9ddb32af6a864eee0295bb7cd15709d1ccd14ce873284d1"), looks := false }, kinds := [], alts := [], laidByText := true, laidKinds := [.data], laidTests := true, laidLooks := .later }
def PropGapsUptoCardSaid : Prop := Claim7.holds Tryd.pinned (.plain (OpenSpec.upto propGapsSpec)) propGapsUptoCard

/-- THE SECOND FORM's CARD OF 'arraslaw9.PropJusts'. -/
def propJustsUptoCard : Claim7 := { stood := { row := propJustsUptoRow, standIns := [], harness := (true, "7189326857c7d8d3e9ddb32af6a864eee0295bb7cd15709d1ccd14ce873284d1"), looks := false }, kinds := [], alts := [], laidByText := true, laidKinds := [.data], laidTests := true, laidLooks := .later }
def PropJustsUptoCardSaid : Prop := Claim7.holds Tryd.pinned (.plain (OpenSpec.upto propJustsSpec)) propJustsUptoCard

/-- THE SECOND FORM's CARD OF 'arraslaw9.PropAligns'. -/
def propAlignsUptoCard : Claim7 := { stood := { row := propAlignsUptoRow, standIns := [], harness := (true, "7189326857c7d8d3e9ddb32af6a864eee0295bb7cd15709d1ccd14ce873284d1"), looks := false }, kinds := [], alts := [], laidByText := true, laidKinds := [.data], laidTests := true, laidLooks := .later }
def PropAlignsUptoCardSaid : Prop := Claim7.holds Tryd.pinned (.plain (OpenSpec.upto propAlignsSpec)) propAlignsUptoCard

/-- THE SECOND FORM's CARD OF 'arraslaw9.PropColors'. -/
def propColorsUptoCard : Claim7 := { stood := { row := propColorsUptoRow, standIns := [], harness := (true, "7189326857c7d8d3e9ddb32af6a864eee0295bb7cd15709d1ccd14ce873284d1"), looks := false }, kinds := [], alts := [], laidByText := true, laidKinds := [.data], laidTests := true, laidLooks := .later }
def PropColorsUptoCardSaid : Prop := Claim7.holds Tryd.pinned (.plain (OpenSpec.upto propColorsSpec)) propColorsUptoCard

/-- THE SECOND FORM's CARD OF 'arraslaw9.PropFonts'. -/
def propFontsUptoCard : Claim7 := { stood := { row := propFontsUptoRow, standIns := [], harness := (true, "7189326857c7d8d3e9ddb32af6a864eee0295bb7cd15709d1ccd14ce873284d1"), looks := false }, kinds := [], alts := [], laidByText := true, laidKinds := [.data], laidTests := true, laidLooks := .later }
def PropFontsUptoCardSaid : Prop := Claim7.holds Tryd.pinned (.plain (OpenSpec.upto propFontsSpec)) propFontsUptoCard
end Rows
end Go.Proofs.YtahimngohnghaabDoor
