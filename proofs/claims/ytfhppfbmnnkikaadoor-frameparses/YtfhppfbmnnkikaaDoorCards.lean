/-
  DERIVED. GIVEN WITH THE SEED: THE CARDS: each row of YtfhppfbmnnkikaaDoorRows.lean that lists a variable, with what it lists TIED to the program's text (the seventh form; the later family's looks); each row that meets fmt, with fmt's text TOLD by the authors' own Lean function (tested against real Go, not proved from fmt's source: count such statements apart). THE CARD IS WHAT COUNTS. Prove the row's statement (the work); the ties are given (YtfhppfbmnnkikaaDoorTie.lean); close each card by the builder's one call (the guide's Derived/Test/ToyasCard.lean, 'card_holds'). Laid BY PROGRAM, IN A SANDBOX (cutbox-door.mjs). By AI agents, Wed Nov 11 2026. No macro, syntax, notation, axiom, sorry.
-/
import Derived.Test.YtfhppfbmnnkikaaDoorRows
import GoSem.ClaimSeven
namespace Go.Proofs.YtfhppfbmnnkikaaDoor
namespace Rows

/-- THE TIED CARD OF 'arraslaw10.OpWrongs'. -/
def opWrongsCard : Claim7 := { stood := { row := opWrongsRow, standIns := [], harness := (true, "b9e29520192b15a78506e395a4ceb0bf7e0ce28eab0f63bd3325d52273fed8ca"), looks := false }, kinds := [], alts := [], laidByText := true, laidKinds := [.data], laidTests := true, laidLooks := .later }
def OpWrongsCardSaid : Prop := Claim7.holds Tryd.pinned (.plain (OpenSpec.ofChange opWrongsSpec)) opWrongsCard

/-- THE TIED CARD OF 'arraslaw11.FrameBytes'. -/
def frameBytesCard : Claim7 := { stood := { row := frameBytesRow, standIns := [], harness := (true, "b9e29520192b15a78506e395a4ceb0bf7e0ce28eab0f63bd3325d52273fed8ca"), looks := false }, kinds := [], alts := [], laidByText := true, laidKinds := [.data], laidTests := true, laidLooks := .later }
def FrameBytesCardSaid : Prop := Claim7.holds Tryd.pinned (.plain (OpenSpec.ofChange frameBytesSpec)) frameBytesCard

/-- THE TIED CARD OF 'arraslaw11.FrameParses'. -/
def frameParsesCard : Claim7 := { stood := { row := frameParsesRow, standIns := [], harness := (true, "b9e29520192b15a78506e395a4ceb0bf7e0ce28eab0f63bd3325d52273fed8ca"), looks := false }, kinds := [], alts := [], laidByText := true, laidKinds := [.data], laidTests := true, laidLooks := .later }
def FrameParsesCardSaid : Prop := Claim7.holds Tryd.pinned (.plain (OpenSpec.ofChange frameParsesSpec)) frameParsesCard

/-- THE TIED CARD OF 'arraslaw11.FrameBack'. -/
def frameBackCard : Claim7 := { stood := { row := frameBackRow, standIns := [], harness := (true, "b9e29520192b15a78506e395a4ceb0bf7e0ce28eab0f63bd3325d52273fed8ca"), looks := false }, kinds := [], alts := [], laidByText := true, laidKinds := [.data], laidTests := true, laidLooks := .later }
def FrameBackCardSaid : Prop := Claim7.holds Tryd.pinned (.plain (OpenSpec.ofChange frameBackSpec)) frameBackCard

/-- THE TIED CARD OF 'arraslaw11.FrameWrongs'. -/
def frameWrongsCard : Claim7 := { stood := { row := frameWrongsRow, standIns := [], harness := (true, "b9e29520192b15a78506e395a4ceb0bf7e0ce28eab0f63bd3325d52273fed8ca"), looks := false }, kinds := [], alts := [], laidByText := true, laidKinds := [.data], laidTests := true, laidLooks := .later }
def FrameWrongsCardSaid : Prop := Claim7.holds Tryd.pinned (.plain (OpenSpec.ofChange frameWrongsSpec)) frameWrongsCard

/-- THE SECOND FORM's CARD OF 'arraslaw10.OpWrongs'. -/
def opWrongsUptoCard : Claim7 := { stood := { row := opWrongsUptoRow, standIns := [], harness := (true, "b9e29520192b15a78506e395a4ceb0bf7e0ce28eab0f63bd3325d52273fed8ca"), looks := false }, kinds := [], alts := [], laidByText := true, laidKinds := [.data], laidTests := true, laidLooks := .later }
def OpWrongsUptoCardSaid : Prop := Claim7.holds Tryd.pinned (.plain (OpenSpec.upto opWrongsSpec)) opWrongsUptoCard

/-- THE SECOND FORM's CARD OF 'arraslaw11.FrameBytes'. -/
def frameBytesUptoCard : Claim7 := { stood := { row := frameBytesUptoRow, standIns := [], harness := (true, "b9e29520192b15a78506e395a4ceb0bf7e0ce28eab0f63bd3325d52273fed8ca"), looks := false }, kinds := [], alts := [], laidByText := true, laidKinds := [.data], laidTests := true, laidLooks := .later }
def FrameBytesUptoCardSaid : Prop := Claim7.holds Tryd.pinned (.plain (OpenSpec.upto frameBytesSpec)) frameBytesUptoCard

/-- THE SECOND FORM's CARD OF 'arraslaw11.FrameParses'. -/
def frameParsesUptoCard : Claim7 := { stood := { row := frameParsesUptoRow, standIns := [], harness := (true, "b9e29520192b15a78506e395a4ceb0bf7e0ce28eab0f63bd3325d52273fed8ca"), looks := false }, kinds := [], alts := [], laidByText := true, laidKinds := [.data], laidTests := true, laidLooks := .later }
def FrameParsesUptoCardSaid : Prop := Claim7.holds Tryd.pinned (.plain (OpenSpec.upto frameParsesSpec)) frameParsesUptoCard

/-- THE SECOND FORM's CARD OF 'arraslaw11.FrameBack'. -/
def frameBackUptoCard : Claim7 := { stood := { row := frameBackUptoRow, standIns := [], harness := (true, "b9e29520192b15a78506e395a4ceb0bf7e0ce28eab0f63bd3325d52273fed8ca"), looks := false }, kinds := [], alts := [], laidByText := true, laidKinds := [.data], laidTests := true, laidLooks := .later }
def FrameBackUptoCardSaid : Prop := Claim7.holds Tryd.pinned (.plain (OpenSpec.upto frameBackSpec)) frameBackUptoCard

/-- THE SECOND FORM's CARD OF 'arraslaw11.FrameWrongs'. -/
def frameWrongsUptoCard : Claim7 := { stood := { row := frameWrongsUptoRow, standIns := [], harness := (true, "b9e29520192b15a78506e395a4ceb0bf7e0ce28eab0f63bd3325d52273fed8ca"), looks := false }, kinds := [], alts := [], laidByText := true, laidKinds := [.data], laidTests := true, laidLooks := .later }
def FrameWrongsUptoCardSaid : Prop := Claim7.holds Tryd.pinned (.plain (OpenSpec.upto frameWrongsSpec)) frameWrongsUptoCard
end Rows
end Go.Proofs.YtfhppfbmnnkikaaDoor
