/-
  DERIVED. GIVEN WITH THE SEED: THE CARDS: each row of YtdpopdlifcjdeaaDoorRows.lean that lists a variable, with what it lists TIED to the program's text (the seventh form; the later family's looks); each row that meets fmt, with fmt's text TOLD by the authors' own Lean function (tested against real Go, not proved from fmt's source: count such statements apart). THE CARD IS WHAT COUNTS. Prove the row's statement (the work); the ties are given (YtdpopdlifcjdeaaDoorTie.lean); close each card by the builder's one call (the guide's Derived/Test/ToyasCard.lean, 'card_holds'). Laid BY PROGRAM, IN A SANDBOX (cutbox-door.mjs). By AI agents, Wed Nov 11 2026. No macro, syntax, notation, axiom, sorry.
-/
import Derived.Test.YtdpopdlifcjdeaaDoorRows
import GoSem.ClaimSeven
namespace Go.Proofs.YtdpopdlifcjdeaaDoor
namespace Rows

/-- THE TIED CARD OF 'arraslaw14.HoldExact'. -/
def holdExactCard : Claim7 := { stood := { row := holdExactRow, standIns := [], harness := (true, "5c9b4bc4b8f85310a0deda60bb6c51062f04bcce84a176ce59e62b2c9a11311e"), looks := false }, kinds := [], alts := [], laidByText := true, laidKinds := [.data], laidTests := true, laidLooks := .later }
def HoldExactCardSaid : Prop := Claim7.holds Tryd.pinned (.plain (OpenSpec.ofChange holdExactSpec)) holdExactCard

/-- THE TIED CARD OF 'arraslaw14.HoldOrders'. -/
def holdOrdersCard : Claim7 := { stood := { row := holdOrdersRow, standIns := [], harness := (true, "5c9b4bc4b8f85310a0deda60bb6c51062f04bcce84a176ce59e62b2c9a11311e"), looks := false }, kinds := [], alts := [], laidByText := true, laidKinds := [.data], laidTests := true, laidLooks := .later }
def HoldOrdersCardSaid : Prop := Claim7.holds Tryd.pinned (.plain (OpenSpec.ofChange holdOrdersSpec)) holdOrdersCard

/-- THE TIED CARD OF 'arraslaw14.HoldFull'. -/
def holdFullCard : Claim7 := { stood := { row := holdFullRow, standIns := [], harness := (true, "5c9b4bc4b8f85310a0deda60bb6c51062f04bcce84a176ce59e62b2c9a11311e"), looks := false }, kinds := [], alts := [], laidByText := true, laidKinds := [.data], laidTests := true, laidLooks := .later }
def HoldFullCardSaid : Prop := Claim7.holds Tryd.pinned (.plain (OpenSpec.ofChange holdFullSpec)) holdFullCard

/-- THE TIED CARD OF 'arraslaw14.HoldReady'. -/
def holdReadyCard : Claim7 := { stood := { row := holdReadyRow, standIns := [], harness := (true, "5c9b4bc4b8f85310a0deda60bb6c51062f04bcce84a176ce59e62b2c9a11311e"), looks := false }, kinds := [], alts := [], laidByText := true, laidKinds := [.data], laidTests := true, laidLooks := .later }
def HoldReadyCardSaid : Prop := Claim7.holds Tryd.pinned (.plain (OpenSpec.ofChange holdReadySpec)) holdReadyCard

/-- THE TIED CARD OF 'arraslaw14.HoldTakes'. -/
def holdTakesCard : Claim7 := { stood := { row := holdTakesRow, standIns := [], harness := (true, "5c9b4bc4b8f85310a0deda60bb6c51062f04bcce84a176ce59e62b2c9a11311e"), looks := false }, kinds := [], alts := [], laidByText := true, laidKinds := [.data], laidTests := true, laidLooks := .later }
def HoldTakesCardSaid : Prop := Claim7.holds Tryd.pinned (.plain (OpenSpec.ofChange holdTakesSpec)) holdTakesCard

/-- THE SECOND FORM's CARD OF 'arraslaw14.HoldExact'. -/
def holdExactUptoCard : Claim7 := { stood := { row := holdExactUptoRow, standIns := [], harness := (true, "5c9b4bc4b8f85310a0deda60bb6c51062f04bcce84a176ce59e62b2c9a11311e"), looks := false }, kinds := [], alts := [], laidByText := true, laidKinds := [.data], laidTests := true, laidLooks := .later }
def HoldExactUptoCardSaid : Prop := Claim7.holds Tryd.pinned (.plain (OpenSpec.upto holdExactSpec)) holdExactUptoCard

/-- THE SECOND FORM's CARD OF 'arraslaw14.HoldOrders'. -/
def holdOrdersUptoCard : Claim7 := { stood := { row := holdOrdersUptoRow, standIns := [], harness := (true, "5c9b4bc4b8f85310a0deda60bb6c51062f04bcce84a176ce59e62b2c9a11311e"), looks := false }, kinds := [], alts := [], laidByText := true, laidKinds := [.data], laidTests := true, laidLooks := .later }
def HoldOrdersUptoCardSaid : Prop := Claim7.holds Tryd.pinned (.plain (OpenSpec.upto holdOrdersSpec)) holdOrdersUptoCard

/-- THE SECOND FORM's CARD OF 'arraslaw14.HoldFull'. -/
def holdFullUptoCard : Claim7 := { stood := { row := holdFullUptoRow, standIns := [], harness := (true, "5c9b4bc4b8f85310a0deda60bb6c51062f04bcce84a176ce59e62b2c9a11311e"), looks := false }, kinds := [], alts := [], laidByText := true, laidKinds := [.data], laidTests := true, laidLooks := .later }
def HoldFullUptoCardSaid : Prop := Claim7.holds Tryd.pinned (.plain (OpenSpec.upto holdFullSpec)) holdFullUptoCard

/-- THE SECOND FORM's CARD OF 'arraslaw14.HoldReady'. -/
def holdReadyUptoCard : Claim7 := { stood := { row := holdReadyUptoRow, standIns := [], harness := (true, "5c9b4bc4b8f85310a0deda60bb6c51062f04bcce84a176ce59e62b2c9a11311e"), looks := false }, kinds := [], alts := [], laidByText := true, laidKinds := [.data], laidTests := true, laidLooks := .later }
def HoldReadyUptoCardSaid : Prop := Claim7.holds Tryd.pinned (.plain (OpenSpec.upto holdReadySpec)) holdReadyUptoCard

/-- THE SECOND FORM's CARD OF 'arraslaw14.HoldTakes'. -/
def holdTakesUptoCard : Claim7 := { stood := { row := holdTakesUptoRow, standIns := [], harness := (true, "5c9b4bc4b8f85310a0deda60bb6c51062f04bcce84a176ce59e62b2c9a11311e"), looks := false }, kinds := [], alts := [], laidByText := true, laidKinds := [.data], laidTests := true, laidLooks := .later }
def HoldTakesUptoCardSaid : Prop := Claim7.holds Tryd.pinned (.plain (OpenSpec.upto holdTakesSpec)) holdTakesUptoCard
end Rows
end Go.Proofs.YtdpopdlifcjdeaaDoor
