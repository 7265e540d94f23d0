/-
  DERIVED. GIVEN WITH THE SEED: THE CARDS: each row of YtjpjjckokonkpaaDoorRows.lean that lists a variable, with what it lists TIED to the program's text (the seventh form; the later family's looks); each row that meets fmt, with fmt's text TOLD by the authors' own Lean function (tested against real Go, not proved from fmt's source: count such statements apart). THE CARD IS WHAT COUNTS. Prove the row's statement (the work); the ties are given (YtjpjjckokonkpaaDoorTie.lean); close each card by the builder's one call (the guide's Derived/Test/ToyasCard.lean, 'card_holds'). Laid BY PROGRAM, IN A SANDBOX (cutbox-door.mjs). By AI agents, Wed Nov 11 2026. No macro, syntax, notation, axiom, sorry.
-/
import Derived.Test.YtjpjjckokonkpaaDoorRows
import GoSem.ClaimSeven
namespace Go.Proofs.YtjpjjckokonkpaaDoor
namespace Rows

/-- THE TIED CARD OF 'arraslaw15.RegExact'. -/
def regExactCard : Claim7 := { stood := { row := regExactRow, standIns := [], harness := (true, "97783c659aff99d383c4f68e5febc5bd9990d445ea71a7ed855ef13b098daa17"), looks := false }, kinds := [], alts := [], laidByText := true, laidKinds := [.data], laidTests := true, laidLooks := .later }
def RegExactCardSaid : Prop := Claim7.holds Tryd.pinned (.plain (OpenSpec.ofChange regExactSpec)) regExactCard

/-- THE TIED CARD OF 'arraslaw15.RegOrders'. -/
def regOrdersCard : Claim7 := { stood := { row := regOrdersRow, standIns := [], harness := (true, "97783c659aff99d383c4f68e5febc5bd9990d445ea71a7ed855ef13b098daa17"), looks := false }, kinds := [], alts := [], laidByText := true, laidKinds := [.data], laidTests := true, laidLooks := .later }
def RegOrdersCardSaid : Prop := Claim7.holds Tryd.pinned (.plain (OpenSpec.ofChange regOrdersSpec)) regOrdersCard

/-- THE TIED CARD OF 'arraslaw15.RegSets'. -/
def regSetsCard : Claim7 := { stood := { row := regSetsRow, standIns := [], harness := (true, "97783c659aff99d383c4f68e5febc5bd9990d445ea71a7ed855ef13b098daa17"), looks := false }, kinds := [], alts := [], laidByText := true, laidKinds := [.data], laidTests := true, laidLooks := .later }
def RegSetsCardSaid : Prop := Claim7.holds Tryd.pinned (.plain (OpenSpec.ofChange regSetsSpec)) regSetsCard

/-- THE TIED CARD OF 'arraslaw15.RegMerges'. -/
def regMergesCard : Claim7 := { stood := { row := regMergesRow, standIns := [], harness := (true, "97783c659aff99d383c4f68e5febc5bd9990d445ea71a7ed855ef13b098daa17"), looks := false }, kinds := [], alts := [], laidByText := true, laidKinds := [.data], laidTests := true, laidLooks := .later }
def RegMergesCardSaid : Prop := Claim7.holds Tryd.pinned (.plain (OpenSpec.ofChange regMergesSpec)) regMergesCard

/-- THE TIED CARD OF 'arraslaw15.RegSame'. -/
def regSameCard : Claim7 := { stood := { row := regSameRow, standIns := [], harness := (true, "97783c659aff99d383c4f68e5febc5bd9990d445ea71a7ed855ef13b098daa17"), looks := false }, kinds := [], alts := [], laidByText := true, laidKinds := [.data], laidTests := true, laidLooks := .later }
def RegSameCardSaid : Prop := Claim7.holds Tryd.pinned (.plain (OpenSpec.ofChange regSameSpec)) regSameCard

/-- THE SECOND FORM's CARD OF 'arraslaw15.RegExact'. -/
def regExactUptoCard : Claim7 := { stood := { row := regExactUptoRow, standIns := [], harness := (true, "97783c659aff99d383c4f68e5febc5bd9990d445ea71a7ed855ef13b098daa17"), looks := false }, kinds := [], alts := [], laidByText := true, laidKinds := [.data], laidTests := true, laidLooks := .later }
def RegExactUptoCardSaid : Prop := Claim7.holds Tryd.pinned (.plain (OpenSpec.upto regExactSpec)) regExactUptoCard

/-- THE SECOND FORM's CARD OF 'arraslaw15.RegOrders'. -/
def regOrdersUptoCard : Claim7 := { stood := { row := regOrdersUptoRow, standIns := [], harness := (true, "97783c659aff99d383c4f68e5febc5bd9990d445ea71a7ed855ef13b098daa17"), looks := false }, kinds := [], alts := [], laidByText := true, laidKinds := [.data], laidTests := true, laidLooks := .later }
def RegOrdersUptoCardSaid : Prop := Claim7.holds Tryd.pinned (.plain (OpenSpec.upto regOrdersSpec)) regOrdersUptoCard

/-- THE SECOND FORM's CARD OF 'arraslaw15.RegSets'. -/
def regSetsUptoCard : Claim7 := { stood := { row := regSetsUptoRow, standIns := [], harness := (true, "97783c659aff99d383c4f68e5febc5bd9990d445ea71a7ed855ef13b098daa17"), looks := false }, kinds := [], alts := [], laidByText := true, laidKinds := [.data], laidTests := true, laidLooks := .later }
def RegSetsUptoCardSaid : Prop := Claim7.holds Tryd.pinned (.plain (OpenSpec.upto regSetsSpec)) regSetsUptoCard

/-- THE SECOND FORM's CARD OF 'arraslaw15.RegMerges'. -/
def regMergesUptoCard : Claim7 := { stood := { row := regMergesUptoRow, standIns := [], harness := (true, "97783c659aff99d383c4f68e5febc5bd9990d445ea71a7ed855ef13b098daa17"), looks := false }, kinds := [], alts := [], laidByText := true, laidKinds := [.data], laidTests := true, laidLooks := .later }
def RegMergesUptoCardSaid : Prop := Claim7.holds Tryd.pinned (.plain (OpenSpec.upto regMergesSpec)) regMergesUptoCard

/-- THE SECOND FORM's CARD OF 'arraslaw15.RegSame'. -/
def regSameUptoCard : Claim7 := { stood := { row := regSameUptoRow, standIns := [], harness := (true, "97783c659aff99d383c4f68e5febc5bd9990d445ea71a7ed855ef13b098daa17"), looks := false }, kinds := [], alts := [], laidByText := true, laidKinds := [.data], laidTests := true, laidLooks := .later }
def RegSameUptoCardSaid : Prop := Claim7.holds Tryd.pinned (.plain (OpenSpec.upto regSameSpec)) regSameUptoCard
end Rows
end Go.Proofs.YtjpjjckokonkpaaDoor
