/-
  NARROWER THAN 'FOR EVERY INPUT', by the rows' own cells (each row's printed sentence says how): OpBytes: laid · OpTakes: laid · OpBack: laid · OpOrders: laid · OpWrongs: laid · OpMoves: laid · OpStyles: laid.
  DERIVED. THE GIVEN ROWS OF THIS SEAT. 7 by the template 'for every input the law returns true; each argument reads behind the call as it read before'; 0 by the template 'total and deterministic' (their statements: YtknfpildkiekcaaDoorTotals.lean).
  GIVEN WITH THE SEED: the statements are not yours to turn. If you find one false, say at which input.
  Laid BY PROGRAM, IN A SANDBOX (cutbox-rows.mjs): the forced cells as the released guide's own fill.sh prints them over the translation 6621d0e87e0571a8… (all of the seat's roots in one cut). By AI agents, Wed Nov 11 2026. No macro, syntax, notation, axiom, sorry.
-/
import Derived.Test.YtknfpildkiekcaaDoorChecked
import GoSem.Claim
import GoSem.ClaimJoined
import GoSem.ClaimMapViews
import Derived.JoinedTies
import Derived.KernelRfl
namespace Go.Proofs.YtknfpildkiekcaaDoor
/- THE CELL 'sum', in the pinned program and in every row, IS THE sha256 OF THE DUMP (.gsa) THAT YtknfpildkiekcaaDoorProg.lean LOADS. Nothing in Lean hashes anything: it is a label: what it is worth is what the hold of that sum in a sandbox is worth. -/
noncomputable def Tryd.pinned : Pinned := { name := "ytknfpildkiekcaadoor", sum := "6621d0e87e0571a8a2f119c8d32725901e77139e0901fdafc8e0aa6e3f3c5c3f", checked := Tryd.checked }
namespace Rows
def none {H : Type} : Left H := { results := [], args := [] }

/- WHAT THE LISTED PACKAGE-LEVEL VARIABLES READ AS WHEN THE CALL BEGINS. Each datum BY PROGRAM (the guide's laid-datum.mjs) off the statement by which the dump's own 'gosem.cut.vars' lays the variable. In a bare row this is a premise. The card (YtknfpildkiekcaaDoorCards.lean) ties it to the program's text. -/
def laid_arras_prop_rules {H : Type} : DataW H := .agg [.agg [.lit (.int .i64 0), .lit (.int .i64 2), .lit (.int .i64 0), .lit (.bool false)], .agg [.lit (.int .i64 0), .lit (.int .i64 1), .lit (.int .i64 0), .lit (.bool false)], .agg [.lit (.int .i64 0), .lit (.int .i64 1), .lit (.int .i64 0), .lit (.bool false)], .agg [.lit (.int .i64 (-1)), .lit (.int .i64 1099511627776), .lit (.int .i64 (-1)), .lit (.bool false)], .agg [.lit (.int .i64 (-1)), .lit (.int .i64 1099511627776), .lit (.int .i64 (-1)), .lit (.bool false)], .agg [.lit (.int .i64 0), .lit (.int .i64 1099511627776), .lit (.int .i64 0), .lit (.bool false)], .agg [.lit (.int .i64 (-1)), .lit (.int .i64 1099511627776), .lit (.int .i64 (-1)), .lit (.bool false)], .agg [.lit (.int .i64 0), .lit (.int .i64 1099511627776), .lit (.int .i64 0), .lit (.bool false)], .agg [.lit (.int .i64 (-1)), .lit (.int .i64 1099511627776), .lit (.int .i64 (-1)), .lit (.bool false)], .agg [.lit (.int .i64 0), .lit (.int .i64 1048576), .lit (.int .i64 0), .lit (.bool false)], .agg [.lit (.int .i64 0), .lit (.int .i64 1048576), .lit (.int .i64 1), .lit (.bool false)], .agg [.lit (.int .i64 (-1)), .lit (.int .i64 1099511627776), .lit (.int .i64 (-1)), .lit (.bool false)], .agg [.lit (.int .i64 0), .lit (.int .i64 1073741824), .lit (.int .i64 0), .lit (.bool false)], .agg [.lit (.int .i64 0), .lit (.int .i64 1073741824), .lit (.int .i64 0), .lit (.bool false)], .agg [.lit (.int .i64 0), .lit (.int .i64 1073741824), .lit (.int .i64 0), .lit (.bool false)], .agg [.lit (.int .i64 0), .lit (.int .i64 4), .lit (.int .i64 0), .lit (.bool false)], .agg [.lit (.int .i64 0), .lit (.int .i64 3), .lit (.int .i64 0), .lit (.bool false)], .agg [.lit (.int .i64 0), .lit (.int .i64 16777215), .lit (.int .i64 0), .lit (.bool true)], .agg [.lit (.int .i64 64), .lit (.int .i64 64000), .lit (.int .i64 1024), .lit (.bool true)]]

/-- 'arraslaw10.OpBytes': WHATEVER THE INPUT: true; the input reads as it did. -/
def opBytesSpec : ChangeSpec := { name := "opBytes", fn := fun _ => fun
  | [d] => { results := [.lit (.bool true)], args := [d] }
  | _ => none }
def opBytesRow : OpenClaim := { program := "ytknfpildkiekcaadoor", sum := "6621d0e87e0571a8a2f119c8d32725901e77139e0901fdafc8e0aa6e3f3c5c3f", func := "arras/arraslaw10.OpBytes", spec := "opBytes", named := ["arras/prop.rules"], apart := false, laid := [("arras/prop.rules", laid_arras_prop_rules)] }
def OpBytesSaid : Prop := opBytesRow.holds Tryd.pinned (OpenSpec.ofChange opBytesSpec)

/-- ITS FALSE NEIGHBOUR: 'it returns false'. Refute it at one input. -/
def opBytesWrong : ChangeSpec := { name := "opBytes", fn := fun _ => fun
  | [d] => { results := [.lit (.bool false)], args := [d] }
  | _ => none }
def OpBytesWrongFalsely : Prop := opBytesRow.holds Tryd.pinned (OpenSpec.ofChange opBytesWrong)

/-- 'arraslaw10.OpTakes': WHATEVER THE INPUT: true; the input reads as it did. -/
def opTakesSpec : ChangeSpec := { name := "opTakes", fn := fun _ => fun
  | [d] => { results := [.lit (.bool true)], args := [d] }
  | _ => none }
def opTakesRow : OpenClaim := { program := "ytknfpildkiekcaadoor", sum := "6621d0e87e0571a8a2f119c8d32725901e77139e0901fdafc8e0aa6e3f3c5c3f", func := "arras/arraslaw10.OpTakes", spec := "opTakes", named := ["arras/prop.rules"], apart := false, laid := [("arras/prop.rules", laid_arras_prop_rules)] }
def OpTakesSaid : Prop := opTakesRow.holds Tryd.pinned (OpenSpec.ofChange opTakesSpec)

/-- ITS FALSE NEIGHBOUR: 'it returns false'. Refute it at one input. -/
def opTakesWrong : ChangeSpec := { name := "opTakes", fn := fun _ => fun
  | [d] => { results := [.lit (.bool false)], args := [d] }
  | _ => none }
def OpTakesWrongFalsely : Prop := opTakesRow.holds Tryd.pinned (OpenSpec.ofChange opTakesWrong)

/-- 'arraslaw10.OpBack': WHATEVER THE INPUT: true; the input reads as it did. -/
def opBackSpec : ChangeSpec := { name := "opBack", fn := fun _ => fun
  | [d] => { results := [.lit (.bool true)], args := [d] }
  | _ => none }
def opBackRow : OpenClaim := { program := "ytknfpildkiekcaadoor", sum := "6621d0e87e0571a8a2f119c8d32725901e77139e0901fdafc8e0aa6e3f3c5c3f", func := "arras/arraslaw10.OpBack", spec := "opBack", named := ["arras/prop.rules"], apart := false, laid := [("arras/prop.rules", laid_arras_prop_rules)] }
def OpBackSaid : Prop := opBackRow.holds Tryd.pinned (OpenSpec.ofChange opBackSpec)

/-- ITS FALSE NEIGHBOUR: 'it returns false'. Refute it at one input. -/
def opBackWrong : ChangeSpec := { name := "opBack", fn := fun _ => fun
  | [d] => { results := [.lit (.bool false)], args := [d] }
  | _ => none }
def OpBackWrongFalsely : Prop := opBackRow.holds Tryd.pinned (OpenSpec.ofChange opBackWrong)

/-- 'arraslaw10.OpOrders': WHATEVER THE INPUT: true; the input reads as it did. -/
def opOrdersSpec : ChangeSpec := { name := "opOrders", fn := fun _ => fun
  | [d] => { results := [.lit (.bool true)], args := [d] }
  | _ => none }
def opOrdersRow : OpenClaim := { program := "ytknfpildkiekcaadoor", sum := "6621d0e87e0571a8a2f119c8d32725901e77139e0901fdafc8e0aa6e3f3c5c3f", func := "arras/arraslaw10.OpOrders", spec := "opOrders", named := ["arras/prop.rules"], apart := false, laid := [("arras/prop.rules", laid_arras_prop_rules)] }
def OpOrdersSaid : Prop := opOrdersRow.holds Tryd.pinned (OpenSpec.ofChange opOrdersSpec)

/-- ITS FALSE NEIGHBOUR: 'it returns false'. Refute it at one input. -/
def opOrdersWrong : ChangeSpec := { name := "opOrders", fn := fun _ => fun
  | [d] => { results := [.lit (.bool false)], args := [d] }
  | _ => none }
def OpOrdersWrongFalsely : Prop := opOrdersRow.holds Tryd.pinned (OpenSpec.ofChange opOrdersWrong)

/-- 'arraslaw10.OpWrongs': WHATEVER THE INPUT: true; the input reads as it did. -/
def opWrongsSpec : ChangeSpec := { name := "opWrongs", fn := fun _ => fun
  | [d] => { results := [.lit (.bool true)], args := [d] }
  | _ => none }
def opWrongsRow : OpenClaim := { program := "ytknfpildkiekcaadoor", sum := "6621d0e87e0571a8a2f119c8d32725901e77139e0901fdafc8e0aa6e3f3c5c3f", func := "arras/arraslaw10.OpWrongs", spec := "opWrongs", named := ["arras/prop.rules"], apart := false, laid := [("arras/prop.rules", laid_arras_prop_rules)] }
def OpWrongsSaid : Prop := opWrongsRow.holds Tryd.pinned (OpenSpec.ofChange opWrongsSpec)

/-- ITS FALSE NEIGHBOUR: 'it returns false'. Refute it at one input. -/
def opWrongsWrong : ChangeSpec := { name := "opWrongs", fn := fun _ => fun
  | [d] => { results := [.lit (.bool false)], args := [d] }
  | _ => none }
def OpWrongsWrongFalsely : Prop := opWrongsRow.holds Tryd.pinned (OpenSpec.ofChange opWrongsWrong)

/-- 'arraslaw10.OpMoves': WHATEVER THE INPUT: true; the input reads as it did. -/
def opMovesSpec : ChangeSpec := { name := "opMoves", fn := fun _ => fun
  | [d] => { results := [.lit (.bool true)], args := [d] }
  | _ => none }
def opMovesRow : OpenClaim := { program := "ytknfpildkiekcaadoor", sum := "6621d0e87e0571a8a2f119c8d32725901e77139e0901fdafc8e0aa6e3f3c5c3f", func := "arras/arraslaw10.OpMoves", spec := "opMoves", named := ["arras/prop.rules"], apart := false, laid := [("arras/prop.rules", laid_arras_prop_rules)] }
def OpMovesSaid : Prop := opMovesRow.holds Tryd.pinned (OpenSpec.ofChange opMovesSpec)

/-- ITS FALSE NEIGHBOUR: 'it returns false'. Refute it at one input. -/
def opMovesWrong : ChangeSpec := { name := "opMoves", fn := fun _ => fun
  | [d] => { results := [.lit (.bool false)], args := [d] }
  | _ => none }
def OpMovesWrongFalsely : Prop := opMovesRow.holds Tryd.pinned (OpenSpec.ofChange opMovesWrong)

/-- 'arraslaw10.OpStyles': WHATEVER THE INPUT: true; the input reads as it did. -/
def opStylesSpec : ChangeSpec := { name := "opStyles", fn := fun _ => fun
  | [d] => { results := [.lit (.bool true)], args := [d] }
  | _ => none }
def opStylesRow : OpenClaim := { program := "ytknfpildkiekcaadoor", sum := "6621d0e87e0571a8a2f119c8d32725901e77139e0901fdafc8e0aa6e3f3c5c3f", func := "arras/arraslaw10.OpStyles", spec := "opStyles", named := ["arras/prop.rules"], apart := false, laid := [("arras/prop.rules", laid_arras_prop_rules)] }
def OpStylesSaid : Prop := opStylesRow.holds Tryd.pinned (OpenSpec.ofChange opStylesSpec)

/-- ITS FALSE NEIGHBOUR: 'it returns false'. Refute it at one input. -/
def opStylesWrong : ChangeSpec := { name := "opStyles", fn := fun _ => fun
  | [d] => { results := [.lit (.bool false)], args := [d] }
  | _ => none }
def OpStylesWrongFalsely : Prop := opStylesRow.holds Tryd.pinned (OpenSpec.ofChange opStylesWrong)

/- THE SECOND FORM. 'bulk': how many values and letters a reading holds, each counted each time it is reached (what is shared counts as often as it is met; a slice's spare places count too). A statement '..UptoSaid' is the law's where the arguments, and the package variables that the reading takes, are together of bulk at most 1048576: NARROWER than '..Said'. Prove '..Said' where nothing that the law and all that it calls make is longer than what came in: it says more and counts as full. Else prove '..UptoSaid'. A law counts once. -/
mutual
def uptoBulk {H : Type} : DataW H → Nat
  | .lit (.string bytes) => bytes.length + 1
  | .lit _ => 1
  | .nil => 1
  | .ptr d => uptoBulk d + 1
  | .slice elems spare => uptoBulkAll elems + uptoBulkAll spare + 1
  | .agg parts => uptoBulkAll parts + 1
  | .iface _ d => uptoBulk d + 1
  | .map entries => uptoBulkEntries entries + 1
  | .held _ => 1
def uptoBulkAll {H : Type} : List (DataW H) → Nat
  | [] => 0
  | d :: r => uptoBulk d + uptoBulkAll r
def uptoBulkEntries {H : Type} : List (Lit × DataW H) → Nat
  | [] => 0
  | x :: r => uptoBulkEntry x + uptoBulkEntries r
def uptoBulkEntry {H : Type} : Lit × DataW H → Nat
  | (.string bytes, d) => bytes.length + uptoBulk d + 1
  | (_, d) => uptoBulk d + 1
 end
def uptoSmall : (H : Type) → List (DataW H) → Bool := fun _ ds => decide (uptoBulkAll ds ≤ 1048576)
def OpenSpec.upto (s : _root_.Go.ChangeSpec) : _root_.Go.OpenSpec := { _root_.Go.OpenSpec.ofChange s with cond := some uptoSmall }

/-- 'arraslaw10.OpBytes', WHERE WHAT IT READS IS OF BULK AT MOST 1048576: true; the input reads as it did. -/
def opBytesUptoRow : OpenClaim := { program := "ytknfpildkiekcaadoor", sum := "6621d0e87e0571a8a2f119c8d32725901e77139e0901fdafc8e0aa6e3f3c5c3f", func := "arras/arraslaw10.OpBytes", spec := "opBytes", named := ["arras/prop.rules"], apart := false, laid := [("arras/prop.rules", laid_arras_prop_rules)], narrowed := true }
def OpBytesUptoSaid : Prop := opBytesUptoRow.holds Tryd.pinned (OpenSpec.upto opBytesSpec)

/-- 'arraslaw10.OpTakes', WHERE WHAT IT READS IS OF BULK AT MOST 1048576: true; the input reads as it did. -/
def opTakesUptoRow : OpenClaim := { program := "ytknfpildkiekcaadoor", sum := "6621d0e87e0571a8a2f119c8d32725901e77139e0901fdafc8e0aa6e3f3c5c3f", func := "arras/arraslaw10.OpTakes", spec := "opTakes", named := ["arras/prop.rules"], apart := false, laid := [("arras/prop.rules", laid_arras_prop_rules)], narrowed := true }
def OpTakesUptoSaid : Prop := opTakesUptoRow.holds Tryd.pinned (OpenSpec.upto opTakesSpec)

/-- 'arraslaw10.OpBack', WHERE WHAT IT READS IS OF BULK AT MOST 1048576: true; the input reads as it did. -/
def opBackUptoRow : OpenClaim := { program := "ytknfpildkiekcaadoor", sum := "6621d0e87e0571a8a2f119c8d32725901e77139e0901fdafc8e0aa6e3f3c5c3f", func := "arras/arraslaw10.OpBack", spec := "opBack", named := ["arras/prop.rules"], apart := false, laid := [("arras/prop.rules", laid_arras_prop_rules)], narrowed := true }
def OpBackUptoSaid : Prop := opBackUptoRow.holds Tryd.pinned (OpenSpec.upto opBackSpec)

/-- 'arraslaw10.OpOrders', WHERE WHAT IT READS IS OF BULK AT MOST 1048576: true; the input reads as it did. -/
def opOrdersUptoRow : OpenClaim := { program := "ytknfpildkiekcaadoor", sum := "6621d0e87e0571a8a2f119c8d32725901e77139e0901fdafc8e0aa6e3f3c5c3f", func := "arras/arraslaw10.OpOrders", spec := "opOrders", named := ["arras/prop.rules"], apart := false, laid := [("arras/prop.rules", laid_arras_prop_rules)], narrowed := true }
def OpOrdersUptoSaid : Prop := opOrdersUptoRow.holds Tryd.pinned (OpenSpec.upto opOrdersSpec)

/-- 'arraslaw10.OpWrongs', WHERE WHAT IT READS IS OF BULK AT MOST 1048576: true; the input reads as it did. -/
def opWrongsUptoRow : OpenClaim := { program := "ytknfpildkiekcaadoor", sum := "6621d0e87e0571a8a2f119c8d32725901e77139e0901fdafc8e0aa6e3f3c5c3f", func := "arras/arraslaw10.OpWrongs", spec := "opWrongs", named := ["arras/prop.rules"], apart := false, laid := [("arras/prop.rules", laid_arras_prop_rules)], narrowed := true }
def OpWrongsUptoSaid : Prop := opWrongsUptoRow.holds Tryd.pinned (OpenSpec.upto opWrongsSpec)

/-- 'arraslaw10.OpMoves', WHERE WHAT IT READS IS OF BULK AT MOST 1048576: true; the input reads as it did. -/
def opMovesUptoRow : OpenClaim := { program := "ytknfpildkiekcaadoor", sum := "6621d0e87e0571a8a2f119c8d32725901e77139e0901fdafc8e0aa6e3f3c5c3f", func := "arras/arraslaw10.OpMoves", spec := "opMoves", named := ["arras/prop.rules"], apart := false, laid := [("arras/prop.rules", laid_arras_prop_rules)], narrowed := true }
def OpMovesUptoSaid : Prop := opMovesUptoRow.holds Tryd.pinned (OpenSpec.upto opMovesSpec)

/-- 'arraslaw10.OpStyles', WHERE WHAT IT READS IS OF BULK AT MOST 1048576: true; the input reads as it did. -/
def opStylesUptoRow : OpenClaim := { program := "ytknfpildkiekcaadoor", sum := "6621d0e87e0571a8a2f119c8d32725901e77139e0901fdafc8e0aa6e3f3c5c3f", func := "arras/arraslaw10.OpStyles", spec := "opStyles", named := ["arras/prop.rules"], apart := false, laid := [("arras/prop.rules", laid_arras_prop_rules)], narrowed := true }
def OpStylesUptoSaid : Prop := opStylesUptoRow.holds Tryd.pinned (OpenSpec.upto opStylesSpec)

end Rows
end Go.Proofs.YtknfpildkiekcaaDoor
