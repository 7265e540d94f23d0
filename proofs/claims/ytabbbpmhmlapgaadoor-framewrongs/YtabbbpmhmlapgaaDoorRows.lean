/-
  NARROWER THAN 'FOR EVERY INPUT', by the rows' own cells (each row's printed sentence says how): OpWrongs: laid · FrameWrongs: laid.
  DERIVED. THE GIVEN ROWS OF THIS SEAT. 2 by the template 'for every input the law returns true; each argument reads behind the call as it read before'; 0 by the template 'total and deterministic' (their statements: YtabbbpmhmlapgaaDoorTotals.lean).
  GIVEN WITH THE SEED: the statements are not yours to turn. If you find one false, say at which input.
  Laid BY PROGRAM, IN A SANDBOX (cutbox-rows.mjs): the forced cells as the released guide's own fill.sh prints them over the translation d9a06419a83908ad… (all of the seat's roots in one cut). By AI agents, Wed Nov 11 2026. No macro, syntax, notation, axiom, sorry.
-/
import Derived.Test.YtabbbpmhmlapgaaDoorChecked
import GoSem.Claim
import GoSem.ClaimJoined
import GoSem.ClaimMapViews
import Derived.JoinedTies
import Derived.KernelRfl
namespace Go.Proofs.YtabbbpmhmlapgaaDoor
/- THE CELL 'sum', in the pinned program and in every row, IS THE sha256 OF THE DUMP (.gsa) THAT YtabbbpmhmlapgaaDoorProg.lean LOADS. Nothing in Lean hashes anything: it is a label: what it is worth is what the hold of that sum in a sandbox is worth. -/
noncomputable def Tryd.pinned : Pinned := { name := "ytabbbpmhmlapgaadoor", sum := "d9a06419a83908adde3c15f148a7353c610e9204647adc607bd01e999dc19e07", checked := Tryd.checked }
namespace Rows
def none {H : Type} : Left H := { results := [], args := [] }

/- WHAT THE LISTED PACKAGE-LEVEL VARIABLES READ AS WHEN THE CALL BEGINS. Each datum BY PROGRAM (the guide's laid-datum.mjs) off the statement by which the dump's own 'gosem.cut.vars' lays the variable. In a bare row this is a premise. The card (YtabbbpmhmlapgaaDoorCards.lean) ties it to the program's text. -/
def laid_arras_prop_rules {H : Type} : DataW H := .agg [.agg [.lit (.int .i64 0), .lit (.int .i64 2), .lit (.int .i64 0), .lit (.bool false)], .agg [.lit (.int .i64 0), .lit (.int .i64 1), .lit (.int .i64 0), .lit (.bool false)], .agg [.lit (.int .i64 0), .lit (.int .i64 1), .lit (.int .i64 0), .lit (.bool false)], .agg [.lit (.int .i64 (-1)), .lit (.int .i64 1099511627776), .lit (.int .i64 (-1)), .lit (.bool false)], .agg [.lit (.int .i64 (-1)), .lit (.int .i64 1099511627776), .lit (.int .i64 (-1)), .lit (.bool false)], .agg [.lit (.int .i64 0), .lit (.int .i64 1099511627776), .lit (.int .i64 0), .lit (.bool false)], .agg [.lit (.int .i64 (-1)), .lit (.int .i64 1099511627776), .lit (.int .i64 (-1)), .lit (.bool false)], .agg [.lit (.int .i64 0), .lit (.int .i64 1099511627776), .lit (.int .i64 0), .lit (.bool false)], .agg [.lit (.int .i64 (-1)), .lit (.int .i64 1099511627776), .lit (.int .i64 (-1)), .lit (.bool false)], .agg [.lit (.int .i64 0), .lit (.int .i64 1048576), .lit (.int .i64 0), .lit (.bool false)], .agg [.lit (.int .i64 0), .lit (.int .i64 1048576), .lit (.int .i64 1), .lit (.bool false)], .agg [.lit (.int .i64 (-1)), .lit (.int .i64 1099511627776), .lit (.int .i64 (-1)), .lit (.bool false)], .agg [.lit (.int .i64 0), .lit (.int .i64 1073741824), .lit (.int .i64 0), .lit (.bool false)], .agg [.lit (.int .i64 0), .lit (.int .i64 1073741824), .lit (.int .i64 0), .lit (.bool false)], .agg [.lit (.int .i64 0), .lit (.int .i64 1073741824), .lit (.int .i64 0), .lit (.bool false)], .agg [.lit (.int .i64 0), .lit (.int .i64 4), .lit (.int .i64 0), .lit (.bool false)], .agg [.lit (.int .i64 0), .lit (.int .i64 3), .lit (.int .i64 0), .lit (.bool false)], .agg [.lit (.int .i64 0), .lit (.int .i64 16777215), .lit (.int .i64 0), .lit (.bool true)], .agg [.lit (.int .i64 64), .lit (.int .i64 64000), .lit (.int .i64 1024), .lit (.bool true)]]

/-- 'arraslaw10.OpWrongs': WHATEVER THE INPUT: true; the input reads as it did. -/
def opWrongsSpec : ChangeSpec := { name := "opWrongs", fn := fun _ => fun
  | [d] => { results := [.lit (.bool true)], args := [d] }
  | _ => none }
def opWrongsRow : OpenClaim := { program := "ytabbbpmhmlapgaadoor", sum := "d9a06419a83908adde3c15f148a7353c610e9204647adc607bd01e999dc19e07", func := "arras/arraslaw10.OpWrongs", spec := "opWrongs", named := ["arras/prop.rules"], apart := false, laid := [("arras/prop.rules", laid_arras_prop_rules)] }
def OpWrongsSaid : Prop := opWrongsRow.holds Tryd.pinned (OpenSpec.ofChange opWrongsSpec)

/-- ITS FALSE NEIGHBOUR: 'it returns false'. Refute it at one input. -/
def opWrongsWrong : ChangeSpec := { name := "opWrongs", fn := fun _ => fun
  | [d] => { results := [.lit (.bool false)], args := [d] }
  | _ => none }
def OpWrongsWrongFalsely : Prop := opWrongsRow.holds Tryd.pinned (OpenSpec.ofChange opWrongsWrong)

/-- 'arraslaw11.FrameWrongs': WHATEVER THE INPUT: true; the input reads as it did. -/
def frameWrongsSpec : ChangeSpec := { name := "frameWrongs", fn := fun _ => fun
  | [d] => { results := [.lit (.bool true)], args := [d] }
  | _ => none }
def frameWrongsRow : OpenClaim := { program := "ytabbbpmhmlapgaadoor", sum := "d9a06419a83908adde3c15f148a7353c610e9204647adc607bd01e999dc19e07", func := "arras/arraslaw11.FrameWrongs", spec := "frameWrongs", named := ["arras/prop.rules"], apart := false, laid := [("arras/prop.rules", laid_arras_prop_rules)] }
def FrameWrongsSaid : Prop := frameWrongsRow.holds Tryd.pinned (OpenSpec.ofChange frameWrongsSpec)

/-- ITS FALSE NEIGHBOUR: 'it returns false'. Refute it at one input. -/
def frameWrongsWrong : ChangeSpec := { name := "frameWrongs", fn := fun _ => fun
  | [d] => { results := [.lit (.bool false)], args := [d] }
  | _ => none }
def FrameWrongsWrongFalsely : Prop := frameWrongsRow.holds Tryd.pinned (OpenSpec.ofChange frameWrongsWrong)

/- THE SECOND FORM. 'bulk': how many values and letters a reading holds, each counted each time it is reached (what is shared counts as often as it is met; a slice's spare places count too). A statement '..UptoSaid' is the law's where the arguments, and the package variables that the reading takes, are together of bulk at most 1048576: NARROWER than '..Said'. Prove '..Said' where nothing that the law and all that it calls make is longer than what came in: it says more and counts as full. Else prove '..UptoSaid'. A law counts once. -/
mutual
def uptoBulk {H : Type} : DataW H → Nat
  | .lit (.string bytes) => bytes.length + 1
  | .lit _ => 1
  | .nil => 1
  | .ptr d => uptoBulk d + 1
  | .slice elems spare => uptoBulkAll elems + uptoBulkAll spare + 1
  | .agg parts => uptoBulkAll parts + 1
  | .iface _ d => uptoBulk d + 1
  | .map entries => uptoBulkEntries entries + 1
  | .held _ => 1
def uptoBulkAll {H : Type} : List (DataW H) → Nat
  | [] => 0
  | d :: r => uptoBulk d + uptoBulkAll r
def uptoBulkEntries {H : Type} : List (Lit × DataW H) → Nat
  | [] => 0
  | x :: r => uptoBulkEntry x + uptoBulkEntries r
def uptoBulkEntry {H : Type} : Lit × DataW H → Nat
  | (.string bytes, d) => bytes.length + uptoBulk d + 1
  | (_, d) => uptoBulk d + 1
 end
def uptoSmall : (H : Type) → List (DataW H) → Bool := fun _ ds => decide (uptoBulkAll ds ≤ 1048576)
def OpenSpec.upto (s : _root_.Go.ChangeSpec) : _root_.Go.OpenSpec := { _root_.Go.OpenSpec.ofChange s with cond := some uptoSmall }

/-- 'arraslaw10.OpWrongs', WHERE WHAT IT READS IS OF BULK AT MOST 1048576: true; the input reads as it did. -/
def opWrongsUptoRow : OpenClaim := { program := "ytabbbpmhmlapgaadoor", sum := "d9a06419a83908adde3c15f148a7353c610e9204647adc607bd01e999dc19e07", func := "arras/arraslaw10.OpWrongs", spec := "opWrongs", named := ["arras/prop.rules"], apart := false, laid := [("arras/prop.rules", laid_arras_prop_rules)], narrowed := true }
def OpWrongsUptoSaid : Prop := opWrongsUptoRow.holds Tryd.pinned (OpenSpec.upto opWrongsSpec)

/-- 'arraslaw11.FrameWrongs', WHERE WHAT IT READS IS OF BULK AT MOST 1048576: true; the input reads as it did. -/
def frameWrongsUptoRow : OpenClaim := { program := "ytabbbpmhmlapgaadoor", sum := "d9a06419a83908adde3c15f148a7353c610e9204647adc607bd01e999dc19e07", func := "arras/arraslaw11.FrameWrongs", spec := "frameWrongs", named := ["arras/prop.rules"], apart := false, laid := [("arras/prop.rules", laid_arras_prop_rules)], narrowed := true }
def FrameWrongsUptoSaid : Prop := frameWrongsUptoRow.holds Tryd.pinned (OpenSpec.upto frameWrongsSpec)

end Rows
end Go.Proofs.YtabbbpmhmlapgaaDoor
