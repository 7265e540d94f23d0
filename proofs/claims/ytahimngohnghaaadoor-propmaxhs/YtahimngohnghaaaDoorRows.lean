/-
  NARROWER THAN 'FOR EVERY INPUT', by the rows' own cells (each row's printed sentence says how): PropChecks: laid · PropStyles: laid · PropEdges: laid · PropDisplays: laid · PropDirects: laid · PropWraps: laid · PropWidths: laid · PropHeights: laid · PropMinWs: laid · PropMaxWs: laid · PropMinHs: laid · PropMaxHs: laid.
  DERIVED. THE GIVEN ROWS OF THIS SEAT. 12 by the template 'for every input the law returns true; each argument reads behind the call as it read before'; 0 by the template 'total and deterministic' (their statements: YtahimngohnghaaaDoorTotals.lean).
  GIVEN WITH THE SEED: the statements are not yours to turn. If you find one false, say at which input.
  Laid BY PROGRAM, IN A SANDBOX (cutbox-rows.mjs): the forced cells as the released guide's own fill.sh prints them over the translation 23bb9fae11e5839c… (all of the seat's roots in one cut). By AI agents, Wed Nov 11 2026. No macro, syntax, notation, axiom, sorry.
-/
import Derived.Test.YtahimngohnghaaaDoorChecked
import GoSem.Claim
import GoSem.ClaimJoined
import GoSem.ClaimMapViews
import Derived.JoinedTies
import Derived.KernelRfl
namespace Go.Proofs.YtahimngohnghaaaDoor
/- THE CELL 'sum', in the pinned program and in every row, IS THE sha256 OF THE DUMP (.gsa) THAT YtahimngohnghaaaDoorProg.lean LOADS. Nothing in Lean hashes anything: it is a label: what it is worth is what the hold of that sum in a sandbox is worth. -/
noncomputable def Tryd.pinned : Pinned := { name := "ytahimngohnghaaadoor", sum := "23bb9fae11e5839c230b8512606136edc9ee3aeac34f0d1ffd6c79db0522d202", checked := Tryd.checked }
namespace Rows
def none {H : Type} : Left H := { results := [], args := [] }

/- WHAT THE LISTED PACKAGE-LEVEL VARIABLES READ AS WHEN THE CALL BEGINS. Each datum BY PROGRAM (the guide's laid-datum.mjs) off the statement by which the dump's own 'gosem.cut.vars' lays the variable. In a bare row this is a premise. The card (YtahimngohnghaaaDoorCards.lean) ties it to the program's text. -/
def laid_arras_prop_rules {H : Type} : DataW H := .agg [.agg [.lit (.int .i64 0), .lit (.int .i64 2), .lit (.int .i64 0), .lit (.bool false)], .agg [.lit (.int .i64 0), .lit (.int .i64 1), .lit (.int .i64 0), .lit (.bool false)], .agg [.lit (.int .i64 0), .lit (.int .i64 1), .lit (.int .i64 0), .lit (.bool false)], .agg [.lit (.int .i64 (-1)), .lit (.int .i64 1099511627776), .lit (.int .i64 (-1)), .lit (.bool false)], .agg [.lit (.int .i64 (-1)), .lit (.int .i64 1099511627776), .lit (.int .i64 (-1)), .lit (.bool false)], .agg [.lit (.int .i64 0), .lit (.int .i64 1099511627776), .lit (.int .i64 0), .lit (.bool false)], .agg [.lit (.int .i64 (-1)), .lit (.int .i64 1099511627776), .lit (.int .i64 (-1)), .lit (.bool false)], .agg [.lit (.int .i64 0), .lit (.int .i64 1099511627776), .lit (.int .i64 0), .lit (.bool false)], .agg [.lit (.int .i64 (-1)), .lit (.int .i64 1099511627776), .lit (.int .i64 (-1)), .lit (.bool false)], .agg [.lit (.int .i64 0), .lit (.int .i64 1048576), .lit (.int .i64 0), .lit (.bool false)], .agg [.lit (.int .i64 0), .lit (.int .i64 1048576), .lit (.int .i64 1), .lit (.bool false)], .agg [.lit (.int .i64 (-1)), .lit (.int .i64 1099511627776), .lit (.int .i64 (-1)), .lit (.bool false)], .agg [.lit (.int .i64 0), .lit (.int .i64 1073741824), .lit (.int .i64 0), .lit (.bool false)], .agg [.lit (.int .i64 0), .lit (.int .i64 1073741824), .lit (.int .i64 0), .lit (.bool false)], .agg [.lit (.int .i64 0), .lit (.int .i64 1073741824), .lit (.int .i64 0), .lit (.bool false)], .agg [.lit (.int .i64 0), .lit (.int .i64 4), .lit (.int .i64 0), .lit (.bool false)], .agg [.lit (.int .i64 0), .lit (.int .i64 3), .lit (.int .i64 0), .lit (.bool false)], .agg [.lit (.int .i64 0), .lit (.int .i64 16777215), .lit (.int .i64 0), .lit (.bool true)], .agg [.lit (.int .i64 64), .lit (.int .i64 64000), .lit (.int .i64 1024), .lit (.bool true)]]

/-- 'arraslaw9.PropChecks': WHATEVER THE INPUT: true; the input reads as it did. -/
def propChecksSpec : ChangeSpec := { name := "propChecks", fn := fun _ => fun
  | [d] => { results := [.lit (.bool true)], args := [d] }
  | _ => none }
def propChecksRow : OpenClaim := { program := "ytahimngohnghaaadoor", sum := "23bb9fae11e5839c230b8512606136edc9ee3aeac34f0d1ffd6c79db0522d202", func := "arras/arraslaw9.PropChecks", spec := "propChecks", named := ["arras/prop.rules"], apart := false, laid := [("arras/prop.rules", laid_arras_prop_rules)] }
def PropChecksSaid : Prop := propChecksRow.holds Tryd.pinned (OpenSpec.ofChange propChecksSpec)

/-- ITS FALSE NEIGHBOUR: 'it returns false'. Refute it at one input. -/
def propChecksWrong : ChangeSpec := { name := "propChecks", fn := fun _ => fun
  | [d] => { results := [.lit (.bool false)], args := [d] }
  | _ => none }
def PropChecksWrongFalsely : Prop := propChecksRow.holds Tryd.pinned (OpenSpec.ofChange propChecksWrong)

/-- 'arraslaw9.PropStyles': WHATEVER THE INPUT: true; the input reads as it did. -/
def propStylesSpec : ChangeSpec := { name := "propStyles", fn := fun _ => fun
  | [d] => { results := [.lit (.bool true)], args := [d] }
  | _ => none }
def propStylesRow : OpenClaim := { program := "ytahimngohnghaaadoor", sum := "23bb9fae11e5839c230b8512606136edc9ee3aeac34f0d1ffd6c79db0522d202", func := "arras/arraslaw9.PropStyles", spec := "propStyles", named := ["arras/prop.rules"], apart := false, laid := [("arras/prop.rules", laid_arras_prop_rules)] }
def PropStylesSaid : Prop := propStylesRow.holds Tryd.pinned (OpenSpec.ofChange propStylesSpec)

/-- ITS FALSE NEIGHBOUR: 'it returns false'. Refute it at one input. -/
def propStylesWrong : ChangeSpec := { name := "propStyles", fn := fun _ => fun
  | [d] => { results := [.lit (.bool false)], args := [d] }
  | _ => none }
def PropStylesWrongFalsely : Prop := propStylesRow.holds Tryd.pinned (OpenSpec.ofChange propStylesWrong)

/-- 'arraslaw9.PropEdges': WHATEVER THE INPUT: true; the input reads as it did. -/
def propEdgesSpec : ChangeSpec := { name := "propEdges", fn := fun _ => fun
  | [d] => { results := [.lit (.bool true)], args := [d] }
  | _ => none }
def propEdgesRow : OpenClaim := { program := "ytahimngohnghaaadoor", sum := "23bb9fae11e5839c230b8512606136edc9ee3aeac34f0d1ffd6c79db0522d202", func := "arras/arraslaw9.PropEdges", spec := "propEdges", named := ["arras/prop.rules"], apart := false, laid := [("arras/prop.rules", laid_arras_prop_rules)] }
def PropEdgesSaid : Prop := propEdgesRow.holds Tryd.pinned (OpenSpec.ofChange propEdgesSpec)

/-- ITS FALSE NEIGHBOUR: 'it returns false'. Refute it at one input. -/
def propEdgesWrong : ChangeSpec := { name := "propEdges", fn := fun _ => fun
  | [d] => { results := [.lit (.bool false)], args := [d] }
  | _ => none }
def PropEdgesWrongFalsely : Prop := propEdgesRow.holds Tryd.pinned (OpenSpec.ofChange propEdgesWrong)

/-- 'arraslaw9.PropDisplays': WHATEVER THE INPUT: true; the input reads as it did. -/
def propDisplaysSpec : ChangeSpec := { name := "propDisplays", fn := fun _ => fun
  | [d] => { results := [.lit (.bool true)], args := [d] }
  | _ => none }
def propDisplaysRow : OpenClaim := { program := "ytahimngohnghaaadoor", sum := "23bb9fae11e5839c230b8512606136edc9ee3aeac34f0d1ffd6c79db0522d202", func := "arras/arraslaw9.PropDisplays", spec := "propDisplays", named := ["arras/prop.rules"], apart := false, laid := [("arras/prop.rules", laid_arras_prop_rules)] }
def PropDisplaysSaid : Prop := propDisplaysRow.holds Tryd.pinned (OpenSpec.ofChange propDisplaysSpec)

/-- ITS FALSE NEIGHBOUR: 'it returns false'. Refute it at one input. -/
def propDisplaysWrong : ChangeSpec := { name := "propDisplays", fn := fun _ => fun
  | [d] => { results := [.lit (.bool false)], args := [d] }
  | _ => none }
def PropDisplaysWrongFalsely : Prop := propDisplaysRow.holds Tryd.pinned (OpenSpec.ofChange propDisplaysWrong)

/-- 'arraslaw9.PropDirects': WHATEVER THE INPUT: true; the input reads as it did. -/
def propDirectsSpec : ChangeSpec := { name := "propDirects", fn := fun _ => fun
  | [d] => { results := [.lit (.bool true)], args := [d] }
  | _ => none }
def propDirectsRow : OpenClaim := { program := "ytahimngohnghaaadoor", sum := "23bb9fae11e5839c230b8512606136edc9ee3aeac34f0d1ffd6c79db0522d202", func := "arras/arraslaw9.PropDirects", spec := "propDirects", named := ["arras/prop.rules"], apart := false, laid := [("arras/prop.rules", laid_arras_prop_rules)] }
def PropDirectsSaid : Prop := propDirectsRow.holds Tryd.pinned (OpenSpec.ofChange propDirectsSpec)

/-- ITS FALSE NEIGHBOUR: 'it returns false'. Refute it at one input. -/
def propDirectsWrong : ChangeSpec := { name := "propDirects", fn := fun _ => fun
  | [d] => { results := [.lit (.bool false)], args := [d] }
  | _ => none }
def PropDirectsWrongFalsely : Prop := propDirectsRow.holds Tryd.pinned (OpenSpec.ofChange propDirectsWrong)

/-- 'arraslaw9.PropWraps': WHATEVER THE INPUT: true; the input reads as it did. -/
def propWrapsSpec : ChangeSpec := { name := "propWraps", fn := fun _ => fun
  | [d] => { results := [.lit (.bool true)], args := [d] }
  | _ => none }
def propWrapsRow : OpenClaim := { program := "ytahimngohnghaaadoor", sum := "23bb9fae11e5839c230b8512606136edc9ee3aeac34f0d1ffd6c79db0522d202", func := "arras/arraslaw9.PropWraps", spec := "propWraps", named := ["arras/prop.rules"], apart := false, laid := [("arras/prop.rules", laid_arras_prop_rules)] }
def PropWrapsSaid : Prop := propWrapsRow.holds Tryd.pinned (OpenSpec.ofChange propWrapsSpec)

/-- ITS FALSE NEIGHBOUR: 'it returns false'. Refute it at one input. -/
def propWrapsWrong : ChangeSpec := { name := "propWraps", fn := fun _ => fun
  | [d] => { results := [.lit (.bool false)], args := [d] }
  | _ => none }
def PropWrapsWrongFalsely : Prop := propWrapsRow.holds Tryd.pinned (OpenSpec.ofChange propWrapsWrong)

/-- 'arraslaw9.PropWidths': WHATEVER THE INPUT: true; the input reads as it did. -/
def propWidthsSpec : ChangeSpec := { name := "propWidths", fn := fun _ => fun
  | [d] => { results := [.lit (.bool true)], args := [d] }
  | _ => none }
def propWidthsRow : OpenClaim := { program := "ytahimngohnghaaadoor", sum := "23bb9fae11e5839c230b8512606136edc9ee3aeac34f0d1ffd6c79db0522d202", func := "arras/arraslaw9.PropWidths", spec := "propWidths", named := ["arras/prop.rules"], apart := false, laid := [("arras/prop.rules", laid_arras_prop_rules)] }
def PropWidthsSaid : Prop := propWidthsRow.holds Tryd.pinned (OpenSpec.ofChange propWidthsSpec)

/-- ITS FALSE NEIGHBOUR: 'it returns false'. Refute it at one input. -/
def propWidthsWrong : ChangeSpec := { name := "propWidths", fn := fun _ => fun
  | [d] => { results := [.lit (.bool false)], args := [d] }
  | _ => none }
def PropWidthsWrongFalsely : Prop := propWidthsRow.holds Tryd.pinned (OpenSpec.ofChange propWidthsWrong)

/-- 'arraslaw9.PropHeights': WHATEVER THE INPUT: true; the input reads as it did. -/
def propHeightsSpec : ChangeSpec := { name := "propHeights", fn := fun _ => fun
  | [d] => { results := [.lit (.bool true)], args := [d] }
  | _ => none }
def propHeightsRow : OpenClaim := { program := "ytahimngohnghaaadoor", sum := "23bb9fae11e5839c230b8512606136edc9ee3aeac34f0d1ffd6c79db0522d202", func := "arras/arraslaw9.PropHeights", spec := "propHeights", named := ["arras/prop.rules"], apart := false, laid := [("arras/prop.rules", laid_arras_prop_rules)] }
def PropHeightsSaid : Prop := propHeightsRow.holds Tryd.pinned (OpenSpec.ofChange propHeightsSpec)

/-- ITS FALSE NEIGHBOUR: 'it returns false'. Refute it at one input. -/
def propHeightsWrong : ChangeSpec := { name := "propHeights", fn := fun _ => fun
  | [d] => { results := [.lit (.bool false)], args := [d] }
  | _ => none }
def PropHeightsWrongFalsely : Prop := propHeightsRow.holds Tryd.pinned (OpenSpec.ofChange propHeightsWrong)

/-- 'arraslaw9.PropMinWs': WHATEVER THE INPUT: true; the input reads as it did. -/
def propMinWsSpec : ChangeSpec := { name := "propMinWs", fn := fun _ => fun
  | [d] => { results := [.lit (.bool true)], args := [d] }
  | _ => none }
def propMinWsRow : OpenClaim := { program := "ytahimngohnghaaadoor", sum := "23bb9fae11e5839c230b8512606136edc9ee3aeac34f0d1ffd6c79db0522d202", func := "arras/arraslaw9.PropMinWs", spec := "propMinWs", named := ["arras/prop.rules"], apart := false, laid := [("arras/prop.rules", laid_arras_prop_rules)] }
def PropMinWsSaid : Prop := propMinWsRow.holds Tryd.pinned (OpenSpec.ofChange propMinWsSpec)

/-- ITS FALSE NEIGHBOUR: 'it returns false'. Refute it at one input. -/
def propMinWsWrong : ChangeSpec := { name := "propMinWs", fn := fun _ => fun
  | [d] => { results := [.lit (.bool false)], args := [d] }
  | _ => none }
def PropMinWsWrongFalsely : Prop := propMinWsRow.holds Tryd.pinned (OpenSpec.ofChange propMinWsWrong)

/-- 'arraslaw9.PropMaxWs': WHATEVER THE INPUT: true; the input reads as it did. -/
def propMaxWsSpec : ChangeSpec := { name := "propMaxWs", fn := fun _ => fun
  | [d] => { results := [.lit (.bool true)], args := [d] }
  | _ => none }
def propMaxWsRow : OpenClaim := { program := "ytahimngohnghaaadoor", sum := "23bb9fae11e5839c230b8512606136edc9ee3aeac34f0d1ffd6c79db0522d202", func := "arras/arraslaw9.PropMaxWs", spec := "propMaxWs", named := ["arras/prop.rules"], apart := false, laid := [("arras/prop.rules", laid_arras_prop_rules)] }
def PropMaxWsSaid : Prop := propMaxWsRow.holds Tryd.pinned (OpenSpec.ofChange propMaxWsSpec)

/-- ITS FALSE NEIGHBOUR: 'it returns false'. Refute it at one input. -/
def propMaxWsWrong : ChangeSpec := { name := "propMaxWs", fn := fun _ => fun
  | [d] => { results := [.lit (.bool false)], args := [d] }
  | _ => none }
def PropMaxWsWrongFalsely : Prop := propMaxWsRow.holds Tryd.pinned (OpenSpec.ofChange propMaxWsWrong)

/-- 'arraslaw9.PropMinHs': WHATEVER THE INPUT: true; the input reads as it did. -/
def propMinHsSpec : ChangeSpec := { name := "propMinHs", fn := fun _ => fun
  | [d] => { results := [.lit (.bool true)], args := [d] }
  | _ => none }
def propMinHsRow : OpenClaim := { program := "ytahimngohnghaaadoor", sum := "23bb9fae11e5839c230b8512606136edc9ee3aeac34f0d1ffd6c79db0522d202", func := "arras/arraslaw9.PropMinHs", spec := "propMinHs", named := ["arras/prop.rules"], apart := false, laid := [("arras/prop.rules", laid_arras_prop_rules)] }
def PropMinHsSaid : Prop := propMinHsRow.holds Tryd.pinned (OpenSpec.ofChange propMinHsSpec)

/-- ITS FALSE NEIGHBOUR: 'it returns false'. Refute it at one input. -/
def propMinHsWrong : ChangeSpec := { name := "propMinHs", fn := fun _ => fun
  | [d] => { results := [.lit (.bool false)], args := [d] }
  | _ => none }
def PropMinHsWrongFalsely : Prop := propMinHsRow.holds Tryd.pinned (OpenSpec.ofChange propMinHsWrong)

/-- 'arraslaw9.PropMaxHs': WHATEVER THE INPUT: true; the input reads as it did. -/
def propMaxHsSpec : ChangeSpec := { name := "propMaxHs", fn := fun _ => fun
  | [d] => { results := [.lit (.bool true)], args := [d] }
  | _ => none }
def propMaxHsRow : OpenClaim := { program := "ytahimngohnghaaadoor", sum := "23bb9fae11e5839c230b8512606136edc9ee3aeac34f0d1ffd6c79db0522d202", func := "arras/arraslaw9.PropMaxHs", spec := "propMaxHs", named := ["arras/prop.rules"], apart := false, laid := [("arras/prop.rules", laid_arras_prop_rules)] }
def PropMaxHsSaid : Prop := propMaxHsRow.holds Tryd.pinned (OpenSpec.ofChange propMaxHsSpec)

/-- ITS FALSE NEIGHBOUR: 'it returns false'. Refute it at one input. -/
def propMaxHsWrong : ChangeSpec := { name := "propMaxHs", fn := fun _ => fun
  | [d] => { results := [.lit (.bool false)], args := [d] }
  | _ => none }
def PropMaxHsWrongFalsely : Prop := propMaxHsRow.holds Tryd.pinned (OpenSpec.ofChange propMaxHsWrong)

/- THE SECOND FORM. 'bulk': how many values and letters a reading holds, each counted each time it is reached (what is shared counts as often as it is met; a slice's spare places count too). A statement '..UptoSaid' is the law's where the arguments, and the package variables that the reading takes, are together of bulk at most 1048576: NARROWER than '..Said'. Prove '..Said' where nothing that the law and all that it calls make is longer than what came in: it says more and counts as full. Else prove '..UptoSaid'. A law counts once. -/
mutual
def uptoBulk {H : Type} : DataW H → Nat
  | .lit (.string bytes) => bytes.length + 1
  | .lit _ => 1
  | .nil => 1
  | .ptr d => uptoBulk d + 1
  | .slice elems spare => uptoBulkAll elems + uptoBulkAll spare + 1
  | .agg parts => uptoBulkAll parts + 1
  | .iface _ d => uptoBulk d + 1
  | .map entries => uptoBulkEntries entries + 1
  | .held _ => 1
def uptoBulkAll {H : Type} : List (DataW H) → Nat
  | [] => 0
  | d :: r => uptoBulk d + uptoBulkAll r
def uptoBulkEntries {H : Type} : List (Lit × DataW H) → Nat
  | [] => 0
  | x :: r => uptoBulkEntry x + uptoBulkEntries r
def uptoBulkEntry {H : Type} : Lit × DataW H → Nat
  | (.string bytes, d) => bytes.length + uptoBulk d + 1
  | (_, d) => uptoBulk d + 1
 end
def uptoSmall : (H : Type) → List (DataW H) → Bool := fun _ ds => decide (uptoBulkAll ds ≤ 1048576)
def OpenSpec.upto (s : _root_.Go.ChangeSpec) : _root_.Go.OpenSpec := { _root_.Go.OpenSpec.ofChange s with cond := some uptoSmall }

/-- 'arraslaw9.PropChecks', WHERE WHAT IT READS IS OF BULK AT MOST 1048576: true; the input reads as it did. -/
def propChecksUptoRow : OpenClaim := { program := "ytahimngohnghaaadoor", sum := "23bb9fae11e5839c230b8512606136edc9ee3aeac34f0d1ffd6c79db0522d202", func := "arras/arraslaw9.PropChecks", spec := "propChecks", named := ["arras/prop.rules"], apart := false, laid := [("arras/prop.rules", laid_arras_prop_rules)], narrowed := true }
def PropChecksUptoSaid : Prop := propChecksUptoRow.holds Tryd.pinned (OpenSpec.upto propChecksSpec)

/-- 'arraslaw9.PropStyles', WHERE WHAT IT READS IS OF BULK AT MOST 1048576: true; the input reads as it did. -/
def propStylesUptoRow : OpenClaim := { program := "ytahimngohnghaaadoor", sum := "23bb9fae11e5839c230b8512606136edc9ee3aeac34f0d1ffd6c79db0522d202", func := "arras/arraslaw9.PropStyles", spec := "propStyles", named := ["arras/prop.rules"], apart := false, laid := [("arras/prop.rules", laid_arras_prop_rules)], narrowed := true }
def PropStylesUptoSaid : Prop := propStylesUptoRow.holds Tryd.pinned (OpenSpec.upto propStylesSpec)

/-- 'arraslaw9.PropEdges', WHERE WHAT IT READS IS OF BULK AT MOST 1048576: true; the input reads as it did. -/
def propEdgesUptoRow : OpenClaim := { program := "ytahimngohnghaaadoor", sum := "23bb9fae11e5839c230b8512606136edc9ee3aeac34f0d1ffd6c79db0522d202", func := "arras/arraslaw9.PropEdges", spec := "propEdges", named := ["arras/prop.rules"], apart := false, laid := [("arras/prop.rules", laid_arras_prop_rules)], narrowed := true }
def PropEdgesUptoSaid : Prop := propEdgesUptoRow.holds Tryd.pinned (OpenSpec.upto propEdgesSpec)

/-- 'arraslaw9.PropDisplays', WHERE WHAT IT READS IS OF BULK AT MOST 1048576: true; the input reads as it did. -/
def propDisplaysUptoRow : OpenClaim := { program := "ytahimngohnghaaadoor", sum := "23bb9fae11e5839c230b8512606136edc9ee3aeac34f0d1ffd6c79db0522d202", func := "arras/arraslaw9.PropDisplays", spec := "propDisplays", named := ["arras/prop.rules"], apart := false, laid := [("arras/prop.rules", laid_arras_prop_rules)], narrowed := true }
def PropDisplaysUptoSaid : Prop := propDisplaysUptoRow.holds Tryd.pinned (OpenSpec.upto propDisplaysSpec)

/-- 'arraslaw9.PropDirects', WHERE WHAT IT READS IS OF BULK AT MOST 1048576: true; the input reads as it did. -/
def propDirectsUptoRow : OpenClaim := { program := "ytahimngohnghaaadoor", sum := "23bb9fae11e5839c230b8512606136edc9ee3aeac34f0d1ffd6c79db0522d202", func := "arras/arraslaw9.PropDirects", spec := "propDirects", named := ["arras/prop.rules"], apart := false, laid := [("arras/prop.rules", laid_arras_prop_rules)], narrowed := true }
def PropDirectsUptoSaid : Prop := propDirectsUptoRow.holds Tryd.pinned (OpenSpec.upto propDirectsSpec)

/-- 'arraslaw9.PropWraps', WHERE WHAT IT READS IS OF BULK AT MOST 1048576: true; the input reads as it did. -/
def propWrapsUptoRow : OpenClaim := { program := "ytahimngohnghaaadoor", sum := "23bb9fae11e5839c230b8512606136edc9ee3aeac34f0d1ffd6c79db0522d202", func := "arras/arraslaw9.PropWraps", spec := "propWraps", named := ["arras/prop.rules"], apart := false, laid := [("arras/prop.rules", laid_arras_prop_rules)], narrowed := true }
def PropWrapsUptoSaid : Prop := propWrapsUptoRow.holds Tryd.pinned (OpenSpec.upto propWrapsSpec)

/-- 'arraslaw9.PropWidths', WHERE WHAT IT READS IS OF BULK AT MOST 1048576: true; the input reads as it did. -/
def propWidthsUptoRow : OpenClaim := { program := "ytahimngohnghaaadoor", sum := "23bb9fae11e5839c230b8512606136edc9ee3aeac34f0d1ffd6c79db0522d202", func := "arras/arraslaw9.PropWidths", spec := "propWidths", named := ["arras/prop.rules"], apart := false, laid := [("arras/prop.rules", laid_arras_prop_rules)], narrowed := true }
def PropWidthsUptoSaid : Prop := propWidthsUptoRow.holds Tryd.pinned (OpenSpec.upto propWidthsSpec)

/-- 'arraslaw9.PropHeights', WHERE WHAT IT READS IS OF BULK AT MOST 1048576: true; the input reads as it did. -/
def propHeightsUptoRow : OpenClaim := { program := "ytahimngohnghaaadoor", sum := "23bb9fae11e5839c230b8512606136edc9ee3aeac34f0d1ffd6c79db0522d202", func := "arras/arraslaw9.PropHeights", spec := "propHeights", named := ["arras/prop.rules"], apart := false, laid := [("arras/prop.rules", laid_arras_prop_rules)], narrowed := true }
def PropHeightsUptoSaid : Prop := propHeightsUptoRow.holds Tryd.pinned (OpenSpec.upto propHeightsSpec)

/-- 'arraslaw9.PropMinWs', WHERE WHAT IT READS IS OF BULK AT MOST 1048576: true; the input reads as it did. -/
def propMinWsUptoRow : OpenClaim := { program := "ytahimngohnghaaadoor", sum := "23bb9fae11e5839c230b8512606136edc9ee3aeac34f0d1ffd6c79db0522d202", func := "arras/arraslaw9.PropMinWs", spec := "propMinWs", named := ["arras/prop.rules"], apart := false, laid := [("arras/prop.rules", laid_arras_prop_rules)], narrowed := true }
def PropMinWsUptoSaid : Prop := propMinWsUptoRow.holds Tryd.pinned (OpenSpec.upto propMinWsSpec)

/-- 'arraslaw9.PropMaxWs', WHERE WHAT IT READS IS OF BULK AT MOST 1048576: true; the input reads as it did. -/
def propMaxWsUptoRow : OpenClaim := { program := "ytahimngohnghaaadoor", sum := "23bb9fae11e5839c230b8512606136edc9ee3aeac34f0d1ffd6c79db0522d202", func := "arras/arraslaw9.PropMaxWs", spec := "propMaxWs", named := ["arras/prop.rules"], apart := false, laid := [("arras/prop.rules", laid_arras_prop_rules)], narrowed := true }
def PropMaxWsUptoSaid : Prop := propMaxWsUptoRow.holds Tryd.pinned (OpenSpec.upto propMaxWsSpec)

/-- 'arraslaw9.PropMinHs', WHERE WHAT IT READS IS OF BULK AT MOST 1048576: true; the input reads as it did. -/
def propMinHsUptoRow : OpenClaim := { program := "ytahimngohnghaaadoor", sum := "23bb9fae11e5839c230b8512606136edc9ee3aeac34f0d1ffd6c79db0522d202", func := "arras/arraslaw9.PropMinHs", spec := "propMinHs", named := ["arras/prop.rules"], apart := false, laid := [("arras/prop.rules", laid_arras_prop_rules)], narrowed := true }
def PropMinHsUptoSaid : Prop := propMinHsUptoRow.holds Tryd.pinned (OpenSpec.upto propMinHsSpec)

/-- 'arraslaw9.PropMaxHs', WHERE WHAT IT READS IS OF BULK AT MOST 1048576: true; the input reads as it did. -/
def propMaxHsUptoRow : OpenClaim := { program := "ytahimngohnghaaadoor", sum := "23bb9fae11e5839c230b8512606136edc9ee3aeac34f0d1ffd6c79db0522d202", func := "arras/arraslaw9.PropMaxHs", spec := "propMaxHs", named := ["arras/prop.rules"], apart := false, laid := [("arras/prop.rules", laid_arras_prop_rules)], narrowed := true }
def PropMaxHsUptoSaid : Prop := propMaxHsUptoRow.holds Tryd.pinned (OpenSpec.upto propMaxHsSpec)

end Rows
end Go.Proofs.YtahimngohnghaaaDoor
