/-
  NARROWER THAN 'FOR EVERY INPUT', by the rows' own cells (each row's printed sentence says how): PropGrows: laid · PropShrinks: laid · PropBases: laid · PropMargins: laid · PropPads: laid · PropGaps: laid · PropJusts: laid · PropAligns: laid · PropColors: laid · PropFonts: laid.
  DERIVED. THE GIVEN ROWS OF THIS SEAT. 10 by the template 'for every input the law returns true; each argument reads behind the call as it read before'; 0 by the template 'total and deterministic' (their statements: YtahimngohnghaabDoorTotals.lean).
  GIVEN WITH THE SEED: the statements are not yours to turn. If you find one false, say at which input.
  Laid BY PROGRAM, IN A SANDBOX (cutbox-rows.mjs): the forced cells as the released guide's own fill.sh prints them over the translation 2edbe9dd9fed66d5… (all of the seat's roots in one cut). By AI agents, Wed Nov 11 2026. No macro, syntax, notation, axiom, sorry.
-/
import Derived.Test.YtahimngohnghaabDoorChecked
import GoSem.Claim
import GoSem.ClaimJoined
import GoSem.ClaimMapViews
import Derived.JoinedTies
import Derived.KernelRfl
namespace Go.Proofs.YtahimngohnghaabDoor
/- THE CELL 'sum', in the pinned program and in every row, IS THE sha256 OF THE DUMP (.gsa) THAT YtahimngohnghaabDoorProg.lean LOADS. Nothing in Lean hashes anything: it is a label: what it is worth is what the hold of that sum in a sandbox is worth. -/
noncomputable def Tryd.pinned : Pinned := { name := "ytahimngohnghaabdoor", sum := "2edbe9dd9fed66d53a23be4d501cfabc15224f75ebf62422e05eae8573c5f364", checked := Tryd.checked }
namespace Rows
def none {H : Type} : Left H := { results := [], args := [] }

/- WHAT THE LISTED PACKAGE-LEVEL VARIABLES READ AS WHEN THE CALL BEGINS. Each datum BY PROGRAM (the guide's laid-datum.mjs) off the statement by which the dump's own 'gosem.cut.vars' lays the variable. In a bare row this is a premise. The card (YtahimngohnghaabDoorCards.lean) ties it to the program's text. -/
def laid_arras_prop_rules {H : Type} : DataW H := .agg [.agg [.lit (.int .i64 0), .lit (.int .i64 2), .lit (.int .i64 0), .lit (.bool false)], .agg [.lit (.int .i64 0), .lit (.int .i64 1), .lit (.int .i64 0), .lit (.bool false)], .agg [.lit (.int .i64 0), .lit (.int .i64 1), .lit (.int .i64 0), .lit (.bool false)], .agg [.lit (.int .i64 (-1)), .lit (.int .i64 1099511627776), .lit (.int .i64 (-1)), .lit (.bool false)], .agg [.lit (.int .i64 (-1)), .lit (.int .i64 1099511627776), .lit (.int .i64 (-1)), .lit (.bool false)], .agg [.lit (.int .i64 0), .lit (.int .i64 1099511627776), .lit (.int .i64 0), .lit (.bool false)], .agg [.lit (.int .i64 (-1)), .lit (.int .i64 1099511627776), .lit (.int .i64 (-1)), .lit (.bool false)], .agg [.lit (.int .i64 0), .lit (.int .i64 1099511627776), .lit (.int .i64 0), .lit (.bool false)], .agg [.lit (.int .i64 (-1)), .lit (.int .i64 1099511627776), .lit (.int .i64 (-1)), .lit (.bool false)], .agg [.lit (.int .i64 0), .lit (.int .i64 1048576), .lit (.int .i64 0), .lit (.bool false)], .agg [.lit (.int .i64 0), .lit (.int .i64 1048576), .lit (.int .i64 1), .lit (.bool false)], .agg [.lit (.int .i64 (-1)), .lit (.int .i64 1099511627776), .lit (.int .i64 (-1)), .lit (.bool false)], .agg [.lit (.int .i64 0), .lit (.int .i64 1073741824), .lit (.int .i64 0), .lit (.bool false)], .agg [.lit (.int .i64 0), .lit (.int .i64 1073741824), .lit (.int .i64 0), .lit (.bool false)], .agg [.lit (.int .i64 0), .lit (.int .i64 1073741824), .lit (.int .i64 0), .lit (.bool false)], .agg [.lit (.int .i64 0), .lit (.int .i64 4), .lit (.int .i64 0), .lit (.bool false)], .agg [.lit (.int .i64 0), .lit (.int .i64 3), .lit (.int .i64 0), .lit (.bool false)], .agg [.lit (.int .i64 0), .lit (.int .i64 16777215), .lit (.int .i64 0), .lit (.bool true)], .agg [.lit (.int .i64 64), .lit (.int .i64 64000), .lit (.int .i64 1024), .lit (.bool true)]]

/-- 'arraslaw9.PropGrows': WHATEVER THE INPUT: true; the input reads as it did. -/
def propGrowsSpec : ChangeSpec := { name := "propGrows", fn := fun _ => fun
  | [d] => { results := [.lit (.bool true)], args := [d] }
  | _ => none }
def propGrowsRow : OpenClaim := { program := "ytahimngohnghaabdoor", sum := "2edbe9dd9fed66d53a23be4d501cfabc15224f75ebf62422e05eae8573c5f364", func := "arras/arraslaw9.PropGrows", spec := "propGrows", named := ["arras/prop.rules"], apart := false, laid := [("arras/prop.rules", laid_arras_prop_rules)] }
def PropGrowsSaid : Prop := propGrowsRow.holds Tryd.pinned (OpenSpec.ofChange propGrowsSpec)

/-- ITS FALSE NEIGHBOUR: 'it returns false'. Refute it at one input. -/
def propGrowsWrong : ChangeSpec := { name := "propGrows", fn := fun _ => fun
  | [d] => { results := [.lit (.bool false)], args := [d] }
  | _ => none }
def PropGrowsWrongFalsely : Prop := propGrowsRow.holds Tryd.pinned (OpenSpec.ofChange propGrowsWrong)

/-- 'arraslaw9.PropShrinks': WHATEVER THE INPUT: true; the input reads as it did. -/
def propShrinksSpec : ChangeSpec := { name := "propShrinks", fn := fun _ => fun
  | [d] => { results := [.lit (.bool true)], args := [d] }
  | _ => none }
def propShrinksRow : OpenClaim := { program := "ytahimngohnghaabdoor", sum := "2edbe9dd9fed66d53a23be4d501cfabc15224f75ebf62422e05eae8573c5f364", func := "arras/arraslaw9.PropShrinks", spec := "propShrinks", named := ["arras/prop.rules"], apart := false, laid := [("arras/prop.rules", laid_arras_prop_rules)] }
def PropShrinksSaid : Prop := propShrinksRow.holds Tryd.pinned (OpenSpec.ofChange propShrinksSpec)

/-- ITS FALSE NEIGHBOUR: 'it returns false'. Refute it at one input. -/
def propShrinksWrong : ChangeSpec := { name := "propShrinks", fn := fun _ => fun
  | [d] => { results := [.lit (.bool false)], args := [d] }
  | _ => none }
def PropShrinksWrongFalsely : Prop := propShrinksRow.holds Tryd.pinned (OpenSpec.ofChange propShrinksWrong)

/-- 'arraslaw9.PropBases': WHATEVER THE INPUT: true; the input reads as it did. -/
def propBasesSpec : ChangeSpec := { name := "propBases", fn := fun _ => fun
  | [d] => { results := [.lit (.bool true)], args := [d] }
  | _ => none }
def propBasesRow : OpenClaim := { program := "ytahimngohnghaabdoor", sum := "2edbe9dd9fed66d53a23be4d501cfabc15224f75ebf62422e05eae8573c5f364", func := "arras/arraslaw9.PropBases", spec := "propBases", named := ["arras/prop.rules"], apart := false, laid := [("arras/prop.rules", laid_arras_prop_rules)] }
def PropBasesSaid : Prop := propBasesRow.holds Tryd.pinned (OpenSpec.ofChange propBasesSpec)

/-- ITS FALSE NEIGHBOUR: 'it returns false'. Refute it at one input. -/
def propBasesWrong : ChangeSpec := { name := "propBases", fn := fun _ => fun
  | [d] => { results := [.lit (.bool false)], args := [d] }
  | _ => none }
def PropBasesWrongFalsely : Prop := propBasesRow.holds Tryd.pinned (OpenSpec.ofChange propBasesWrong)

/-- 'arraslaw9.PropMargins': WHATEVER THE INPUT: true; the input reads as it did. -/
def propMarginsSpec : ChangeSpec := { name := "propMargins", fn := fun _ => fun
  | [d] => { results := [.lit (.bool true)], args := [d] }
  | _ => none }
def propMarginsRow : OpenClaim := { program := "ytahimngohnghaabdoor", sum := "2edbe9dd9fed66d53a23be4d501cfabc15224f75ebf62422e05eae8573c5f364", func := "arras/arraslaw9.PropMargins", spec := "propMargins", named := ["arras/prop.rules"], apart := false, laid := [("arras/prop.rules", laid_arras_prop_rules)] }
def PropMarginsSaid : Prop := propMarginsRow.holds Tryd.pinned (OpenSpec.ofChange propMarginsSpec)

/-- ITS FALSE NEIGHBOUR: 'it returns false'. Refute it at one input. -/
def propMarginsWrong : ChangeSpec := { name := "propMargins", fn := fun _ => fun
  | [d] => { results := [.lit (.bool false)], args := [d] }
  | _ => none }
def PropMarginsWrongFalsely : Prop := propMarginsRow.holds Tryd.pinned (OpenSpec.ofChange propMarginsWrong)

/-- 'arraslaw9.PropPads': WHATEVER THE INPUT: true; the input reads as it did. -/
def propPadsSpec : ChangeSpec := { name := "propPads", fn := fun _ => fun
  | [d] => { results := [.lit (.bool true)], args := [d] }
  | _ => none }
def propPadsRow : OpenClaim := { program := "ytahimngohnghaabdoor", sum := "2edbe9dd9fed66d53a23be4d501cfabc15224f75ebf62422e05eae8573c5f364", func := "arras/arraslaw9.PropPads", spec := "propPads", named := ["arras/prop.rules"], apart := false, laid := [("arras/prop.rules", laid_arras_prop_rules)] }
def PropPadsSaid : Prop := propPadsRow.holds Tryd.pinned (OpenSpec.ofChange propPadsSpec)

/-- ITS FALSE NEIGHBOUR: 'it returns false'. Refute it at one input. -/
def propPadsWrong : ChangeSpec := { name := "propPads", fn := fun _ => fun
  | [d] => { results := [.lit (.bool false)], args := [d] }
  | _ => none }
def PropPadsWrongFalsely : Prop := propPadsRow.holds Tryd.pinned (OpenSpec.ofChange propPadsWrong)

/-- 'arraslaw9.PropGaps': WHATEVER THE INPUT: true; the input reads as it did. -/
def propGapsSpec : ChangeSpec := { name := "propGaps", fn := fun _ => fun
  | [d] => { results := [.lit (.bool true)], args := [d] }
  | _ => none }
def propGapsRow : OpenClaim := { program := "ytahimngohnghaabdoor", sum := "2edbe9dd9fed66d53a23be4d501cfabc15224f75ebf62422e05eae8573c5f364", func := "arras/arraslaw9.PropGaps", spec := "propGaps", named := ["arras/prop.rules"], apart := false, laid := [("arras/prop.rules", laid_arras_prop_rules)] }
def PropGapsSaid : Prop := propGapsRow.holds Tryd.pinned (OpenSpec.ofChange propGapsSpec)

/-- ITS FALSE NEIGHBOUR: 'it returns false'. Refute it at one input. -/
def propGapsWrong : ChangeSpec := { name := "propGaps", fn := fun _ => fun
  | [d] => { results := [.lit (.bool false)], args := [d] }
  | _ => none }
def PropGapsWrongFalsely : Prop := propGapsRow.holds Tryd.pinned (OpenSpec.ofChange propGapsWrong)

/-- 'arraslaw9.PropJusts': WHATEVER THE INPUT: true; the input reads as it did. -/
def propJustsSpec : ChangeSpec := { name := "propJusts", fn := fun _ => fun
  | [d] => { results := [.lit (.bool true)], args := [d] }
  | _ => none }
def propJustsRow : OpenClaim := { program := "ytahimngohnghaabdoor", sum := "2edbe9dd9fed66d53a23be4d501cfabc15224f75ebf62422e05eae8573c5f364", func := "arras/arraslaw9.PropJusts", spec := "propJusts", named := ["arras/prop.rules"], apart := false, laid := [("arras/prop.rules", laid_arras_prop_rules)] }
def PropJustsSaid : Prop := propJustsRow.holds Tryd.pinned (OpenSpec.ofChange propJustsSpec)

/-- ITS FALSE NEIGHBOUR: 'it returns false'. Refute it at one input. -/
def propJustsWrong : ChangeSpec := { name := "propJusts", fn := fun _ => fun
  | [d] => { results := [.lit (.bool false)], args := [d] }
  | _ => none }
def PropJustsWrongFalsely : Prop := propJustsRow.holds Tryd.pinned (OpenSpec.ofChange propJustsWrong)

/-- 'arraslaw9.PropAligns': WHATEVER THE INPUT: true; the input reads as it did. -/
def propAlignsSpec : ChangeSpec := { name := "propAligns", fn := fun _ => fun
  | [d] => { results := [.lit (.bool true)], args := [d] }
  | _ => none }
def propAlignsRow : OpenClaim := { program := "ytahimngohnghaabdoor", sum := "2edbe9dd9fed66d53a23be4d501cfabc15224f75ebf62422e05eae8573c5f364", func := "arras/arraslaw9.PropAligns", spec := "propAligns", named := ["arras/prop.rules"], apart := false, laid := [("arras/prop.rules", laid_arras_prop_rules)] }
def PropAlignsSaid : Prop := propAlignsRow.holds Tryd.pinned (OpenSpec.ofChange propAlignsSpec)

/-- ITS FALSE NEIGHBOUR: 'it returns false'. Refute it at one input. -/
def propAlignsWrong : ChangeSpec := { name := "propAligns", fn := fun _ => fun
  | [d] => { results := [.lit (.bool false)], args := [d] }
  | _ => none }
def PropAlignsWrongFalsely : Prop := propAlignsRow.holds Tryd.pinned (OpenSpec.ofChange propAlignsWrong)

/-- 'arraslaw9.PropColors': WHATEVER THE INPUT: true; the input reads as it did. -/
def propColorsSpec : ChangeSpec := { name := "propColors", fn := fun _ => fun
  | [d] => { results := [.lit (.bool true)], args := [d] }
  | _ => none }
def propColorsRow : OpenClaim := { program := "ytahimngohnghaabdoor", sum := "2edbe9dd9fed66d53a23be4d501cfabc15224f75ebf62422e05eae8573c5f364", func := "arras/arraslaw9.PropColors", spec := "propColors", named := ["arras/prop.rules"], apart := false, laid := [("arras/prop.rules", laid_arras_prop_rules)] }
def PropColorsSaid : Prop := propColorsRow.holds Tryd.pinned (OpenSpec.ofChange propColorsSpec)

/-- ITS FALSE NEIGHBOUR: 'it returns false'. Refute it at one input. -/
def propColorsWrong : ChangeSpec := { name := "propColors", fn := fun _ => fun
  | [d] => { results := [.lit (.bool false)], args := [d] }
  | _ => none }
def PropColorsWrongFalsely : Prop := propColorsRow.holds Tryd.pinned (OpenSpec.ofChange propColorsWrong)

/-- 'arraslaw9.PropFonts': WHATEVER THE INPUT: true; the input reads as it did. -/
def propFontsSpec : ChangeSpec := { name := "propFonts", fn := fun _ => fun
  | [d] => { results := [.lit (.bool true)], args := [d] }
  | _ => none }
def propFontsRow : OpenClaim := { program := "ytahimngohnghaabdoor", sum := "2edbe9dd9fed66d53a23be4d501cfabc15224f75ebf62422e05eae8573c5f364", func := "arras/arraslaw9.PropFonts", spec := "propFonts", named := ["arras/prop.rules"], apart := false, laid := [("arras/prop.rules", laid_arras_prop_rules)] }
def PropFontsSaid : Prop := propFontsRow.holds Tryd.pinned (OpenSpec.ofChange propFontsSpec)

/-- ITS FALSE NEIGHBOUR: 'it returns false'. Refute it at one input. -/
def propFontsWrong : ChangeSpec := { name := "propFonts", fn := fun _ => fun
  | [d] => { results := [.lit (.bool false)], args := [d] }
  | _ => none }
def PropFontsWrongFalsely : Prop := propFontsRow.holds Tryd.pinned (OpenSpec.ofChange propFontsWrong)

/- THE SECOND FORM. 'bulk': how many values and letters a reading holds, each counted each time it is reached (what is shared counts as often as it is met; a slice's spare places count too). A statement '..UptoSaid' is the law's where the arguments, and the package variables that the reading takes, are together of bulk at most 1048576: NARROWER than '..Said'. Prove '..Said' where nothing that the law and all that it calls make is longer than what came in: it says more and counts as full. Else prove '..UptoSaid'. A law counts once. -/
mutual
def uptoBulk {H : Type} : DataW H → Nat
  | .lit (.string bytes) => bytes.length + 1
  | .lit _ => 1
  | .nil => 1
  | .ptr d => uptoBulk d + 1
  | .slice elems spare => uptoBulkAll elems + uptoBulkAll spare + 1
  | .agg parts => uptoBulkAll parts + 1
  | .iface _ d => uptoBulk d + 1
  | .map entries => uptoBulkEntries entries + 1
  | .held _ => 1
def uptoBulkAll {H : Type} : List (DataW H) → Nat
  | [] => 0
  | d :: r => uptoBulk d + uptoBulkAll r
def uptoBulkEntries {H : Type} : List (Lit × DataW H) → Nat
  | [] => 0
  | x :: r => uptoBulkEntry x + uptoBulkEntries r
def uptoBulkEntry {H : Type} : Lit × DataW H → Nat
  | (.string bytes, d) => bytes.length + uptoBulk d + 1
  | (_, d) => uptoBulk d + 1
 end
def uptoSmall : (H : Type) → List (DataW H) → Bool := fun _ ds => decide (uptoBulkAll ds ≤ 1048576)
def OpenSpec.upto (s : _root_.Go.ChangeSpec) : _root_.Go.OpenSpec := { _root_.Go.OpenSpec.ofChange s with cond := some uptoSmall }

/-- 'arraslaw9.PropGrows', WHERE WHAT IT READS IS OF BULK AT MOST 1048576: true; the input reads as it did. -/
def propGrowsUptoRow : OpenClaim := { program := "ytahimngohnghaabdoor", sum := "2edbe9dd9fed66d53a23be4d501cfabc15224f75ebf62422e05eae8573c5f364", func := "arras/arraslaw9.PropGrows", spec := "propGrows", named := ["arras/prop.rules"], apart := false, laid := [("arras/prop.rules", laid_arras_prop_rules)], narrowed := true }
def PropGrowsUptoSaid : Prop := propGrowsUptoRow.holds Tryd.pinned (OpenSpec.upto propGrowsSpec)

/-- 'arraslaw9.PropShrinks', WHERE WHAT IT READS IS OF BULK AT MOST 1048576: true; the input reads as it did. -/
def propShrinksUptoRow : OpenClaim := { program := "ytahimngohnghaabdoor", sum := "2edbe9dd9fed66d53a23be4d501cfabc15224f75ebf62422e05eae8573c5f364", func := "arras/arraslaw9.PropShrinks", spec := "propShrinks", named := ["arras/prop.rules"], apart := false, laid := [("arras/prop.rules", laid_arras_prop_rules)], narrowed := true }
def PropShrinksUptoSaid : Prop := propShrinksUptoRow.holds Tryd.pinned (OpenSpec.upto propShrinksSpec)

/-- 'arraslaw9.PropBases', WHERE WHAT IT READS IS OF BULK AT MOST 1048576: true; the input reads as it did. -/
def propBasesUptoRow : OpenClaim := { program := "ytahimngohnghaabdoor", sum := "2edbe9dd9fed66d53a23be4d501cfabc15224f75ebf62422e05eae8573c5f364", func := "arras/arraslaw9.PropBases", spec := "propBases", named := ["arras/prop.rules"], apart := false, laid := [("arras/prop.rules", laid_arras_prop_rules)], narrowed := true }
def PropBasesUptoSaid : Prop := propBasesUptoRow.holds Tryd.pinned (OpenSpec.upto propBasesSpec)

/-- 'arraslaw9.PropMargins', WHERE WHAT IT READS IS OF BULK AT MOST 1048576: true; the input reads as it did. -/
def propMarginsUptoRow : OpenClaim := { program := "ytahimngohnghaabdoor", sum := "2edbe9dd9fed66d53a23be4d501cfabc15224f75ebf62422e05eae8573c5f364", func := "arras/arraslaw9.PropMargins", spec := "propMargins", named := ["arras/prop.rules"], apart := false, laid := [("arras/prop.rules", laid_arras_prop_rules)], narrowed := true }
def PropMarginsUptoSaid : Prop := propMarginsUptoRow.holds Tryd.pinned (OpenSpec.upto propMarginsSpec)

/-- 'arraslaw9.PropPads', WHERE WHAT IT READS IS OF BULK AT MOST 1048576: true; the input reads as it did. -/
def propPadsUptoRow : OpenClaim := { program := "ytahimngohnghaabdoor", sum := "2edbe9dd9fed66d53a23be4d501cfabc15224f75ebf62422e05eae8573c5f364", func := "arras/arraslaw9.PropPads", spec := "propPads", named := ["arras/prop.rules"], apart := false, laid := [("arras/prop.rules", laid_arras_prop_rules)], narrowed := true }
def PropPadsUptoSaid : Prop := propPadsUptoRow.holds Tryd.pinned (OpenSpec.upto propPadsSpec)

/-- 'arraslaw9.PropGaps', WHERE WHAT IT READS IS OF BULK AT MOST 1048576: true; the input reads as it did. -/
def propGapsUptoRow : OpenClaim := { program := "ytahimngohnghaabdoor", sum := "2edbe9dd9fed66d53a23be4d501cfabc15224f75ebf62422e05eae8573c5f364", func := "arras/arraslaw9.PropGaps", spec := "propGaps", named := ["arras/prop.rules"], apart := false, laid := [("arras/prop.rules", laid_arras_prop_rules)], narrowed := true }
def PropGapsUptoSaid : Prop := propGapsUptoRow.holds Tryd.pinned (OpenSpec.upto propGapsSpec)

/-- 'arraslaw9.PropJusts', WHERE WHAT IT READS IS OF BULK AT MOST 1048576: true; the input reads as it did. -/
def propJustsUptoRow : OpenClaim := { program := "ytahimngohnghaabdoor", sum := "2edbe9dd9fed66d53a23be4d501cfabc15224f75ebf62422e05eae8573c5f364", func := "arras/arraslaw9.PropJusts", spec := "propJusts", named := ["arras/prop.rules"], apart := false, laid := [("arras/prop.rules", laid_arras_prop_rules)], narrowed := true }
def PropJustsUptoSaid : Prop := propJustsUptoRow.holds Tryd.pinned (OpenSpec.upto propJustsSpec)

/-- 'arraslaw9.PropAligns', WHERE WHAT IT READS IS OF BULK AT MOST 1048576: true; the input reads as it did. -/
def propAlignsUptoRow : OpenClaim := { program := "ytahimngohnghaabdoor", sum := "2edbe9dd9fed66d53a23be4d501cfabc15224f75ebf62422e05eae8573c5f364", func := "arras/arraslaw9.PropAligns", spec := "propAligns", named := ["arras/prop.rules"], apart := false, laid := [("arras/prop.rules", laid_arras_prop_rules)], narrowed := true }
def PropAlignsUptoSaid : Prop := propAlignsUptoRow.holds Tryd.pinned (OpenSpec.upto propAlignsSpec)

/-- 'arraslaw9.PropColors', WHERE WHAT IT READS IS OF BULK AT MOST 1048576: true; the input reads as it did. -/
def propColorsUptoRow : OpenClaim := { program := "ytahimngohnghaabdoor", sum := "2edbe9dd9fed66d53a23be4d501cfabc15224f75ebf62422e05eae8573c5f364", func := "arras/arraslaw9.PropColors", spec := "propColors", named := ["arras/prop.rules"], apart := false, laid := [("arras/prop.rules", laid_arras_prop_rules)], narrowed := true }
def PropColorsUptoSaid : Prop := propColorsUptoRow.holds Tryd.pinned (OpenSpec.upto propColorsSpec)

/-- 'arraslaw9.PropFonts', WHERE WHAT IT READS IS OF BULK AT MOST 1048576: true; the input reads as it did. -/
def propFontsUptoRow : OpenClaim := { program := "ytahimngohnghaabdoor", sum := "2edbe9dd9fed66d53a23be4d501cfabc15224f75ebf62422e05eae8573c5f364", func := "arras/arraslaw9.PropFonts", spec := "propFonts", named := ["arras/prop.rules"], apart := false, laid := [("arras/prop.rules", laid_arras_prop_rules)], narrowed := true }
def PropFontsUptoSaid : Prop := propFontsUptoRow.holds Tryd.pinned (OpenSpec.upto propFontsSpec)

end Rows
end Go.Proofs.YtahimngohnghaabDoor
