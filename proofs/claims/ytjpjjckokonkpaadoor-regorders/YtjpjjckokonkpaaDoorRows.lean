/-
  NARROWER THAN 'FOR EVERY INPUT', by the rows' own cells (each row's printed sentence says how): RegExact: laid · RegOrders: laid · RegSets: laid · RegMerges: laid · RegSame: laid.
  DERIVED. THE GIVEN ROWS OF THIS SEAT. 5 by the template 'for every input the law returns true; each argument reads behind the call as it read before'; 0 by the template 'total and deterministic' (their statements: YtjpjjckokonkpaaDoorTotals.lean).
  GIVEN WITH THE SEED: the statements are not yours to turn. If you find one false, say at which input.
  Laid BY PROGRAM, IN A SANDBOX (cutbox-rows.mjs): the forced cells as the released guide's own fill.sh prints them over the translation 025dc92501f17d9f… (all of the seat's roots in one cut). By AI agents, Wed Nov 11 2026. No macro, syntax, notation, axiom, sorry.
-/
import Derived.Test.YtjpjjckokonkpaaDoorChecked
import GoSem.Claim
import GoSem.ClaimJoined
import GoSem.ClaimMapViews
import Derived.JoinedTies
import Derived.KernelRfl
namespace Go.Proofs.YtjpjjckokonkpaaDoor
/- THE CELL 'sum', in the pinned program and in every row, IS THE sha256 OF THE DUMP (.gsa) THAT YtjpjjckokonkpaaDoorProg.lean LOADS. Nothing in Lean hashes anything: it is a label: what it is worth is what the hold of that sum in a sandbox is worth. -/
noncomputable def Tryd.pinned : Pinned := { name := "ytjpjjckokonkpaadoor", sum := "025dc92501f17d9ff0f523f1aab601837ee501c48713f2f06834e3c7aa741bb2", checked := Tryd.checked }
namespace Rows
def none {H : Type} : Left H := { results := [], args := [] }

/- WHAT THE LISTED PACKAGE-LEVEL VARIABLES READ AS WHEN THE CALL BEGINS. Each datum BY PROGRAM (the guide's laid-datum.mjs) off the statement by which the dump's own 'gosem.cut.vars' lays the variable. In a bare row this is a premise. The card (YtjpjjckokonkpaaDoorCards.lean) ties it to the program's text. -/
def laid_arras_prop_rules {H : Type} : DataW H := .agg [.agg [.lit (.int .i64 0), .lit (.int .i64 2), .lit (.int .i64 0), .lit (.bool false)], .agg [.lit (.int .i64 0), .lit (.int .i64 1), .lit (.int .i64 0), .lit (.bool false)], .agg [.lit (.int .i64 0), .lit (.int .i64 1), .lit (.int .i64 0), .lit (.bool false)], .agg [.lit (.int .i64 (-1)), .lit (.int .i64 1099511627776), .lit (.int .i64 (-1)), .lit (.bool false)], .agg [.lit (.int .i64 (-1)), .lit (.int .i64 1099511627776), .lit (.int .i64 (-1)), .lit (.bool false)], .agg [.lit (.int .i64 0), .lit (.int .i64 1099511627776), .lit (.int .i64 0), .lit (.bool false)], .agg [.lit (.int .i64 (-1)), .lit (.int .i64 1099511627776), .lit (.int .i64 (-1)), .lit (.bool false)], .agg [.lit (.int .i64 0), .lit (.int .i64 1099511627776), .lit (.int .i64 0), .lit (.bool false)], .agg [.lit (.int .i64 (-1)), .lit (.int .i64 1099511627776), .lit (.int .i64 (-1)), .lit (.bool false)], .agg [.lit (.int .i64 0), .lit (.int .i64 1048576), .lit (.int .i64 0), .lit (.bool false)], .agg [.lit (.int .i64 0), .lit (.int .i64 1048576), .lit (.int .i64 1), .lit (.bool false)], .agg [.lit (.int .i64 (-1)), .lit (.int .i64 1099511627776), .lit (.int .i64 (-1)), .lit (.bool false)], .agg [.lit (.int .i64 0), .lit (.int .i64 1073741824), .lit (.int .i64 0), .lit (.bool false)], .agg [.lit (.int .i64 0), .lit (.int .i64 1073741824), .lit (.int .i64 0), .lit (.bool false)], .agg [.lit (.int .i64 0), .lit (.int .i64 1073741824), .lit (.int .i64 0), .lit (.bool false)], .agg [.lit (.int .i64 0), .lit (.int .i64 4), .lit (.int .i64 0), .lit (.bool false)], .agg [.lit (.int .i64 0), .lit (.int .i64 3), .lit (.int .i64 0), .lit (.bool false)], .agg [.lit (.int .i64 0), .lit (.int .i64 16777215), .lit (.int .i64 0), .lit (.bool true)], .agg [.lit (.int .i64 64), .lit (.int .i64 64000), .lit (.int .i64 1024), .lit (.bool true)]]

/-- 'arraslaw15.RegExact': WHATEVER THE INPUT: true; the input reads as it did. -/
def regExactSpec : ChangeSpec := { name := "regExact", fn := fun _ => fun
  | [d] => { results := [.lit (.bool true)], args := [d] }
  | _ => none }
def regExactRow : OpenClaim := { program := "ytjpjjckokonkpaadoor", sum := "025dc92501f17d9ff0f523f1aab601837ee501c48713f2f06834e3c7aa741bb2", func := "arras/arraslaw15.RegExact", spec := "regExact", unfollowed := true, recurses := true, named := ["arras/prop.rules"], apart := false, laid := [("arras/prop.rules", laid_arras_prop_rules)] }
def RegExactSaid : Prop := regExactRow.holds Tryd.pinned (OpenSpec.ofChange regExactSpec)

/-- ITS FALSE NEIGHBOUR: 'it returns false'. Refute it at one input. -/
def regExactWrong : ChangeSpec := { name := "regExact", fn := fun _ => fun
  | [d] => { results := [.lit (.bool false)], args := [d] }
  | _ => none }
def RegExactWrongFalsely : Prop := regExactRow.holds Tryd.pinned (OpenSpec.ofChange regExactWrong)

/-- 'arraslaw15.RegOrders': WHATEVER THE INPUT: true; the input reads as it did. -/
def regOrdersSpec : ChangeSpec := { name := "regOrders", fn := fun _ => fun
  | [d] => { results := [.lit (.bool true)], args := [d] }
  | _ => none }
def regOrdersRow : OpenClaim := { program := "ytjpjjckokonkpaadoor", sum := "025dc92501f17d9ff0f523f1aab601837ee501c48713f2f06834e3c7aa741bb2", func := "arras/arraslaw15.RegOrders", spec := "regOrders", unfollowed := true, recurses := true, named := ["arras/prop.rules"], apart := false, laid := [("arras/prop.rules", laid_arras_prop_rules)] }
def RegOrdersSaid : Prop := regOrdersRow.holds Tryd.pinned (OpenSpec.ofChange regOrdersSpec)

/-- ITS FALSE NEIGHBOUR: 'it returns false'. Refute it at one input. -/
def regOrdersWrong : ChangeSpec := { name := "regOrders", fn := fun _ => fun
  | [d] => { results := [.lit (.bool false)], args := [d] }
  | _ => none }
def RegOrdersWrongFalsely : Prop := regOrdersRow.holds Tryd.pinned (OpenSpec.ofChange regOrdersWrong)

/-- 'arraslaw15.RegSets': WHATEVER THE INPUT: true; the input reads as it did. -/
def regSetsSpec : ChangeSpec := { name := "regSets", fn := fun _ => fun
  | [d] => { results := [.lit (.bool true)], args := [d] }
  | _ => none }
def regSetsRow : OpenClaim := { program := "ytjpjjckokonkpaadoor", sum := "025dc92501f17d9ff0f523f1aab601837ee501c48713f2f06834e3c7aa741bb2", func := "arras/arraslaw15.RegSets", spec := "regSets", unfollowed := true, recurses := true, named := ["arras/prop.rules"], apart := false, laid := [("arras/prop.rules", laid_arras_prop_rules)] }
def RegSetsSaid : Prop := regSetsRow.holds Tryd.pinned (OpenSpec.ofChange regSetsSpec)

/-- ITS FALSE NEIGHBOUR: 'it returns false'. Refute it at one input. -/
def regSetsWrong : ChangeSpec := { name := "regSets", fn := fun _ => fun
  | [d] => { results := [.lit (.bool false)], args := [d] }
  | _ => none }
def RegSetsWrongFalsely : Prop := regSetsRow.holds Tryd.pinned (OpenSpec.ofChange regSetsWrong)

/-- 'arraslaw15.RegMerges': WHATEVER THE INPUT: true; the input reads as it did. -/
def regMergesSpec : ChangeSpec := { name := "regMerges", fn := fun _ => fun
  | [d] => { results := [.lit (.bool true)], args := [d] }
  | _ => none }
def regMergesRow : OpenClaim := { program := "ytjpjjckokonkpaadoor", sum := "025dc92501f17d9ff0f523f1aab601837ee501c48713f2f06834e3c7aa741bb2", func := "arras/arraslaw15.RegMerges", spec := "regMerges", unfollowed := true, recurses := true, named := ["arras/prop.rules"], apart := false, laid := [("arras/prop.rules", laid_arras_prop_rules)] }
def RegMergesSaid : Prop := regMergesRow.holds Tryd.pinned (OpenSpec.ofChange regMergesSpec)

/-- ITS FALSE NEIGHBOUR: 'it returns false'. Refute it at one input. -/
def regMergesWrong : ChangeSpec := { name := "regMerges", fn := fun _ => fun
  | [d] => { results := [.lit (.bool false)], args := [d] }
  | _ => none }
def RegMergesWrongFalsely : Prop := regMergesRow.holds Tryd.pinned (OpenSpec.ofChange regMergesWrong)

/-- 'arraslaw15.RegSame': WHATEVER THE INPUT: true; the input reads as it did. -/
def regSameSpec : ChangeSpec := { name := "regSame", fn := fun _ => fun
  | [d] => { results := [.lit (.bool true)], args := [d] }
  | _ => none }
def regSameRow : OpenClaim := { program := "ytjpjjckokonkpaadoor", sum := "025dc92501f17d9ff0f523f1aab601837ee501c48713f2f06834e3c7aa741bb2", func := "arras/arraslaw15.RegSame", spec := "regSame", unfollowed := true, recurses := true, named := ["arras/prop.rules"], apart := false, laid := [("arras/prop.rules", laid_arras_prop_rules)] }
def RegSameSaid : Prop := regSameRow.holds Tryd.pinned (OpenSpec.ofChange regSameSpec)

/-- ITS FALSE NEIGHBOUR: 'it returns false'. Refute it at one input. -/
def regSameWrong : ChangeSpec := { name := "regSame", fn := fun _ => fun
  | [d] => { results := [.lit (.bool false)], args := [d] }
  | _ => none }
def RegSameWrongFalsely : Prop := regSameRow.holds Tryd.pinned (OpenSpec.ofChange regSameWrong)

/- THE SECOND FORM. 'bulk': how many values and letters a reading holds, each counted each time it is reached (what is shared counts as often as it is met; a slice's spare places count too). A statement '..UptoSaid' is the law's where the arguments, and the package variables that the reading takes, are together of bulk at most 1048576: NARROWER than '..Said'. Prove '..Said' where nothing that the law and all that it calls make is longer than what came in: it says more and counts as full. Else prove '..UptoSaid'. A law counts once. -/
mutual
def uptoBulk {H : Type} : DataW H → Nat
  | .lit (.string bytes) => bytes.length + 1
  | .lit _ => 1
  | .nil => 1
  | .ptr d => uptoBulk d + 1
  | .slice elems spare => uptoBulkAll elems + uptoBulkAll spare + 1
  | .agg parts => uptoBulkAll parts + 1
  | .iface _ d => uptoBulk d + 1
  | .map entries => uptoBulkEntries entries + 1
  | .held _ => 1
def uptoBulkAll {H : Type} : List (DataW H) → Nat
  | [] => 0
  | d :: r => uptoBulk d + uptoBulkAll r
def uptoBulkEntries {H : Type} : List (Lit × DataW H) → Nat
  | [] => 0
  | x :: r => uptoBulkEntry x + uptoBulkEntries r
def uptoBulkEntry {H : Type} : Lit × DataW H → Nat
  | (.string bytes, d) => bytes.length + uptoBulk d + 1
  | (_, d) => uptoBulk d + 1
 end
def uptoSmall : (H : Type) → List (DataW H) → Bool := fun _ ds => decide (uptoBulkAll ds ≤ 1048576)
def OpenSpec.upto (s : _root_.Go.ChangeSpec) : _root_.Go.OpenSpec := { _root_.Go.OpenSpec.ofChange s with cond := some uptoSmall }

/-- 'arraslaw15.RegExact', WHERE WHAT IT READS IS OF BULK AT MOST 1048576: true; the input reads as it did. -/
def regExactUptoRow : OpenClaim := { program := "ytjpjjckokonkpaadoor", sum := "025dc92501f17d9ff0f523f1aab601837ee501c48713f2f06834e3c7aa741bb2", func := "arras/arraslaw15.RegExact", spec := "regExact", unfollowed := true, recurses := true, named := ["arras/prop.rules"], apart := false, laid := [("arras/prop.rules", laid_arras_prop_rules)], narrowed := true }
def RegExactUptoSaid : Prop := regExactUptoRow.holds Tryd.pinned (OpenSpec.upto regExactSpec)

/-- 'arraslaw15.RegOrders', WHERE WHAT IT READS IS OF BULK AT MOST 1048576: true; the input reads as it did. -/
def regOrdersUptoRow : OpenClaim := { program := "ytjpjjckokonkpaadoor", sum := "025dc92501f17d9ff0f523f1aab601837ee501c48713f2f06834e3c7aa741bb2", func := "arras/arraslaw15.RegOrders", spec := "regOrders", unfollowed := true, recurses := true, named := ["arras/prop.rules"], apart := false, laid := [("arras/prop.rules", laid_arras_prop_rules)], narrowed := true }
def RegOrdersUptoSaid : Prop := regOrdersUptoRow.holds Tryd.pinned (OpenSpec.upto regOrdersSpec)

/-- 'arraslaw15.RegSets', WHERE WHAT IT READS IS OF BULK AT MOST 1048576: true; the input reads as it did. -/
def regSetsUptoRow : OpenClaim := { program := "ytjpjjckokonkpaadoor", sum := "025dc92501f17d9ff0f523f1aab601837ee501c48713f2f06834e3c7aa741bb2", func := "arras/arraslaw15.RegSets", spec := "regSets", unfollowed := true, recurses := true, named := ["arras/prop.rules"], apart := false, laid := [("arras/prop.rules", laid_arras_prop_rules)], narrowed := true }
def RegSetsUptoSaid : Prop := regSetsUptoRow.holds Tryd.pinned (OpenSpec.upto regSetsSpec)

/-- 'arraslaw15.RegMerges', WHERE WHAT IT READS IS OF BULK AT MOST 1048576: true; the input reads as it did. -/
def regMergesUptoRow : OpenClaim := { program := "ytjpjjckokonkpaadoor", sum := "025dc92501f17d9ff0f523f1aab601837ee501c48713f2f06834e3c7aa741bb2", func := "arras/arraslaw15.RegMerges", spec := "regMerges", unfollowed := true, recurses := true, named := ["arras/prop.rules"], apart := false, laid := [("arras/prop.rules", laid_arras_prop_rules)], narrowed := true }
def RegMergesUptoSaid : Prop := regMergesUptoRow.holds Tryd.pinned (OpenSpec.upto regMergesSpec)

/-- 'arraslaw15.RegSame', WHERE WHAT IT READS IS OF BULK AT MOST 1048576: true; the input reads as it did. -/
def regSameUptoRow : OpenClaim := { program := "ytjpjjckokonkpaadoor", sum := "025dc92501f17d9ff0f523f1aab601837ee501c48713f2f06834e3c7aa741bb2", func := "arras/arraslaw15.RegSame", spec := "regSame", unfollowed := true, recurses := true, named := ["arras/prop.rules"], apart := false, laid := [("arras/prop.rules", laid_arras_prop_rules)], narrowed := true }
def RegSameUptoSaid : Prop := regSameUptoRow.holds Tryd.pinned (OpenSpec.upto regSameSpec)

end Rows
end Go.Proofs.YtjpjjckokonkpaaDoor
