/-
  No cell of these rows narrows 'for every input' (looked for: loops, veiled, ifaces, maps, wideKeys, modest, calm, conditions, laid).
  DERIVED. THE GIVEN ROWS OF THIS SEAT. 4 by the template 'for every input the law returns true; each argument reads behind the call as it read before'; 0 by the template 'total and deterministic' (their statements: YtponpbcchfbkpaaTotals.lean).
  GIVEN WITH THE SEED: the statements are not yours to turn. If you find one false, say at which input.
  Laid BY PROGRAM, IN A SANDBOX (cutbox-rows.mjs): the forced cells as the released guide's own fill.sh prints them over the translation b2dbc8463fa54036… (all of the seat's roots in one cut). By AI agents, Wed Nov 11 2026. No macro, syntax, notation, axiom, sorry.
-/
import Derived.Test.YtponpbcchfbkpaaChecked
import GoSem.Claim
import GoSem.ClaimJoined
import GoSem.ClaimMapViews
import Derived.JoinedTies
import Derived.KernelRfl
namespace Go.Proofs.Ytponpbcchfbkpaa
/- THE CELL 'sum', in the pinned program and in every row, IS THE sha256 OF THE DUMP (.gsa) THAT YtponpbcchfbkpaaProg.lean LOADS. Nothing in Lean hashes anything: it is a label: what it is worth is what the hold of that sum in a sandbox is worth. -/
noncomputable def Try.pinned : Pinned := { name := "ytponpbcchfbkpaa", sum := "b2dbc8463fa54036302d13ecbd902e49a8b43b61ca1b81d8e3da1cbacdf7fd35", checked := Try.checked }
namespace Rows
def none {H : Type} : Left H := { results := [], args := [] }

/-- 'arraslaw7.HavePairs': WHATEVER THE INPUT: true; the input reads as it did. -/
def havePairsSpec : ChangeSpec := { name := "havePairs", fn := fun _ => fun
  | [d] => { results := [.lit (.bool true)], args := [d] }
  | _ => none }
def havePairsRow : OpenClaim := { program := "ytponpbcchfbkpaa", sum := "b2dbc8463fa54036302d13ecbd902e49a8b43b61ca1b81d8e3da1cbacdf7fd35", func := "arras/arraslaw7.HavePairs", spec := "havePairs", unfollowed := true, recurses := true, apart := false }
def HavePairsSaid : Prop := havePairsRow.holds Try.pinned (OpenSpec.ofChange havePairsSpec)

/-- ITS FALSE NEIGHBOUR: 'it returns false'. Refute it at one input. -/
def havePairsWrong : ChangeSpec := { name := "havePairs", fn := fun _ => fun
  | [d] => { results := [.lit (.bool false)], args := [d] }
  | _ => none }
def HavePairsWrongFalsely : Prop := havePairsRow.holds Try.pinned (OpenSpec.ofChange havePairsWrong)

/-- 'arraslaw7.HaveBytes': WHATEVER THE INPUT: true; the input reads as it did. -/
def haveBytesSpec : ChangeSpec := { name := "haveBytes", fn := fun _ => fun
  | [d] => { results := [.lit (.bool true)], args := [d] }
  | _ => none }
def haveBytesRow : OpenClaim := { program := "ytponpbcchfbkpaa", sum := "b2dbc8463fa54036302d13ecbd902e49a8b43b61ca1b81d8e3da1cbacdf7fd35", func := "arras/arraslaw7.HaveBytes", spec := "haveBytes", unfollowed := true, recurses := true, apart := false }
def HaveBytesSaid : Prop := haveBytesRow.holds Try.pinned (OpenSpec.ofChange haveBytesSpec)

/-- ITS FALSE NEIGHBOUR: 'it returns false'. Refute it at one input. -/
def haveBytesWrong : ChangeSpec := { name := "haveBytes", fn := fun _ => fun
  | [d] => { results := [.lit (.bool false)], args := [d] }
  | _ => none }
def HaveBytesWrongFalsely : Prop := haveBytesRow.holds Try.pinned (OpenSpec.ofChange haveBytesWrong)

/-- 'arraslaw7.HaveLaws': WHATEVER THE INPUT: true; the input reads as it did. -/
def haveLawsSpec : ChangeSpec := { name := "haveLaws", fn := fun _ => fun
  | [d] => { results := [.lit (.bool true)], args := [d] }
  | _ => none }
def haveLawsRow : OpenClaim := { program := "ytponpbcchfbkpaa", sum := "b2dbc8463fa54036302d13ecbd902e49a8b43b61ca1b81d8e3da1cbacdf7fd35", func := "arras/arraslaw7.HaveLaws", spec := "haveLaws", unfollowed := true, recurses := true, apart := false }
def HaveLawsSaid : Prop := haveLawsRow.holds Try.pinned (OpenSpec.ofChange haveLawsSpec)

/-- ITS FALSE NEIGHBOUR: 'it returns false'. Refute it at one input. -/
def haveLawsWrong : ChangeSpec := { name := "haveLaws", fn := fun _ => fun
  | [d] => { results := [.lit (.bool false)], args := [d] }
  | _ => none }
def HaveLawsWrongFalsely : Prop := haveLawsRow.holds Try.pinned (OpenSpec.ofChange haveLawsWrong)

/-- 'arraslaw7.HaveLacks': WHATEVER THE INPUT: true; the input reads as it did. -/
def haveLacksSpec : ChangeSpec := { name := "haveLacks", fn := fun _ => fun
  | [d] => { results := [.lit (.bool true)], args := [d] }
  | _ => none }
def haveLacksRow : OpenClaim := { program := "ytponpbcchfbkpaa", sum := "b2dbc8463fa54036302d13ecbd902e49a8b43b61ca1b81d8e3da1cbacdf7fd35", func := "arras/arraslaw7.HaveLacks", spec := "haveLacks", unfollowed := true, recurses := true, apart := false }
def HaveLacksSaid : Prop := haveLacksRow.holds Try.pinned (OpenSpec.ofChange haveLacksSpec)

/-- ITS FALSE NEIGHBOUR: 'it returns false'. Refute it at one input. -/
def haveLacksWrong : ChangeSpec := { name := "haveLacks", fn := fun _ => fun
  | [d] => { results := [.lit (.bool false)], args := [d] }
  | _ => none }
def HaveLacksWrongFalsely : Prop := haveLacksRow.holds Try.pinned (OpenSpec.ofChange haveLacksWrong)

/- THE SECOND FORM. 'bulk': how many values and letters a reading holds, each counted each time it is reached (what is shared counts as often as it is met; a slice's spare places count too). A statement '..UptoSaid' is the law's where the arguments, and the package variables that the reading takes, are together of bulk at most 1048576: NARROWER than '..Said'. Prove '..Said' where nothing that the law and all that it calls make is longer than what came in: it says more and counts as full. Else prove '..UptoSaid'. A law counts once. -/
mutual
def uptoBulk {H : Type} : DataW H → Nat
  | .lit (.string bytes) => bytes.length + 1
  | .lit _ => 1
  | .nil => 1
  | .ptr d => uptoBulk d + 1
  | .slice elems spare => uptoBulkAll elems + uptoBulkAll spare + 1
  | .agg parts => uptoBulkAll parts + 1
  | .iface _ d => uptoBulk d + 1
  | .map entries => uptoBulkEntries entries + 1
  | .held _ => 1
def uptoBulkAll {H : Type} : List (DataW H) → Nat
  | [] => 0
  | d :: r => uptoBulk d + uptoBulkAll r
def uptoBulkEntries {H : Type} : List (Lit × DataW H) → Nat
  | [] => 0
  | x :: r => uptoBulkEntry x + uptoBulkEntries r
def uptoBulkEntry {H : Type} : Lit × DataW H → Nat
  | (.string bytes, d) => bytes.length + uptoBulk d + 1
  | (_, d) => uptoBulk d + 1
 end
def uptoSmall : (H : Type) → List (DataW H) → Bool := fun _ ds => decide (uptoBulkAll ds ≤ 1048576)
def OpenSpec.upto (s : _root_.Go.ChangeSpec) : _root_.Go.OpenSpec := { _root_.Go.OpenSpec.ofChange s with cond := some uptoSmall }

/-- 'arraslaw7.HavePairs', WHERE WHAT IT READS IS OF BULK AT MOST 1048576: true; the input reads as it did. -/
def havePairsUptoRow : OpenClaim := { program := "ytponpbcchfbkpaa", sum := "b2dbc8463fa54036302d13ecbd902e49a8b43b61ca1b81d8e3da1cbacdf7fd35", func := "arras/arraslaw7.HavePairs", spec := "havePairs", unfollowed := true, recurses := true, apart := false, narrowed := true }
def HavePairsUptoSaid : Prop := havePairsUptoRow.holds Try.pinned (OpenSpec.upto havePairsSpec)

/-- 'arraslaw7.HaveBytes', WHERE WHAT IT READS IS OF BULK AT MOST 1048576: true; the input reads as it did. -/
def haveBytesUptoRow : OpenClaim := { program := "ytponpbcchfbkpaa", sum := "b2dbc8463fa54036302d13ecbd902e49a8b43b61ca1b81d8e3da1cbacdf7fd35", func := "arras/arraslaw7.HaveBytes", spec := "haveBytes", unfollowed := true, recurses := true, apart := false, narrowed := true }
def HaveBytesUptoSaid : Prop := haveBytesUptoRow.holds Try.pinned (OpenSpec.upto haveBytesSpec)

/-- 'arraslaw7.HaveLaws', WHERE WHAT IT READS IS OF BULK AT MOST 1048576: true; the input reads as it did. -/
def haveLawsUptoRow : OpenClaim := { program := "ytponpbcchfbkpaa", sum := "b2dbc8463fa54036302d13ecbd902e49a8b43b61ca1b81d8e3da1cbacdf7fd35", func := "arras/arraslaw7.HaveLaws", spec := "haveLaws", unfollowed := true, recurses := true, apart := false, narrowed := true }
def HaveLawsUptoSaid : Prop := haveLawsUptoRow.holds Try.pinned (OpenSpec.upto haveLawsSpec)

/-- 'arraslaw7.HaveLacks', WHERE WHAT IT READS IS OF BULK AT MOST 1048576: true; the input reads as it did. -/
def haveLacksUptoRow : OpenClaim := { program := "ytponpbcchfbkpaa", sum := "b2dbc8463fa54036302d13ecbd902e49a8b43b61ca1b81d8e3da1cbacdf7fd35", func := "arras/arraslaw7.HaveLacks", spec := "haveLacks", unfollowed := true, recurses := true, apart := false, narrowed := true }
def HaveLacksUptoSaid : Prop := haveLacksUptoRow.holds Try.pinned (OpenSpec.upto haveLacksSpec)

end Rows
end Go.Proofs.Ytponpbcchfbkpaa
