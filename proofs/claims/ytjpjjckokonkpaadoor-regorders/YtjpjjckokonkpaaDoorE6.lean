/- Rows of numbers as bytes. -/
import Derived.Test.YtjpjjckokonkpaaDoorE5
namespace Go.Proofs.YtjpjjckokonkpaaDoor
open Go.RowKit Go.Lib
set_option linter.unusedVariables false

def numsOK (l : List Int) : Bool := l.all numB && decide (l.length ≤ 1024)

theorem encL_take {l : List Int} {k : Nat} (h : k < l.length) : enc l.length ++ encs (l.take (k + 1)) = enc l.length ++ encs (l.take k) ++ enc (l.getD k 0).toNat := by
  rw [take_getD l k h, encs_snoc, List.append_assoc]
theorem encs_take_len {l : List Int} (k : Nat) (h : (l.take k).all numB = true) (hl : l.length ≤ 1024) : (enc l.length ++ encs (l.take k)).length ≤ 9225 := by
  have h1 := encs_len (l.take k) (fun z hz => (List.all_eq_true.1 h) z hz)
  have h2 := enc_len9 (n := l.length) (by omega)
  rw [List.length_append]
  rw [List.length_take] at h1
  omega

def NoPost (w : World) (e : Ending) (w' : World) : Prop := e = .returned (.tuple #[.slice none 0 0, .int .i64 1]) ∧ Below w.heap.size w w'

def NumsPost (w : World) (l : List Int) (e : Ending) (w' : World) : Prop := if numsOK l then BytesPost w (encL l) e w' else NoPost w e w'
theorem numsPost_no {w w' : World} {l : List Int} {e : Ending} (h : numsOK l = false) (hp : NoPost w e w') : NumsPost w l e w' := by unfold NumsPost; rw [h]; exact hp
theorem numsPost_yes {w w' : World} {l : List Int} {e : Ending} (h : numsOK l = true) (hp : BytesPost w (encL l) e w') : NumsPost w l e w' := by unfold NumsPost; rw [h]; exact hp

end Go.Proofs.YtjpjjckokonkpaaDoor
