/- Contracts in one form, whether refused or not. -/
import Derived.Test.YtjpjjckokonkpaaDoorE8
import Derived.Deep.CutRange
namespace Go.Proofs.YtjpjjckokonkpaaDoor
open Go.RowKit Go.Lib
set_option linter.unusedVariables false

theorem RowK.ofOwn {kd : IntKind} {e : TypeId} {w : World} {base : Nat} {a : Option Addr} {n c : Nat} {zs : List Int} (h : OwnK kd e w base (.slice a n c) zs) : RowK kd w a zs ∧ n = zs.length ∧ zs.length ≤ c := by
  obtain ⟨a', c', e', hr, hc, _⟩ := h.form
  simp only [Value.slice.injEq] at e'
  obtain ⟨rfl, rfl, rfl⟩ := e'
  exact ⟨hr, rfl, hc⟩

def errC (b : Bool) : Int := if b then 0 else 1
def numE (z : Int) : List Int := if numB z then enc z.toNat else []
def textB (s : ByteArray) : Bool := decide (s.size ≤ 65536)
def textE (s : ByteArray) : List Int := if textB s then enc s.size ++ strN s else []
def numsE (l : List Int) : List Int := if numsOK l then encL l else []
def BothPost (w : World) (zs : List Int) (c : Int) (e : Ending) (w' : World) : Prop := ∃ v, e = .returned (.tuple #[v, .int .i64 c]) ∧ OwnK .u8 5 w' w.heap.size v zs ∧ Below w.heap.size w w'

theorem numE_len (z : Int) : (numE z).length ≤ 9 := by
  unfold numE
  split
  · rename_i h; simp only [numB, decide_eq_true_eq] at h; exact enc_len9 (by omega)
  · simp
theorem textE_len (s : ByteArray) (h : s.size ≤ 65546) : (textE s).length ≤ 65555 := by
  unfold textE
  split
  · have := enc_len9 (n := s.size) (by omega); rw [List.length_append, strN_len]; omega
  · simp
theorem numsE_len (l : List Int) : (numsE l).length ≤ 9225 := by
  unfold numsE
  split
  · rename_i h
    unfold numsOK at h
    simp only [Bool.and_eq_true, decide_eq_true_eq] at h
    have := encs_take_len l.length (l := l) (by rw [List.take_length]; exact h.1) h.2
    rw [List.take_length] at this
    exact this
  · simp
theorem numE_isB (z : Int) : IsB (numE z) := by unfold numE; split; exact enc_isB _; exact IsB.nil
theorem textE_isB (s : ByteArray) : IsB (textE s) := by unfold textE; split; exact (enc_isB _).app (strN_isB s); exact IsB.nil
theorem numsE_isB (l : List Int) : IsB (numsE l) := by unfold numsE; split; exact encL_isB l; exact IsB.nil

theorem quiet_left {P : Program} {f : FuncId} {args : Array Value} {w : World} {n : Nat} {v : Value}
    (h : Calls P f args (w.drewN n) fun e w' => e = .returned v ∧ w.drewN n = w') : Calls P f args (w.drewN n) fun e w'' => e = .returned v ∧ ∃ m, w'' = w.drewN m :=
  h.mono fun _ _ ⟨he, hm⟩ => ⟨he, n, hm.symm⟩
end Go.Proofs.YtjpjjckokonkpaaDoor
