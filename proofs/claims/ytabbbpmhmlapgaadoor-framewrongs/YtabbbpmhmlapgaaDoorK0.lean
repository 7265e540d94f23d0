/- Contracts in one form, whether refused or not. -/
import Derived.Test.YtabbbpmhmlapgaaDoorE8
import Derived.Deep.CutRange
namespace Go.Proofs.YtabbbpmhmlapgaaDoor
open Go.RowKit Go.Lib
set_option linter.unusedVariables false

theorem RowK.ofOwn {kd : IntKind} {e : TypeId} {w : World} {base : Nat} {a : Option Addr} {n c : Nat} {zs : List Int} (h : OwnK kd e w base (.slice a n c) zs) : RowK kd w a zs ∧ n = zs.length ∧ zs.length ≤ c := by
  obtain ⟨a', c', e', hr, hc, _⟩ := h.form
  simp only [Value.slice.injEq] at e'
  obtain ⟨rfl, rfl, rfl⟩ := e'
  exact ⟨hr, rfl, hc⟩

def errC (b : Bool) : Int := if b then 0 else 1
def numE (z : Int) : List Int := if numB z then enc z.toNat else []
def textB (s : ByteArray) : Bool := decide (s.size ≤ 65536)
def textE (s : ByteArray) : List Int := if textB s then enc s.size ++ strN s else []
def numsE (l : List Int) : List Int := if numsOK l then encL l else []
def BothPost (w : World) (zs : List Int) (c : Int) (e : Ending) (w' : World) : Prop := ∃ v, e = .returned (.tuple #[v, .int .i64 c]) ∧ OwnK .u8 5 w' w.heap.size v zs ∧ Below w.heap.size w w'

theorem num_both (z : Int) (w : World) : Calls Tryd.prog 36 #[.int .i64 z] w (BothPost w (numE z) (errC (numB z))) := by
  cases h : numB z
  · refine (num_no z w h).mono ?_
    rintro e w' ⟨rfl, rfl⟩
    exact ⟨_, rfl, by unfold numE; rw [h]; exact OwnK.nil _ _ _ _, Below.refl _ _⟩
  · have h2 := h
    simp only [numB, decide_eq_true_eq] at h2
    have := num_yes z.toNat w (by omega)
    rw [show ((z.toNat : Nat) : Int) = z by omega] at this
    refine this.mono ?_
    rintro e w' ⟨v, rfl, ho, hb⟩
    exact ⟨v, rfl, by unfold numE; rw [h]; exact ho, hb⟩
theorem text_both (s : ByteArray) (w : World) : Calls Tryd.prog 46 #[.string s] w (BothPost w (textE s) (errC (textB s))) := by
  cases h : textB s
  · have h2 := h
    simp only [textB, decide_eq_false_iff_not] at h2
    refine (text_no s w (by omega)).mono ?_
    rintro e w' ⟨rfl, rfl⟩
    exact ⟨_, rfl, by unfold textE; rw [h]; exact OwnK.nil _ _ _ _, Below.refl _ _⟩
  · have h2 := h
    simp only [textB, decide_eq_true_eq] at h2
    refine (text_yes s w h2).mono ?_
    rintro e w' ⟨v, rfl, ho, hb⟩
    exact ⟨v, rfl, by unfold textE; rw [h]; exact ho, hb⟩
theorem nums_both (a : Option Addr) (l : List Int) (cap : Nat) (w : World) (hr : RowK .i64 w a l) (hl : l.length ≤ 140737488355328) : Calls Tryd.prog 54 #[.slice a l.length cap] w (BothPost w (numsE l) (errC (numsOK l))) := by
  refine (nums_any a l cap w hr hl).mono ?_
  intro e w' h
  unfold NumsPost at h
  cases hk : numsOK l
  · rw [hk] at h
    obtain ⟨rfl, hb⟩ := h
    exact ⟨_, rfl, by unfold numsE; rw [hk]; exact OwnK.nil _ _ _ _, hb⟩
  · rw [hk] at h
    obtain ⟨v, rfl, ho, hb⟩ := h
    exact ⟨v, rfl, by unfold numsE; rw [hk]; exact ho, hb⟩

theorem numE_len (z : Int) : (numE z).length ≤ 9 := by
  unfold numE
  split
  · rename_i h; simp only [numB, decide_eq_true_eq] at h; exact enc_len9 (by omega)
  · simp
theorem textE_len (s : ByteArray) (h : s.size ≤ 65546) : (textE s).length ≤ 65555 := by
  unfold textE
  split
  · have := enc_len9 (n := s.size) (by omega); rw [List.length_append, strN_len]; omega
  · simp
theorem numsE_len (l : List Int) : (numsE l).length ≤ 9225 := by
  unfold numsE
  split
  · rename_i h
    unfold numsOK at h
    simp only [Bool.and_eq_true, decide_eq_true_eq] at h
    have := encs_take_len l.length (l := l) (by rw [List.take_length]; exact h.1) h.2
    rw [List.take_length] at this
    exact this
  · simp
theorem numE_isB (z : Int) : IsB (numE z) := by unfold numE; split; exact enc_isB _; exact IsB.nil
theorem textE_isB (s : ByteArray) : IsB (textE s) := by unfold textE; split; exact (enc_isB _).app (strN_isB s); exact IsB.nil
theorem numsE_isB (l : List Int) : IsB (numsE l) := by unfold numsE; split; exact encL_isB l; exact IsB.nil

theorem quiet_left {P : Program} {f : FuncId} {args : Array Value} {w : World} {n : Nat} {v : Value}
    (h : Calls P f args (w.drewN n) fun e w' => e = .returned v ∧ w.drewN n = w') : Calls P f args (w.drewN n) fun e w'' => e = .returned v ∧ ∃ m, w'' = w.drewN m :=
  h.mono fun _ _ ⟨he, hm⟩ => ⟨he, n, hm.symm⟩
end Go.Proofs.YtabbbpmhmlapgaaDoor
