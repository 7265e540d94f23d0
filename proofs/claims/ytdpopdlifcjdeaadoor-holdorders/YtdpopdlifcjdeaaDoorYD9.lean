/- Joined: D9. -/
import Derived.Test.YtdpopdlifcjdeaaDoorYD8

/- Hold: what one operation sets free: mathematics. -/
namespace Go.Proofs.YtdpopdlifcjdeaaDoor
open Go.RowKit Go.Lib
set_option linter.unusedVariables false

def setV (v : List Int) (x : OpD) : List Int := v.set x.1.r.toNat x.2
/-- as long as one is ready the first one is taken -/
def freeG (hs : List OpD) : Nat → List Int → List OpD → List Int × List OpD
  | 0, v, tk => (v, tk)
  | f + 1, v, tk => match hs.find? (readyB v) with
    | none => (v, tk)
    | some x => freeG hs f (setV v x) (tk ++ [x])
def cntN (v : List Int) (hs : List OpD) : Nat := hs.countP (newB v)
theorem setV_len (v : List Int) (x : OpD) : (setV v x).length = v.length := List.length_set
theorem freeG_none {hs : List OpD} {f : Nat} {v : List Int} {tk : List OpD} (h : hs.find? (readyB v) = none) : freeG hs f v tk = (v, tk) := by
  cases f with
  | zero => rfl
  | succ f => rw [freeG, h]
theorem freeG_some {hs : List OpD} {f : Nat} {v : List Int} {tk : List OpD} {x : OpD} (h : hs.find? (readyB v) = some x) : freeG hs (f + 1) v tk = freeG hs f (setV v x) (tk ++ [x]) := by rw [freeG, h]
theorem atV_set {v : List Int} {x : OpD} (y : OpD) (hx : 0 ≤ x.1.r) (hl : x.1.r.toNat < v.length) (hy : 0 ≤ y.1.r) : atV (setV v x) y = if y.1.r = x.1.r then x.2 else atV v y := by
  unfold atV setV
  rw [List.getD_eq_getElem?_getD, List.getElem?_set, List.getD_eq_getElem?_getD]
  by_cases h : y.1.r = x.1.r
  · rw [if_pos h, if_pos (by rw [h]), if_pos hl]
    rfl
  · rw [if_neg h, if_neg (by omega)]
theorem ready_new {v : List Int} {x : OpD} (h : readyB v x = true) : atV v x = x.2 - 1 := by
  unfold readyB at h
  rw [Bool.and_eq_true, beq_iff_eq] at h
  exact h.1
theorem newB_mono {v : List Int} {x y : OpD} (hx : 0 ≤ x.1.r) (hl : x.1.r.toNat < v.length) (hy : 0 ≤ y.1.r) (hr : atV v x ≤ x.2) (h : newB (setV v x) y = true) : newB v y = true := by
  unfold newB at h ⊢
  rw [decide_eq_true_eq] at h ⊢
  rw [atV_set y hx hl hy] at h
  split at h
  · rename_i e
    have : atV v y = atV v x := by unfold atV; rw [e]
    omega
  · exact h
theorem newB_self {v : List Int} {x : OpD} (hx : 0 ≤ x.1.r) (hl : x.1.r.toNat < v.length) : newB (setV v x) x = false := by
  unfold newB
  rw [atV_set x hx hl hx, if_pos rfl]
  simp
theorem cntN_less {v : List Int} {hs : List OpD} {x : OpD} (hv : Hv.vecB v = true) (hf : ∀ y ∈ hs, fitsB v y = true) (h : hs.find? (readyB v) = some x) : cntN (setV v x) hs < cntN v hs := by
  have hm := List.mem_of_find?_eq_some h
  have hr := ready_new (List.find?_some h)
  have h1 := fits_lt (hf x hm)
  have key : ∀ l : List OpD, (∀ y ∈ l, fitsB v y = true) → cntN (setV v x) l ≤ cntN v l ∧ (x ∈ l → cntN (setV v x) l < cntN v l) := by
    intro l
    induction l with
    | nil => intro _; exact ⟨Nat.le_refl _, fun h => by simp at h⟩
    | cons y l ih =>
      intro hl
      obtain ⟨i1, i2⟩ := ih (fun z hz => hl z (List.mem_cons_of_mem _ hz))
      have hy := fits_lt (hl y (List.mem_cons_self ..))
      have hmono := newB_mono h1.2 h1.1 hy.2 (by omega : atV v x ≤ x.2)
      unfold cntN at *
      rw [List.countP_cons, List.countP_cons]
      constructor
      · cases ha : newB (setV v x) y
        · simp only [Bool.false_eq_true, if_false]; omega
        · rw [hmono ha]; simp only [if_true]; omega
      · intro hxl
        rcases List.mem_cons.1 hxl with rfl | hxl
        · rw [newB_self h1.2 h1.1]
          rw [show newB v x = true by unfold newB; rw [decide_eq_true_eq]; omega]
          simp only [Bool.false_eq_true, if_false, if_true]; omega
        · have := i2 hxl
          cases ha : newB (setV v x) y
          · simp only [Bool.false_eq_true, if_false]; omega
          · rw [hmono ha]; simp only [if_true]; omega
  exact (key hs hf).2 hm
theorem vec_set {v : List Int} {x : OpD} (hv : Hv.vecB v = true) (h0 : 0 ≤ x.2) (h1 : x.2 ≤ 1099511627776) : Hv.vecB (setV v x) = true := by
  rw [Hv.vecB_iff] at hv ⊢
  rw [setV_len]
  refine ⟨fun i hi => ?_, hv.2⟩
  unfold setV
  rw [List.getD_eq_getElem?_getD, List.getElem?_set]
  split
  · split
    · exact ⟨h0, h1⟩
    · have := hv.1 i hi; omega
  · have := hv.1 i hi
    rwa [List.getD_eq_getElem?_getD] at this
theorem fits_set {v : List Int} {x y : OpD} (hx : fitsB v x = true) (hy : fitsB v y = true) : fitsB (setV v x) y = true := by
  obtain ⟨h1, h2, h3⟩ := fits_iff.1 hy
  have F := ok_facts (fits_iff.1 hx).2.1
  have := F.q0
  exact fits_iff.2 ⟨vec_set h1 (by omega) F.q1, h2, by rw [setV_len]; exact h3⟩
theorem cntN_le (v : List Int) (hs : List OpD) : cntN v hs ≤ hs.length := List.countP_le_length
/-- what is held of a run that stands ahead of a taking -/
structure FrM (hs : List OpD) (fin : List Int × List OpD) (v : List Int) (tk : List OpD) (x : OpD) : Prop where
  fx : fitsB v x = true
  fh : ∀ y ∈ hs, fitsB v y = true
  ct : tk.length + cntN (setV v x) hs ≤ hs.length
  eq : freeG hs (hs.length - tk.length) (setV v x) (tk ++ [x]) = fin
theorem FrM.start {hs : List OpD} {v : List Int} {x : OpD} (hx : fitsB v x = true) (hh : ∀ y ∈ hs, fitsB v y = true) : FrM hs (freeG hs hs.length (setV v x) [x]) v [] x :=
  ⟨hx, hh, by simpa using cntN_le _ _, rfl⟩
theorem FrM.done {hs : List OpD} {fin : List Int × List OpD} {v : List Int} {tk : List OpD} {x : OpD} (h : FrM hs fin v tk x) (hn : hs.find? (readyB (setV v x)) = none) : fin = (setV v x, tk ++ [x]) := by
  rw [← h.eq, freeG_none hn]
theorem FrM.next {hs : List OpD} {fin : List Int × List OpD} {v : List Int} {tk : List OpD} {x y : OpD} (h : FrM hs fin v tk x) (hn : hs.find? (readyB (setV v x)) = some y) : FrM hs fin (setV v x) (tk ++ [x]) y ∧ tk.length + 1 ≤ hs.length := by
  have hv := (fits_iff.1 (fits_set h.fx h.fx)).1
  have hc := cntN_less hv (fun z hz => fits_set h.fx (h.fh z hz)) hn
  have h1 := h.ct
  have hle : tk.length + 1 ≤ hs.length := by omega
  refine ⟨⟨fits_set h.fx (h.fh y (List.mem_of_find?_eq_some hn)), fun z hz => fits_set h.fx (h.fh z hz), ?_, ?_⟩, hle⟩
  · rw [List.length_append, List.length_singleton]; omega
  · have he := h.eq
    rw [show hs.length - tk.length = (hs.length - (tk.length + 1)) + 1 by omega, freeG_some hn] at he
    rw [List.length_append, List.length_singleton]
    exact he
end Go.Proofs.YtdpopdlifcjdeaaDoor
