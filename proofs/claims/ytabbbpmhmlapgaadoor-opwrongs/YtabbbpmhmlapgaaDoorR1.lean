/- A law for a drawn region in which many operations make memory and stand in no order: what is held after any set of operations that have come up (Inv), each operation keeps it. -/
import Derived.Orders
import Derived.Deep.Draws

namespace Go.Proofs.YtabbbpmhmlapgaaDoor
open Go
set_option autoImplicit false

/-- Every operation waits for earlier ones alone. -/
def backB (ops : Array Oper) : Bool := (List.range ops.size).all fun i => ((ops[i]?).map (·.after.all fun e => decide (e.on < i))).getD true

theorem backB_spec {ops : Array Oper} (h : backB ops = true) {i : Nat} {o : Oper} (ho : ops[i]? = some o) : ∀ e ∈ o.after, e.on < i := fun e he => by
  have hlt : i < ops.size := (Array.getElem?_eq_some_iff.1 ho).1
  have := List.all_eq_true.1 h i (List.mem_range.2 hlt)
  simp only [ho, Option.map_some, Option.getD_some, Array.all_eq_true_iff_forall_mem, decide_eq_true_eq] at this
  exact this e he

/-- Where nothing may come up any more, all have. -/
theorem ready_nil_all {ops : Array Oper} {md : Region.Mode} {listed : Array Bool} (hb : backB ops = true) (hs : listed.size = ops.size)
    (h : Region.ready md ops listed = []) : ∀ i, i < ops.size → listed.getD i false = true := fun i => by
  induction i using Nat.strongRecOn with
  | _ i ih =>
    intro hi
    cases hc : listed.getD i false with
    | true => rfl
    | false =>
      exfalso
      have hi' : i < listed.size := by omega
      have hm : i ∈ Region.ready md ops listed := mem_ready.2 ⟨by simpa [Array.getD, hi'] using hc, ops[i], Array.getElem?_eq_some_iff.2 ⟨hi, rfl⟩, fun e he _ => by
        have hl := backB_spec hb (Array.getElem?_eq_some_iff.2 ⟨hi, rfl⟩) e he
        exact ih e.on hl (by omega)⟩
      rw [h] at hm
      simp at hm

theorem count_set {listed : Array Bool} {i : Nat} (h : listed.getD i true = false) : (listed.setIfInBounds i true).toList.count false + 1 = listed.toList.count false := by
  have hi : i < listed.size := by
    by_cases hi : i < listed.size
    · exact hi
    · simp [Array.getD, hi] at h
  have hv : listed.toList[i]'(by simpa using hi) = false := by simpa [Array.getD, hi] using h
  rw [Array.toList_setIfInBounds, List.count_set (by simpa using hi), hv]
  have : 0 < listed.toList.count false := List.count_pos_iff.2 (hv ▸ List.getElem_mem _)
  rw [if_pos (by decide), if_neg (by decide)]
  omega

theorem wpAny_inv {P : Program} {ops : Array Oper} {Q : Exit → Act → World → Prop} {md : Region.Mode} (hb : backB ops = true)
    (Inv : (Nat → Bool) → Act → World → Prop)
    (hst : ∀ i o, ops[i]? = some o → ∀ D a w, Inv D a w → D i = false → (∀ e ∈ o.after, Region.binds md e = true → D e.on = true) →
      wpOp P ops Q i (Inv fun j => if j = i then true else D j) a w)
    (hend : ∀ D a w, Inv D a w → (∀ i, i < ops.size → D i = true) → Q .normal a w) :
    ∀ (fuel : Nat) (listed : Array Bool) (a : Act) (w : World), listed.size = ops.size → listed.toList.count false ≤ fuel →
      Inv (fun j => listed.getD j false) a w → wpAny P md ops Q fuel listed a w
  | 0, listed, a, w, hs, hf, h => by
    have hr : Region.ready md ops listed = [] := by
      apply List.eq_nil_iff_forall_not_mem.2
      intro i hi
      have := count_set (mem_ready.1 hi).1
      omega
    exact ⟨hr, hend _ a w h (ready_nil_all hb hs hr)⟩
  | fuel + 1, listed, a, w, hs, hf, h => by
    refine ⟨fun hr => hend _ a w h (ready_nil_all hb hs hr), fun i hi => ?_⟩
    obtain ⟨hl, o, ho, ha⟩ := mem_ready.1 hi
    have hc := count_set hl
    have hlt : i < ops.size := (Array.getElem?_eq_some_iff.1 ho).1
    have hl' : listed.getD i false = false := by
      have : i < listed.size := by omega
      simpa [Array.getD, this] using hl
    refine wpOp_mono (fun a' w' h' => ?_) (hst i o ho _ a w h hl' ha)
    refine wpAny_inv hb Inv hst hend fuel _ a' w' (by simpa using hs) (by omega) ?_
    have : (fun j => (listed.setIfInBounds i true).getD j false) = fun j => if j = i then true else listed.getD j false := by
      funext j
      by_cases hj : j = i
      · subst hj
        have : j < listed.size := by omega
        simp [Array.getD, this]
      · rw [if_neg hj]; exact getD_set_ne false (fun e => hj e.symm)
    rw [this]
    exact h'

/-- The region's law. -/
theorem wp_region_inv {P : Program} {ops : Array Oper} {Q : Exit → Act → World → Prop} {id : Nat} {a : Act} {w : World}
    (hm : P.follows .mixedOrders = true) (hb : backB ops = true) (Inv : (Nat → Bool) → Act → World → Prop)
    (h0 : Inv (fun _ => false) a { w with drawn := w.drawn + 1 })
    (hst : ∀ i o, ops[i]? = some o → ∀ D a w, Inv D a w → D i = false → (∀ e ∈ o.after, Region.binds .any e = true → D e.on = true) →
      wpOp P ops Q i (Inv fun j => if j = i then true else D j) a w)
    (hend : ∀ D a w, Inv D a w → (∀ i, i < ops.size → D i = true) → Q .normal a w) :
    (Code.region id ops true).wp P Q a w := by
  refine wp_region_any hm (wpAny_inv hb Inv hst hend _ _ a _ (by simp) ?_ ?_)
  · refine Nat.le_trans List.count_le_length ?_
    simp
  · have : (fun j => (Array.replicate ops.size false).getD j false) = fun _ => false := by
      funext j
      by_cases hj : j < ops.size <;> simp [Array.getD, hj]
    rw [this]
    exact h0

end Go.Proofs.YtabbbpmhmlapgaaDoor
