/- Joined: D29. -/
import Derived.Test.YtdpopdlifcjdeaaDoorYD21
import Derived.Test.YtdpopdlifcjdeaaDoorYD27

/- Hold: what Take makes is valid again: mathematics; Take by the page's words. -/
namespace Go.Proofs.YtdpopdlifcjdeaaDoor
open Go.RowKit Go.Lib
set_option linter.unusedVariables false

def Rel (x y : OpD) : Prop := cmpO x y < 0 ∧ sameB x y = false
theorem sameB_comm (x y : OpD) : sameB x y = sameB y x := by
  unfold sameB
  rw [Bool.eq_iff_iff, Bool.and_eq_true, Bool.and_eq_true, beq_iff_eq, beq_iff_eq, beq_iff_eq, beq_iff_eq]
  constructor <;> (rintro ⟨h1, h2⟩; exact ⟨h1.symm, h2.symm⟩)
theorem new_not {v : List Int} {x : OpD} : newB v x = true ↔ decide (x.2 ≤ atV v x) = false := by
  unfold newB
  rw [decide_eq_true_eq, decide_eq_false_iff_not]
  omega
theorem heldPW {v : List Int} {hs : List OpD} : heldB v hs = true ↔ Hv.vecB v = true ∧ hs.length ≤ 16 ∧ (∀ x ∈ hs, fitsB v x = true ∧ readyB v x = false ∧ newB v x = true) ∧ hs.Pairwise Rel := by
  constructor
  · intro h
    have h0 := held_iff.1 h
    refine ⟨h0.1, h0.2.1, fun x hx => ?_, ?_⟩
    · obtain ⟨k, hk⟩ := List.getElem?_of_mem hx
      have h1 := h0.2.2 k (List.getElem?_eq_some_iff.1 hk).1
      rw [heldAt_is hk] at h1
      simp only [Bool.and_eq_true, Bool.not_eq_true', knownB, Bool.or_eq_false_iff] at h1
      exact ⟨h1.1.1.1, h1.1.1.2, new_not.2 h1.1.2.1⟩
    · rw [List.pairwise_iff_getElem]
      intro i j hi hj hij
      have hx := List.getElem?_eq_getElem hi
      have hy := List.getElem?_eq_getElem hj
      refine ⟨held_srt h i j _ _ hij hx hy, ?_⟩
      have h1 := h0.2.2 j hj
      rw [heldAt_is hy] at h1
      simp only [Bool.and_eq_true, Bool.not_eq_true', knownB, Bool.or_eq_false_iff] at h1
      have h2 := h1.1.2.2
      rw [List.any_eq_false] at h2
      have := h2 hs[i] (List.mem_of_getElem? (i := i) (by rw [List.getElem?_take, if_pos hij]; exact hx))
      simpa using this
  · rintro ⟨h1, h2, h3, h4⟩
    refine held_iff.2 ⟨h1, h2, fun k hk => ?_⟩
    have hx := List.getElem?_eq_getElem hk
    obtain ⟨q1, q2, q3⟩ := h3 _ (List.mem_of_getElem? hx)
    rw [List.pairwise_iff_getElem] at h4
    have hkn : knownB v (hs.take k) hs[k] = false := by
      unfold knownB
      rw [Bool.or_eq_false_iff]
      refine ⟨new_not.1 q3, ?_⟩
      rw [List.any_eq_false]
      intro y hy
      obtain ⟨i, hi⟩ := List.getElem?_of_mem hy
      rw [List.getElem?_take] at hi
      split at hi
      · rename_i hik
        have hil := (List.getElem?_eq_some_iff.1 hi).1
        have := (h4 i k hil hk hik).2
        rw [(List.getElem?_eq_some_iff.1 hi).2] at this
        simp [this]
      · cases hi
    rw [heldAt_is hx, q1, q2, hkn]
    cases k with
    | zero => rfl
    | succ j =>
      rw [prevB_succ (List.getElem?_eq_getElem (by omega : j < hs.length))]
      have := (h4 j (j + 1) (by omega) hk (by omega)).1
      simp [this]
theorem freeG_end {hs : List OpD} : ∀ (f : Nat) (v : List Int) (tk : List OpD), cntN v hs ≤ f → (∀ y ∈ hs, fitsB v y = true) → hs.find? (readyB (freeG hs f v tk).1) = none ∧ (∀ y ∈ hs, fitsB (freeG hs f v tk).1 y = true)
  | 0, v, tk, hc, hf => by
    refine ⟨?_, hf⟩
    show hs.find? (readyB v) = none
    rw [List.find?_eq_none]
    intro y hy hr
    have h0 : cntN v hs = 0 := by omega
    unfold cntN at h0
    rw [List.countP_eq_zero] at h0
    apply h0 y hy
    have := ready_new hr
    unfold newB
    rw [decide_eq_true_eq]
    omega
  | f + 1, v, tk, hc, hf => by
    rw [freeG]
    cases h : hs.find? (readyB v) with
    | none => exact ⟨h, hf⟩
    | some x =>
      have hm := List.mem_of_find?_eq_some h
      have hv := (fits_iff.1 (hf x hm)).1
      have := cntN_less hv hf h
      exact freeG_end f (setV v x) (tk ++ [x]) (by omega) (fun y hy => fits_set (hf x hm) (hf y hy))
theorem freeG_mem {hs : List OpD} : ∀ (f : Nat) (v : List Int) (tk : List OpD) (y : OpD), y ∈ (freeG hs f v tk).2 → y ∈ tk ∨ y ∈ hs
  | 0, v, tk, y, h => .inl h
  | f + 1, v, tk, y, h => by
    rw [freeG] at h
    cases hf : hs.find? (readyB v) with
    | none => rw [hf] at h; exact .inl h
    | some x =>
      rw [hf] at h
      rcases freeG_mem f _ _ y h with h | h
      · rcases List.mem_append.1 h with h | h
        · exact .inl h
        · rw [List.mem_singleton] at h
          rw [h]
          exact .inr (List.mem_of_find?_eq_some hf)
      · exact .inr h
theorem freeG_tk {hs : List OpD} : ∀ (f : Nat) (v : List Int) (tk : List OpD), (freeG hs f v tk).2.length ≤ tk.length + f
  | 0, v, tk => Nat.le_refl _
  | f + 1, v, tk => by
    rw [freeG]
    cases hf : hs.find? (readyB v) with
    | none => show tk.length ≤ _; omega
    | some x =>
      have := freeG_tk (hs := hs) f (setV v x) (tk ++ [x])
      rw [List.length_append, List.length_singleton] at this
      show (freeG hs f (setV v x) (tk ++ [x])).2.length ≤ _
      omega
theorem vec_free {hs : List OpD} : ∀ (f : Nat) (v : List Int) (tk : List OpD), Hv.vecB v = true → (∀ y ∈ hs, fitsB v y = true) → Hv.vecB (freeG hs f v tk).1 = true
  | 0, v, tk, h, _ => h
  | f + 1, v, tk, h, hf => by
    rw [freeG]
    cases hq : hs.find? (readyB v) with
    | none => exact h
    | some x =>
      have hm := List.mem_of_find?_eq_some hq
      have F := ok_facts (fits_iff.1 (hf x hm)).2.1
      have := F.q0
      exact vec_free f _ _ (vec_set h (by omega) F.q1) (fun y hy => fits_set (hf x hm) (hf y hy))
/-- what is told of an answer: it is valid again, and not too long -/
def GoodT (a : List Int) (b d : List OpD) (z : Int) : Prop := heldB a b = true ∧ (z = 0 ∨ z = 5) ∧ d.length ≤ 17 ∧ (∀ y ∈ d, y.1.ds.length ≤ 16)
theorem takeIs_good {v : List Int} {hs : List OpD} {o : OpD} (hh : heldB v hs = true) (hf : fitsB v o = true) : ∃ a b d z, TakeIs v hs o a b d z ∧ GoodT a b d z := by
  obtain ⟨g1, g2, g3, g4⟩ := heldPW.1 hh
  cases hk : knownB v hs o
  · cases hr : readyB v o
    · cases hfl : (decide (16 ≤ hs.length) || stampB hs o)
      · obtain ⟨p, hp⟩ : ∃ p, PosIs hs o p := by
          have hs0 := held_srt hh
          have key : ∀ n, n ≤ hs.length → ∃ p, p ≤ n ∧ (∀ k x, k < p → hs[k]? = some x → cmpO x o < 0) ∧ (∀ k x, p ≤ k → k < n → hs[k]? = some x → ¬ cmpO x o < 0) := by
            intro n
            induction n with
            | zero => intro _; exact ⟨0, Nat.le_refl _, fun k x hk => absurd hk (Nat.not_lt_zero _), fun k x _ hk => absurd hk (Nat.not_lt_zero _)⟩
            | succ n ih =>
              intro hn
              obtain ⟨p, h1, h2, h3⟩ := ih (by omega)
              obtain ⟨x, hx⟩ : ∃ x, hs[n]? = some x := ⟨_, List.getElem?_eq_getElem (by omega)⟩
              by_cases hc : cmpO x o < 0
              · refine ⟨n + 1, Nat.le_refl _, fun k y hk hy => ?_, fun k y hk hk2 => by omega⟩
                rcases Nat.lt_or_ge k n with h | h
                · exact cmpO_trans (hs0 k n y x h hy hx) hc
                · obtain rfl : k = n := by omega
                  rw [hx] at hy
                  injection hy with hy
                  rw [← hy]; exact hc
              · refine ⟨p, by omega, h2, fun k y hk hk2 hy => ?_⟩
                rcases Nat.lt_or_ge k n with h | h
                · exact h3 k y hk h hy
                · obtain rfl : k = n := by omega
                  rw [hx] at hy
                  injection hy with hy
                  rw [← hy]; exact hc
          obtain ⟨p, h1, h2, h3⟩ := key hs.length (Nat.le_refl _)
          exact ⟨p, h1, h2, fun k x hk hx => h3 k x hk (List.getElem?_eq_some_iff.1 hx).1 hx⟩
        refine ⟨v, hs.take p ++ o :: hs.drop p, [], 0, .inr (.inr (.inr ⟨hk, hr, hfl, rfl, ⟨p, hp, rfl⟩, rfl, rfl⟩)), ?_, .inl rfl, by simp, fun y hy => by simp at hy⟩
        rw [Bool.or_eq_false_iff, decide_eq_false_iff_not] at hfl
        have hkn := hk
        unfold knownB at hkn
        rw [Bool.or_eq_false_iff] at hkn
        have hsm := hkn.2
        rw [List.any_eq_false] at hsm
        have hst := hfl.2
        unfold stampB at hst
        rw [List.any_eq_false] at hst
        refine heldPW.2 ⟨g1, by simp; have := hp.1; omega, fun x hx => ?_, ?_⟩
        · rcases List.mem_append.1 hx with hx | hx
          · exact g3 x (List.mem_of_mem_take hx)
          · rcases List.mem_cons.1 hx with rfl | hx
            · exact ⟨hf, hr, new_not.2 hkn.1⟩
            · exact g3 x (List.mem_of_mem_drop hx)
        · have g5 := g4
          rw [← List.take_append_drop p hs, List.pairwise_append] at g5
          rw [List.pairwise_append, List.pairwise_cons]
          refine ⟨g5.1, ⟨fun y hy => ?_, g5.2.1⟩, fun x hx y hy => ?_⟩
          · obtain ⟨k, hk2⟩ := List.getElem?_of_mem hy
            rw [List.getElem?_drop] at hk2
            have h1 := hp.2.2 (p + k) y (by omega) hk2
            have h2 := hst y (List.mem_of_mem_drop hy)
            have h3 := hsm y (List.mem_of_mem_drop hy)
            refine ⟨?_, by rw [sameB_comm]; simpa using h3⟩
            rw [cmpO_lt] at h1 ⊢
            simp only [decide_eq_true_eq] at h2
            omega
          · rcases List.mem_cons.1 hy with rfl | hy
            · obtain ⟨k, hk2⟩ := List.getElem?_of_mem hx
              rw [List.getElem?_take] at hk2
              split at hk2
              · rename_i hkp
                exact ⟨hp.2.1 k x hkp hk2, by simpa using hsm x (List.mem_of_mem_take hx)⟩
              · cases hk2
            · exact g5.2.2 x hx y hy
      · exact ⟨v, hs, [], 5, .inr (.inr (.inl ⟨hk, hr, hfl, rfl, rfl, rfl, rfl⟩)), hh, .inr rfl, by simp, fun y hy => by simp at hy⟩
    · refine ⟨_, _, _, 0, .inr (.inl ⟨hk, hr, rfl, rfl, rfl⟩), ?_, .inl rfl, ?_, fun y hy => ?_⟩
      · have h1 := freeG_end (hs := hs) hs.length (setV v o) [o] (cntN_le _ _) (fun y hy => fits_set hf (g3 y hy).1)
        have h2 := vec_free (hs := hs) hs.length (setV v o) [o] (fits_iff.1 (fits_set hf hf)).1 (fun y hy => fits_set hf (g3 y hy).1)
        refine heldPW.2 ⟨h2, Nat.le_trans (above_len _ _) g2, fun x hx => ?_, List.Pairwise.filter _ g4⟩
        have hm := List.mem_filter.1 hx
        refine ⟨h1.2 x hm.1, ?_, hm.2⟩
        have := List.find?_eq_none.1 h1.1 x hm.1
        simpa using this
      · have := freeG_tk (hs := hs) hs.length (setV v o) [o]
        simp only [List.length_singleton] at this
        omega
      · rcases freeG_mem _ _ _ y hy with hy | hy
        · rw [List.mem_singleton] at hy
          rw [hy]
          exact (ok_len (fits_iff.1 hf).2.1).2
        · exact (ok_len (fits_iff.1 (g3 y hy).1).2.1).2
  · exact ⟨v, hs, [], 0, .inl ⟨hk, rfl, rfl, rfl, rfl⟩, hh, .inl rfl, by simp, fun y hy => by simp at hy⟩
/-- Take, by the page's words -/
def TakeBy (a : List Int) (b d : List OpD) (z : Int) (w : World) (e : Ending) (w' : World) : Prop := (z = 0 ∧ HTake a b d w e w') ∨ (z = 5 ∧ TakeErr 5 w e w')
theorem take_by (va : Option Addr) (v : List Int) (vn vc : Nat) (ha : Option Addr) (hs : List OpD) (n c : Nat) (o : OpD) (oa : Option Addr) (oc : Nat) (w : World) (ht : Pr.Tab w) (hv : RowK .i64 w va v) (hvn : vn = v.length) (hvl : v.length ≤ 140737488355328) (hr : RowO w ha hs) (hn : n = hs.length) (hl : hs.length * 120 ≤ 140737488355328) (hnc : n ≤ c) (hro : RowK .i64 w oa o.1.ds) (hol : o.1.ds.length ≤ 17592186044416) (hh : heldB v hs = true) (hf : fitsB v o = true) (a : List Int) (b d : List OpD) (z : Int) (hT : TakeIs v hs o a b d z) :
    Calls Tryd.prog 18 #[.slice va vn vc, .slice ha n c, valO o oa o.1.ds.length oc] w (TakeBy a b d z w) := by
  rcases hT with ⟨h1, rfl, rfl, rfl, rfl⟩ | ⟨h1, h2, h3, rfl, rfl⟩ | ⟨h1, h2, h3, rfl, rfl, rfl, rfl⟩ | ⟨h1, h2, h3, rfl, ⟨p, h4, rfl⟩, rfl, rfl⟩
  · exact (take_known va _ vn vc ha _ n c o oa oc w ht hv hvn hvl hr hn hl hnc hro hol hh hf h1).mono fun _ _ h => .inl ⟨rfl, h⟩
  · have h := take_ready va v vn vc ha hs n c o oa oc w ht hv hvn hvl hr hn hl hnc hro hol hh hf h1 h2
    rw [← h3] at h
    exact h.mono fun _ _ h => .inl ⟨rfl, h⟩
  · exact (take_full va _ vn vc ha _ n c o oa oc w ht hv hvn hvl hr hn hl hnc hro hol hh hf h1 h2 h3).mono fun _ _ h => .inr ⟨rfl, h⟩
  · exact (take_held va _ vn vc ha hs n c o oa oc w ht hv hvn hvl hr hn hl hnc hro hol hh hf h1 h2 h3 p h4).mono fun _ _ h => .inl ⟨rfl, h⟩
theorem take_bad (va : Option Addr) (v : List Int) (vn vc : Nat) (ha : Option Addr) (hs : List OpD) (n c : Nat) (o : OpD) (oa : Option Addr) (oc : Nat) (w : World) (ht : Pr.Tab w) (hv : RowK .i64 w va v) (hvn : vn = v.length) (hvl : v.length ≤ 140737488355328) (hr : RowO w ha hs) (hn : n = hs.length) (hl : hs.length * 120 ≤ 140737488355328) (hnc : n ≤ c) (hro : RowK .i64 w oa o.1.ds) (hol : o.1.ds.length ≤ 17592186044416) (hb : (heldB v hs && fitsB v o) = false) :
    Calls Tryd.prog 18 #[.slice va vn vc, .slice ha n c, valO o oa o.1.ds.length oc] w (TakeErr 1 w) := by
  cases hh : heldB v hs
  · exact take_err1 va v vn vc ha hs n c o oa oc w ht hv hvn hvl hr hn hl hnc hro hol hh
  · rw [hh, Bool.true_and] at hb
    exact take_err2 va v vn vc ha hs n c o oa oc w ht hv hvn hvl hr hn hl hnc hro hol hh hb
end Go.Proofs.YtdpopdlifcjdeaaDoor
