/- Joined: D29 D31. -/
import Derived.Test.YtdpopdlifcjdeaaDoorYD21
import Derived.Test.YtdpopdlifcjdeaaDoorYD27
import Derived.Test.YtdpopdlifcjdeaaDoorYD14
import Derived.Test.YtdpopdlifcjdeaaDoorYD24
import Derived.Test.YtdpopdlifcjdeaaDoorYD25
import Derived.Test.YtdpopdlifcjdeaaDoorYD28

/- Hold: what Take makes is valid again: mathematics; Take by the page's words. -/
namespace Go.Proofs.YtdpopdlifcjdeaaDoor
open Go.RowKit Go.Lib
set_option linter.unusedVariables false

def Rel (x y : OpD) : Prop := cmpO x y < 0 ∧ sameB x y = false
theorem sameB_comm (x y : OpD) : sameB x y = sameB y x := by
  unfold sameB
  rw [Bool.eq_iff_iff, Bool.and_eq_true, Bool.and_eq_true, beq_iff_eq, beq_iff_eq, beq_iff_eq, beq_iff_eq]
  constructor <;> (rintro ⟨h1, h2⟩; exact ⟨h1.symm, h2.symm⟩)
theorem new_not {v : List Int} {x : OpD} : newB v x = true ↔ decide (x.2 ≤ atV v x) = false := by
  unfold newB
  rw [decide_eq_true_eq, decide_eq_false_iff_not]
  omega
theorem heldPW {v : List Int} {hs : List OpD} : heldB v hs = true ↔ Hv.vecB v = true ∧ hs.length ≤ 16 ∧ (∀ x ∈ hs, fitsB v x = true ∧ readyB v x = false ∧ newB v x = true) ∧ hs.Pairwise Rel := by
  constructor
  · intro h
    have h0 := held_iff.1 h
    refine ⟨h0.1, h0.2.1, fun x hx => ?_, ?_⟩
    · obtain ⟨k, hk⟩ := List.getElem?_of_mem hx
      have h1 := h0.2.2 k (List.getElem?_eq_some_iff.1 hk).1
      rw [heldAt_is hk] at h1
      simp only [Bool.and_eq_true, Bool.not_eq_true', knownB, Bool.or_eq_false_iff] at h1
      exact ⟨h1.1.1.1, h1.1.1.2, new_not.2 h1.1.2.1⟩
    · rw [List.pairwise_iff_getElem]
      intro i j hi hj hij
      have hx := List.getElem?_eq_getElem hi
      have hy := List.getElem?_eq_getElem hj
      refine ⟨held_srt h i j _ _ hij hx hy, ?_⟩
      have h1 := h0.2.2 j hj
      rw [heldAt_is hy] at h1
      simp only [Bool.and_eq_true, Bool.not_eq_true', knownB, Bool.or_eq_false_iff] at h1
      have h2 := h1.1.2.2
      rw [List.any_eq_false] at h2
      have := h2 hs[i] (List.mem_of_getElem? (i := i) (by rw [List.getElem?_take, if_pos hij]; exact hx))
      simpa using this
  · rintro ⟨h1, h2, h3, h4⟩
    refine held_iff.2 ⟨h1, h2, fun k hk => ?_⟩
    have hx := List.getElem?_eq_getElem hk
    obtain ⟨q1, q2, q3⟩ := h3 _ (List.mem_of_getElem? hx)
    rw [List.pairwise_iff_getElem] at h4
    have hkn : knownB v (hs.take k) hs[k] = false := by
      unfold knownB
      rw [Bool.or_eq_false_iff]
      refine ⟨new_not.1 q3, ?_⟩
      rw [List.any_eq_false]
      intro y hy
      obtain ⟨i, hi⟩ := List.getElem?_of_mem hy
      rw [List.getElem?_take] at hi
      split at hi
      · rename_i hik
        have hil := (List.getElem?_eq_some_iff.1 hi).1
        have := (h4 i k hil hk hik).2
        rw [(List.getElem?_eq_some_iff.1 hi).2] at this
        simp [this]
      · cases hi
    rw [heldAt_is hx, q1, q2, hkn]
    cases k with
    | zero => rfl
    | succ j =>
      rw [prevB_succ (List.getElem?_eq_getElem (by omega : j < hs.length))]
      have := (h4 j (j + 1) (by omega) hk (by omega)).1
      simp [this]
theorem freeG_end {hs : List OpD} : ∀ (f : Nat) (v : List Int) (tk : List OpD), cntN v hs ≤ f → (∀ y ∈ hs, fitsB v y = true) → hs.find? (readyB (freeG hs f v tk).1) = none ∧ (∀ y ∈ hs, fitsB (freeG hs f v tk).1 y = true)
  | 0, v, tk, hc, hf => by
    refine ⟨?_, hf⟩
    show hs.find? (readyB v) = none
    rw [List.find?_eq_none]
    intro y hy hr
    have h0 : cntN v hs = 0 := by omega
    unfold cntN at h0
    rw [List.countP_eq_zero] at h0
    apply h0 y hy
    have := ready_new hr
    unfold newB
    rw [decide_eq_true_eq]
    omega
  | f + 1, v, tk, hc, hf => by
    rw [freeG]
    cases h : hs.find? (readyB v) with
    | none => exact ⟨h, hf⟩
    | some x =>
      have hm := List.mem_of_find?_eq_some h
      have hv := (fits_iff.1 (hf x hm)).1
      have := cntN_less hv hf h
      exact freeG_end f (setV v x) (tk ++ [x]) (by omega) (fun y hy => fits_set (hf x hm) (hf y hy))
theorem freeG_mem {hs : List OpD} : ∀ (f : Nat) (v : List Int) (tk : List OpD) (y : OpD), y ∈ (freeG hs f v tk).2 → y ∈ tk ∨ y ∈ hs
  | 0, v, tk, y, h => .inl h
  | f + 1, v, tk, y, h => by
    rw [freeG] at h
    cases hf : hs.find? (readyB v) with
    | none => rw [hf] at h; exact .inl h
    | some x =>
      rw [hf] at h
      rcases freeG_mem f _ _ y h with h | h
      · rcases List.mem_append.1 h with h | h
        · exact .inl h
        · rw [List.mem_singleton] at h
          rw [h]
          exact .inr (List.mem_of_find?_eq_some hf)
      · exact .inr h
theorem freeG_tk {hs : List OpD} : ∀ (f : Nat) (v : List Int) (tk : List OpD), (freeG hs f v tk).2.length ≤ tk.length + f
  | 0, v, tk => Nat.le_refl _
  | f + 1, v, tk => by
    rw [freeG]
    cases hf : hs.find? (readyB v) with
    | none => show tk.length ≤ _; omega
    | some x =>
      have := freeG_tk (hs := hs) f (setV v x) (tk ++ [x])
      rw [List.length_append, List.length_singleton] at this
      show (freeG hs f (setV v x) (tk ++ [x])).2.length ≤ _
      omega
theorem vec_free {hs : List OpD} : ∀ (f : Nat) (v : List Int) (tk : List OpD), Hv.vecB v = true → (∀ y ∈ hs, fitsB v y = true) → Hv.vecB (freeG hs f v tk).1 = true
  | 0, v, tk, h, _ => h
  | f + 1, v, tk, h, hf => by
    rw [freeG]
    cases hq : hs.find? (readyB v) with
    | none => exact h
    | some x =>
      have hm := List.mem_of_find?_eq_some hq
      have F := ok_facts (fits_iff.1 (hf x hm)).2.1
      have := F.q0
      exact vec_free f _ _ (vec_set h (by omega) F.q1) (fun y hy => fits_set (hf x hm) (hf y hy))
/-- what is told of an answer: it is valid again, and not too long -/
def GoodT (a : List Int) (b d : List OpD) (z : Int) : Prop := heldB a b = true ∧ (z = 0 ∨ z = 5) ∧ d.length ≤ 17 ∧ (∀ y ∈ d, y.1.ds.length ≤ 16)
theorem takeIs_good {v : List Int} {hs : List OpD} {o : OpD} (hh : heldB v hs = true) (hf : fitsB v o = true) : ∃ a b d z, TakeIs v hs o a b d z ∧ GoodT a b d z := by
  obtain ⟨g1, g2, g3, g4⟩ := heldPW.1 hh
  cases hk : knownB v hs o
  · cases hr : readyB v o
    · cases hfl : (decide (16 ≤ hs.length) || stampB hs o)
      · obtain ⟨p, hp⟩ : ∃ p, PosIs hs o p := by
          have hs0 := held_srt hh
          have key : ∀ n, n ≤ hs.length → ∃ p, p ≤ n ∧ (∀ k x, k < p → hs[k]? = some x → cmpO x o < 0) ∧ (∀ k x, p ≤ k → k < n → hs[k]? = some x → ¬ cmpO x o < 0) := by
            intro n
            induction n with
            | zero => intro _; exact ⟨0, Nat.le_refl _, fun k x hk => absurd hk (Nat.not_lt_zero _), fun k x _ hk => absurd hk (Nat.not_lt_zero _)⟩
            | succ n ih =>
              intro hn
              obtain ⟨p, h1, h2, h3⟩ := ih (by omega)
              obtain ⟨x, hx⟩ : ∃ x, hs[n]? = some x := ⟨_, List.getElem?_eq_getElem (by omega)⟩
              by_cases hc : cmpO x o < 0
              · refine ⟨n + 1, Nat.le_refl _, fun k y hk hy => ?_, fun k y hk hk2 => by omega⟩
                rcases Nat.lt_or_ge k n with h | h
                · exact cmpO_trans (hs0 k n y x h hy hx) hc
                · obtain rfl : k = n := by omega
                  rw [hx] at hy
                  injection hy with hy
                  rw [← hy]; exact hc
              · refine ⟨p, by omega, h2, fun k y hk hk2 hy => ?_⟩
                rcases Nat.lt_or_ge k n with h | h
                · exact h3 k y hk h hy
                · obtain rfl : k = n := by omega
                  rw [hx] at hy
                  injection hy with hy
                  rw [← hy]; exact hc
          obtain ⟨p, h1, h2, h3⟩ := key hs.length (Nat.le_refl _)
          exact ⟨p, h1, h2, fun k x hk hx => h3 k x hk (List.getElem?_eq_some_iff.1 hx).1 hx⟩
        refine ⟨v, hs.take p ++ o :: hs.drop p, [], 0, .inr (.inr (.inr ⟨hk, hr, hfl, rfl, ⟨p, hp, rfl⟩, rfl, rfl⟩)), ?_, .inl rfl, by simp, fun y hy => by simp at hy⟩
        rw [Bool.or_eq_false_iff, decide_eq_false_iff_not] at hfl
        have hkn := hk
        unfold knownB at hkn
        rw [Bool.or_eq_false_iff] at hkn
        have hsm := hkn.2
        rw [List.any_eq_false] at hsm
        have hst := hfl.2
        unfold stampB at hst
        rw [List.any_eq_false] at hst
        refine heldPW.2 ⟨g1, by simp; have := hp.1; omega, fun x hx => ?_, ?_⟩
        · rcases List.mem_append.1 hx with hx | hx
          · exact g3 x (List.mem_of_mem_take hx)
          · rcases List.mem_cons.1 hx with rfl | hx
            · exact ⟨hf, hr, new_not.2 hkn.1⟩
            · exact g3 x (List.mem_of_mem_drop hx)
        · have g5 := g4
          rw [← List.take_append_drop p hs, List.pairwise_append] at g5
          rw [List.pairwise_append, List.pairwise_cons]
          refine ⟨g5.1, ⟨fun y hy => ?_, g5.2.1⟩, fun x hx y hy => ?_⟩
          · obtain ⟨k, hk2⟩ := List.getElem?_of_mem hy
            rw [List.getElem?_drop] at hk2
            have h1 := hp.2.2 (p + k) y (by omega) hk2
            have h2 := hst y (List.mem_of_mem_drop hy)
            have h3 := hsm y (List.mem_of_mem_drop hy)
            refine ⟨?_, by rw [sameB_comm]; simpa using h3⟩
            rw [cmpO_lt] at h1 ⊢
            simp only [decide_eq_true_eq] at h2
            omega
          · rcases List.mem_cons.1 hy with rfl | hy
            · obtain ⟨k, hk2⟩ := List.getElem?_of_mem hx
              rw [List.getElem?_take] at hk2
              split at hk2
              · rename_i hkp
                exact ⟨hp.2.1 k x hkp hk2, by simpa using hsm x (List.mem_of_mem_take hx)⟩
              · cases hk2
            · exact g5.2.2 x hx y hy
      · exact ⟨v, hs, [], 5, .inr (.inr (.inl ⟨hk, hr, hfl, rfl, rfl, rfl, rfl⟩)), hh, .inr rfl, by simp, fun y hy => by simp at hy⟩
    · refine ⟨_, _, _, 0, .inr (.inl ⟨hk, hr, rfl, rfl, rfl⟩), ?_, .inl rfl, ?_, fun y hy => ?_⟩
      · have h1 := freeG_end (hs := hs) hs.length (setV v o) [o] (cntN_le _ _) (fun y hy => fits_set hf (g3 y hy).1)
        have h2 := vec_free (hs := hs) hs.length (setV v o) [o] (fits_iff.1 (fits_set hf hf)).1 (fun y hy => fits_set hf (g3 y hy).1)
        refine heldPW.2 ⟨h2, Nat.le_trans (above_len _ _) g2, fun x hx => ?_, List.Pairwise.filter _ g4⟩
        have hm := List.mem_filter.1 hx
        refine ⟨h1.2 x hm.1, ?_, hm.2⟩
        have := List.find?_eq_none.1 h1.1 x hm.1
        simpa using this
      · have := freeG_tk (hs := hs) hs.length (setV v o) [o]
        simp only [List.length_singleton] at this
        omega
      · rcases freeG_mem _ _ _ y hy with hy | hy
        · rw [List.mem_singleton] at hy
          rw [hy]
          exact (ok_len (fits_iff.1 hf).2.1).2
        · exact (ok_len (fits_iff.1 (g3 y hy).1).2.1).2
  · exact ⟨v, hs, [], 0, .inl ⟨hk, rfl, rfl, rfl, rfl⟩, hh, .inl rfl, by simp, fun y hy => by simp at hy⟩
/-- Take, by the page's words -/
def TakeBy (a : List Int) (b d : List OpD) (z : Int) (w : World) (e : Ending) (w' : World) : Prop := (z = 0 ∧ HTake a b d w e w') ∨ (z = 5 ∧ TakeErr 5 w e w')
theorem take_by (va : Option Addr) (v : List Int) (vn vc : Nat) (ha : Option Addr) (hs : List OpD) (n c : Nat) (o : OpD) (oa : Option Addr) (oc : Nat) (w : World) (ht : Pr.Tab w) (hv : RowK .i64 w va v) (hvn : vn = v.length) (hvl : v.length ≤ 140737488355328) (hr : RowO w ha hs) (hn : n = hs.length) (hl : hs.length * 120 ≤ 140737488355328) (hnc : n ≤ c) (hro : RowK .i64 w oa o.1.ds) (hol : o.1.ds.length ≤ 17592186044416) (hh : heldB v hs = true) (hf : fitsB v o = true) (a : List Int) (b d : List OpD) (z : Int) (hT : TakeIs v hs o a b d z) :
    Calls Tryd.prog 18 #[.slice va vn vc, .slice ha n c, valO o oa o.1.ds.length oc] w (TakeBy a b d z w) := by
  rcases hT with ⟨h1, rfl, rfl, rfl, rfl⟩ | ⟨h1, h2, h3, rfl, rfl⟩ | ⟨h1, h2, h3, rfl, rfl, rfl, rfl⟩ | ⟨h1, h2, h3, rfl, ⟨p, h4, rfl⟩, rfl, rfl⟩
  · exact (take_known va _ vn vc ha _ n c o oa oc w ht hv hvn hvl hr hn hl hnc hro hol hh hf h1).mono fun _ _ h => .inl ⟨rfl, h⟩
  · have h := take_ready va v vn vc ha hs n c o oa oc w ht hv hvn hvl hr hn hl hnc hro hol hh hf h1 h2
    rw [← h3] at h
    exact h.mono fun _ _ h => .inl ⟨rfl, h⟩
  · exact (take_full va _ vn vc ha _ n c o oa oc w ht hv hvn hvl hr hn hl hnc hro hol hh hf h1 h2 h3).mono fun _ _ h => .inr ⟨rfl, h⟩
  · exact (take_held va _ vn vc ha hs n c o oa oc w ht hv hvn hvl hr hn hl hnc hro hol hh hf h1 h2 h3 p h4).mono fun _ _ h => .inl ⟨rfl, h⟩
theorem take_bad (va : Option Addr) (v : List Int) (vn vc : Nat) (ha : Option Addr) (hs : List OpD) (n c : Nat) (o : OpD) (oa : Option Addr) (oc : Nat) (w : World) (ht : Pr.Tab w) (hv : RowK .i64 w va v) (hvn : vn = v.length) (hvl : v.length ≤ 140737488355328) (hr : RowO w ha hs) (hn : n = hs.length) (hl : hs.length * 120 ≤ 140737488355328) (hnc : n ≤ c) (hro : RowK .i64 w oa o.1.ds) (hol : o.1.ds.length ≤ 17592186044416) (hb : (heldB v hs && fitsB v o) = false) :
    Calls Tryd.prog 18 #[.slice va vn vc, .slice ha n c, valO o oa o.1.ds.length oc] w (TakeErr 1 w) := by
  cases hh : heldB v hs
  · exact take_err1 va v vn vc ha hs n c o oa oc w ht hv hvn hvl hr hn hl hnc hro hol hh
  · rw [hh, Bool.true_and] at hb
    exact take_err2 va v vn vc ha hs n c o oa oc w ht hv hvn hvl hr hn hl hnc hro hol hh hb
end Go.Proofs.YtdpopdlifcjdeaaDoor

/- Hold: what writing over leaves; numbers held against each other. -/
namespace Go.Proofs.YtdpopdlifcjdeaaDoor
open Go.RowKit Go.Lib
set_option linter.unusedVariables false

theorem eqI_bel (a b : Option Addr) (zs : List Int) (n1 n2 c1 c2 : Nat) (w : World) (ha : RowK .i64 w a zs) (hb : RowK .i64 w b zs) (h1 : n1 = zs.length) (h2 : n2 = zs.length) (hl : zs.length ≤ 140737488355328) :
    Calls Tryd.prog 19 #[.slice a n1 c1, .slice b n2 c2] w (BoolPost w true) := (eqI_yes a b zs n1 n2 c1 c2 w ha hb h1 h2 hl).mono fun e w' ⟨he, m, hw⟩ => ⟨he, by subst hw; exact below_drewN (Below.refl _ _) m⟩
theorem own_moved {w W : World} {base e size n : Nat} {v : Value} {L : List Value} (h : w.ownsRow base e size v n L) (hk : ∀ g, v.ownBlock = some g → W.heap[g]? = w.heap[g]?) : W.ownsRow base e size v n L := by
  refine ⟨h.1, ?_⟩
  rcases h.2 with hn | ⟨g, cap, cur, e1, h1, h2, h3⟩
  · exact .inl hn
  · refine .inr ⟨g, cap, cur, e1, h1, ?_, h3⟩
    rw [hk g (by rw [e1]; rfl)]
    exact h2
section
variable {S : Nat → Prop} {w W : World}
theorem OnlyB.ownK {base : Nat} {v : Value} {zs : List Int} (ho : OnlyB S w W) (h : OwnK .i64 3 w base v zs) (hn : ∀ k, v.ownBlock = some k → ¬ S k) : OwnK .i64 3 W base v zs := own_moved h fun g hg => ho.block g (h.lt hg).2 (hn g hg)
theorem OnlyB.ownO {base : Nat} {v : Value} {os : List OpD} {dl : List Value} (ho : OnlyB S w W) (h : OwnO w base v os dl) (hn : ∀ k, v.ownBlock = some k → ¬ S k) : OwnO W base v os dl := ⟨h.len, own_moved h.own fun g hg => ho.block g (h.lt hg).2 (hn g hg)⟩
theorem OnlyB.depsO {base : Nat} {os : List OpD} {dl : List Value} (ho : OnlyB S w W) (h : DepsO w base os dl) (hn : ∀ d ∈ dl, ∀ k, d.ownBlock = some k → ¬ S k) : DepsO W base os dl :=
  ⟨fun i x d hi hd => ⟨ho.ownK (h.own i x d hi hd).1 (hn d (List.mem_of_getElem? hd)), (h.own i x d hi hd).2⟩, h.apart⟩
theorem OnlyB.bel {B : Nat} {a : World} (ho : OnlyB S w W) (hb : Below B a w) (hB : B ≤ w.heap.size) (hS : ∀ k, S k → B ≤ k) : Below B a W :=
  hb.trans ⟨ho.os, ho.tape, ho.output, ho.size, fun k hk => ho.block k (by omega) fun h => by have := hS k h; omega⟩
theorem OnlyB.cell {b i : Nat} {v : Value} (ho : OnlyB S w W) (h : w.cell? ⟨b, i, none⟩ = some v) (hn : ¬ S b) : W.cell? ⟨b, i, none⟩ = some v := by
  have hb := World.block_lt_of_cell? _ _ h
  have e := ho.block b hb hn
  simp only [World.cell?] at h ⊢
  rw [e]
  exact h
theorem OnlyB.rowK {T : Nat} {a : Option Addr} {zs : List Int} (ho : OnlyB S w W) (h : RowK .i64 w a zs) (hg : RowGe T a zs) (hS : ∀ k, S k → k < T) : RowK .i64 W a zs := fun i hi => by
  obtain ⟨b, off, rfl, hc⟩ := h i hi
  obtain ⟨b', off', e, hT⟩ := hg (by omega)
  simp only [Option.some.injEq, Addr.mk.injEq] at e
  obtain ⟨rfl, rfl, _⟩ := e
  exact ⟨b, off, rfl, ho.cell hc fun h => by have := hS b h; omega⟩
theorem RowGeO.row {B : Nat} {a : Option Addr} {os : List OpD} (h : RowGeO B w a os) : RowO w a os := fun i x hi => by
  obtain ⟨g, off, rfl, -, da, dc, hat, hr, -, hl⟩ := h i x hi
  exact ⟨g, off, rfl, da, dc, hat, hr, hl⟩
theorem OnlyB.rowO {T : Nat} {a : Option Addr} {os : List OpD} (ho : OnlyB S w W) (h : RowGeO T w a os) (hS : ∀ k, S k → k < T) : RowGeO T W a os := fun i x hi => by
  obtain ⟨g, off, rfl, hg, da, dc, hat, hr, hge, hl⟩ := h i x hi
  have hn : ¬ S g := fun q => by have := hS g q; omega
  exact ⟨g, off, rfl, hg, da, dc, ⟨ho.cell hat.c0 hn, ho.cell hat.c1 hn, ho.cell hat.c2 hn, ho.cell hat.c3 hn, ho.cell hat.c4 hn, ho.cell hat.c5 hn, ho.cell hat.c6 hn, ho.cell hat.c7 hn, ho.cell hat.c8 hn, ho.cell hat.c9 hn, ho.cell hat.c10 hn, ho.cell hat.c11 hn⟩, ho.rowK hr hge hS, hge, hl⟩
end
theorem RowGeO.below {B : Nat} {w w' : World} {a : Option Addr} {os : List OpD} (h : RowGeO B w a os) (hb : Below w.heap.size w w') : RowGeO B w' a os := fun i x hi => by
  obtain ⟨g, off, rfl, hg, da, dc, hat, hr, hge, hl⟩ := h i x hi
  exact ⟨g, off, rfl, hg, da, dc, hat.next hb, hr.below hb (Nat.le_refl _), hge, hl⟩
/-- the blocks that are written over lie from wS on and ahead of T -/
def Sp (wS : World) (T : Nat) (k : Nat) : Prop := wS.heap.size ≤ k ∧ k < T
/-- what the program's take has made, in a world from wS on, all of it ahead of T -/
structure SpT (wS W : World) (B T : Nat) (wv lv tv : Value) (a : List Int) (b d : List OpD) (dl1 dl2 : List Value) : Prop where
  vec : OwnK .i64 3 W wS.heap.size wv a
  hld : OwnO W B lv b dl1
  hdp : DepsO W B b dl1
  tak : OwnO W wS.heap.size tv d dl2
  tdp : DepsO W wS.heap.size d dl2
  apt : ∀ x ∈ dl2, x.ownBlock = none ∨ x.ownBlock ≠ wv.ownBlock
  vlt : ∀ g, wv.ownBlock = some g → g < B
  tlt : ∀ g, tv.ownBlock = some g → g < B
  dlt : ∀ x ∈ dl2, ∀ g, x.ownBlock = some g → g < B
  hB : wS.heap.size ≤ B
  BT : B ≤ T
  TW : T ≤ W.heap.size
  lT1 : ∀ g, lv.ownBlock = some g → g < T
  lT2 : ∀ x ∈ dl1, ∀ g, x.ownBlock = some g → g < T
theorem dep_of {w : World} {base : Nat} {os : List OpD} {dl : List Value} {v : Value} (h : OwnO w base v os dl) (hd : DepsO w base os dl) {d : Value} (hm : d ∈ dl) : ∃ x : OpD, OwnK .i64 3 w base d x.1.ds := by
  obtain ⟨i, hi⟩ := List.getElem?_of_mem hm
  obtain ⟨x, hx⟩ : ∃ x, os[i]? = some x := ⟨_, List.getElem?_eq_getElem (by have := (List.getElem?_eq_some_iff.1 hi).1; rw [← h.len]; exact this)⟩
  exact ⟨x, (hd.own i x d hx hi).1⟩
theorem spt_of {wS W : World} {wv lv tv : Value} {a : List Int} {b d : List OpD} (h : TkO wS W wv lv tv a b d) : ∃ B dl1 dl2, SpT wS W B W.heap.size wv lv tv a b d dl1 dl2 := by
  obtain ⟨B, dl1, dl2, h1, h2, h3, h4, h5, h6, h7, h8, h9, h10, h11⟩ := h
  refine ⟨min B W.heap.size, dl1, dl2, h1, h2.mono (Nat.min_le_left _ _), h3.mono (Nat.min_le_left _ _), h4, h5, h6, fun g hg => ?_, fun g hg => ?_, fun x hx g hg => ?_, ?_, Nat.min_le_right _ _, Nat.le_refl _, fun g hg => (h2.lt hg).2, fun x hx g hg => ?_⟩
  · have e1 := h7 g hg; have e2 := (h1.lt hg).2; omega
  · have e1 := h8 g hg; have e2 := (h4.lt hg).2; omega
  · obtain ⟨y, hy⟩ := dep_of h4 h5 hx
    have e1 := h9 x hx g hg; have e2 := (hy.lt hg).2; omega
  · have := h11.size; omega
  · obtain ⟨y, hy⟩ := dep_of h2 h3 hx
    exact (hy.lt hg).2
section
variable {wS W W' : World} {B T : Nat} {wv lv tv : Value} {a : List Int} {b d : List OpD} {dl1 dl2 : List Value}
theorem SpT.below (h : SpT wS W B T wv lv tv a b d dl1 dl2) (hb : Below W.heap.size W W') : SpT wS W' B T wv lv tv a b d dl1 dl2 :=
  ⟨h.vec.below hb, h.hld.below hb, h.hdp.below hb, h.tak.below hb, h.tdp.below hb, h.apt, h.vlt, h.tlt, h.dlt, h.hB, h.BT, Nat.le_trans h.TW hb.size, h.lT1, h.lT2⟩
theorem SpT.s1 (h : SpT wS W B T wv lv tv a b d dl1 dl2) (hg : W.grownBy W' wv.ownBlock) : OnlyB (Sp wS T) W W' ∧ OwnO W' B lv b dl1 ∧ DepsO W' B b dl1 ∧ OwnO W' wS.heap.size tv d dl2 ∧ DepsO W' wS.heap.size d dl2 := by
  have ob : OnlyB (fun k => wv.ownBlock = some k) W W' := (OnlyB.refl _ W).grown hg fun k hk => hk
  refine ⟨ob.mono fun k hk => ⟨(h.vec.lt hk).1, Nat.lt_of_lt_of_le (h.vlt k hk) h.BT⟩, ob.ownO h.hld fun k hk q => ?_, ob.depsO h.hdp fun x hx k hk q => ?_, ob.ownO h.tak fun k hk q => ?_, ob.depsO h.tdp fun x hx k hk q => ?_⟩
  · have e1 := (h.hld.lt hk).1; have e2 := h.vlt k q; omega
  · obtain ⟨y, hy⟩ := dep_of h.hld h.hdp hx
    have e1 := (hy.lt hk).1; have e2 := h.vlt k q; omega
  · rcases apart_types h.vec h.tak with e | e
    · rw [e] at q; cases q
    · exact e (q.trans hk.symm)
  · rcases h.apt x hx with e | e
    · rw [e] at hk; cases hk
    · exact e (hk.trans q.symm)
theorem SpT.s2 (h : SpT wS W B T wv lv tv a b d dl1 dl2) {W1 W2 : World} (ht : OwnO W1 wS.heap.size tv d dl2) (hd : DepsO W1 wS.heap.size d dl2) (hob : OnlyB (fun k => lv.ownBlock = some k ∨ ∃ x ∈ dl1, x.ownBlock = some k) W1 W2) : OnlyB (Sp wS T) W1 W2 ∧ OwnO W2 wS.heap.size tv d dl2 ∧ DepsO W2 wS.heap.size d dl2 := by
  have ge : ∀ k, (lv.ownBlock = some k ∨ ∃ x ∈ dl1, x.ownBlock = some k) → B ≤ k ∧ k < T := fun k hk => by
    rcases hk with hk | ⟨x, hx, hk⟩
    · exact ⟨(h.hld.lt hk).1, h.lT1 k hk⟩
    · obtain ⟨y, hy⟩ := dep_of h.hld h.hdp hx
      exact ⟨(hy.lt hk).1, h.lT2 x hx k hk⟩
  refine ⟨hob.mono fun k hk => ⟨Nat.le_trans h.hB (ge k hk).1, (ge k hk).2⟩, hob.ownO ht fun k hk q => ?_, hob.depsO hd fun x hx k hk q => ?_⟩
  · have e1 := (ge k q).1; have e2 := h.tlt k hk; omega
  · have e1 := (ge k q).1; have e2 := h.dlt x hx k hk; omega
theorem SpT.s3 (h : SpT wS W B T wv lv tv a b d dl1 dl2) {W2 W3 : World} (hob : OnlyB (fun k => tv.ownBlock = some k ∨ ∃ x ∈ dl2, x.ownBlock = some k) W2 W3) : OnlyB (Sp wS T) W2 W3 := hob.mono fun k hk => by
  rcases hk with hk | ⟨x, hx, hk⟩
  · exact ⟨(h.tak.lt hk).1, Nat.lt_of_lt_of_le (h.tlt k hk) h.BT⟩
  · obtain ⟨y, hy⟩ := dep_of h.tak h.tdp hx
    exact ⟨(hy.lt hk).1, Nat.lt_of_lt_of_le (h.dlt x hx k hk) h.BT⟩
end
end Go.Proofs.YtdpopdlifcjdeaaDoor
