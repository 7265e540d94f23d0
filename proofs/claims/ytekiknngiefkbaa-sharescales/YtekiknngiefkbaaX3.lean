/- The page's own way to divide a total comes to the same. -/
import Derived.Test.YtekiknngiefkbaaX2
import Derived.OneCell
namespace Go.Proofs.Ytekiknngiefkbaa
open Go.Shelf Go.RowKit Go.Lib Go.Sort Go.Proofs

theorem hit_up (ord : List Nat) (t i : Nat) : hit ord 0 (t + 1) i = (hit ord 0 t i || (ord.getD t 0 == i)) := by
  rw [Bool.eq_iff_iff, hit_iff, Bool.or_eq_true, hit_iff, beq_iff_eq]
  constructor
  · rintro ⟨s, h1, h2, h3⟩
    by_cases e : s = t
    · subst e; exact .inr h3
    · exact .inl ⟨s, h1, by omega, h3⟩
  · rintro (⟨s, h1, h2, h3⟩ | h3)
    · exact ⟨s, h1, by omega, h3⟩
    · exact ⟨t, Nat.zero_le _, by omega, h3⟩

def gotT (qs : List Int) (ord : List Nat) (n t : Nat) : List Int := (List.range n).map fun i => gotL qs ord 0 t i
def rstT (rs : List Int) (ord : List Nat) (n t : Nat) : List Int := (List.range n).map fun i => if hit ord 0 t i then -1 else rs.getD i 0
theorem gotT_len (qs : List Int) (ord : List Nat) (n t : Nat) : (gotT qs ord n t).length = n := by simp [gotT]
theorem rstT_len (rs : List Int) (ord : List Nat) (n t : Nat) : (rstT rs ord n t).length = n := by simp [rstT]
theorem range_getD (f : Nat → Int) (n i : Nat) (h : i < n) : ((List.range n).map f).getD i 0 = f i := by
  rw [List.getD_eq_getElem?_getD, List.getElem?_map, List.getElem?_range h]; rfl
theorem list_ext_getD {xs ys : List Int} (hl : xs.length = ys.length) (h : ∀ i, i < xs.length → xs.getD i 0 = ys.getD i 0) : xs = ys := by
  apply List.ext_getElem hl
  intro i h1 h2
  have := h i h1
  rw [List.getD_eq_getElem?_getD, List.getD_eq_getElem?_getD, List.getElem?_eq_getElem h1, List.getElem?_eq_getElem h2] at this
  exact this
theorem set_getD (xs : List Int) (j : Nat) (z : Int) (i : Nat) (h : i < xs.length) : (xs.set j z).getD i 0 = if j = i then z else xs.getD i 0 := by
  rw [List.getD_eq_getElem?_getD, List.getElem?_set]
  by_cases e : j = i
  · subst e; rw [if_pos rfl, if_pos rfl, if_pos h]; rfl
  · rw [if_neg e, if_neg e, List.getD_eq_getElem?_getD]

theorem gotT_zero (qs : List Int) (ord : List Nat) (n : Nat) (hn : qs.length = n) : gotT qs ord n 0 = qs := by
  apply list_ext_getD (by rw [gotT_len, hn])
  intro i hi
  rw [gotT_len] at hi
  unfold gotT
  rw [range_getD _ n i hi]
  unfold gotL
  rw [hit_none]; simp
theorem rstT_zero (rs : List Int) (ord : List Nat) (n : Nat) (hn : rs.length = n) : rstT rs ord n 0 = rs := by
  apply list_ext_getD (by rw [rstT_len, hn])
  intro i hi
  rw [rstT_len] at hi
  unfold rstT
  rw [range_getD _ n i hi, hit_none]; simp

theorem OrdOk.hit_not {rs : List Int} {ord : List Nat} (h : OrdOk rs ord) {t : Nat} (ht : t < rs.length) : hit ord 0 t (ord.getD t 0) = false := by
  rw [← Bool.not_eq_true, hit_iff]
  rintro ⟨s, h1, h2, h3⟩
  have := h.inj (by omega) ht h3
  omega
theorem OrdOk.surj {rs : List Int} {ord : List Nat} (h : OrdOk rs ord) {x : Nat} (hx : x < rs.length) : ∃ s, s < rs.length ∧ ord.getD s 0 = x := by
  have hm : x ∈ ord := h.perm.mem_iff.2 (List.mem_range.2 hx)
  obtain ⟨s, hs, e⟩ := List.getElem_of_mem hm
  refine ⟨s, by rw [← h.length]; exact hs, ?_⟩
  rw [List.getD_eq_getElem?_getD, List.getElem?_eq_getElem hs]; exact e

theorem gotT_step {rs qs : List Int} {ord : List Nat} (h : OrdOk rs ord) {t : Nat} (ht : t < rs.length) : (gotT qs ord rs.length t).set (ord.getD t 0) ((gotT qs ord rs.length t).getD (ord.getD t 0) 0 + 1) = gotT qs ord rs.length (t + 1) := by
  apply list_ext_getD (by rw [List.length_set, gotT_len, gotT_len])
  intro i hi
  rw [List.length_set, gotT_len] at hi
  rw [set_getD _ _ _ _ (by rw [gotT_len]; exact hi)]
  unfold gotT
  rw [range_getD _ _ i hi, range_getD _ _ i hi, range_getD _ _ _ (h.lt ht)]
  unfold gotL
  rw [hit_up ord t i]
  by_cases e : ord.getD t 0 = i
  · subst e
    rw [if_pos rfl, h.hit_not ht]; simp
  · rw [if_neg e, show (ord.getD t 0 == i) = false from beq_eq_false_iff_ne.2 e, Bool.or_false]
theorem rstT_step (rs : List Int) (ord : List Nat) (t : Nat) : (rstT rs ord rs.length t).set (ord.getD t 0) (-1) = rstT rs ord rs.length (t + 1) := by
  apply list_ext_getD (by rw [List.length_set, rstT_len, rstT_len])
  intro i hi
  rw [List.length_set, rstT_len] at hi
  rw [set_getD _ _ _ _ (by rw [rstT_len]; exact hi)]
  unfold rstT
  rw [range_getD _ _ i hi, range_getD _ _ i hi]
  rw [hit_up ord t i]
  by_cases e : ord.getD t 0 = i
  · subst e
    rw [if_pos rfl]; simp
  · rw [if_neg e, show (ord.getD t 0 == i) = false from beq_eq_false_iff_ne.2 e, Bool.or_false]

/-- the first of the largest rests that are left is the next one of the order -/
theorem best_is {rs : List Int} {ord : List Nat} (h : OrdOk rs ord) (h0 : ∀ i, i < rs.length → 0 ≤ rs.getD i 0) (h256 : rs.length ≤ 256) {t b : Nat} (ht : t < rs.length) (hb : b < rs.length)
    (hmax : ∀ j, j < rs.length → (rstT rs ord rs.length t).getD j 0 ≤ (rstT rs ord rs.length t).getD b 0 ∧ (j < b → (rstT rs ord rs.length t).getD j 0 < (rstT rs ord rs.length t).getD b 0)) : b = ord.getD t 0 := by
  have hx := h.lt ht
  have hm := hmax _ hx
  unfold rstT at hm
  rw [range_getD _ _ _ hx, range_getD _ _ _ hb, h.hit_not ht] at hm
  simp only [Bool.false_eq_true, if_false] at hm
  have hx0 := h0 _ hx
  cases hbh : hit ord 0 t b with
  | true => rw [hbh] at hm; simp only [if_true] at hm; omega
  | false =>
    rw [hbh] at hm
    simp only [Bool.false_eq_true, if_false] at hm
    obtain ⟨s, hs, e⟩ := h.surj hb
    by_cases c1 : s < t
    · have : hit ord 0 t b = true := (hit_iff ord 0 t b).2 ⟨s, Nat.zero_le _, c1, e⟩
      rw [hbh] at this; cases this
    · by_cases c2 : s = t
      · subst c2; exact e.symm
      · have hk := h.up t s (by omega) (by rw [h.length]; exact hs)
        rw [e] at hk
        unfold keyR at hk
        generalize ord.getD t 0 = x at *
        generalize rs.getD x 0 = p at *
        generalize rs.getD b 0 = q at *
        exfalso
        by_cases c3 : x < b
        · have := hm.2 c3; omega
        · omega

theorem OwnI.setOther {w : World} {base g g' cap n j : Nat} {zs : List Int} {u : Value} (h : OwnI w base (.slice (some ⟨g, 0, none⟩) n cap) zs) (hne : g ≠ g') : OwnI (w.setCell ⟨g', j, none⟩ u) base (.slice (some ⟨g, 0, none⟩) n cap) zs :=
  ownsRow_setCell_other h (a := ⟨g', j, none⟩) (by simp [Value.ownBlock]; exact hne) u
theorem OwnI.drewN {w : World} {base : Nat} {v : Value} {zs : List Int} (h : OwnI w base v zs) (n : Nat) : OwnI (w.drewN n) base v zs := h
theorem OwnI.some_ {w : World} {base n : Nat} {v : Value} {zs : List Int} (h : OwnI w base v zs) (hn : zs.length = n) (h0 : 0 < n) : ∃ g cap, v = .slice (some ⟨g, 0, none⟩) n cap := by
  subst hn
  rcases h.2 with ⟨_, h1⟩ | ⟨g, cap, cur, rfl, _⟩
  · omega
  · exact ⟨g, cap, rfl⟩
theorem below_drewN {B : Nat} {a w : World} (h : Below B a w) (n : Nat) : Below B a (w.drewN n) := ⟨h.os, h.tape, h.output, h.size, h.block⟩
end Go.Proofs.Ytekiknngiefkbaa
