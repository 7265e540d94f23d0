/- What holds of the parts: they add up, none is a unit off, a greater weight has no lesser part. -/
import Derived.Test.YtekiknngiefkbaaX3
namespace Go.Proofs.Ytekiknngiefkbaa
open Go.Shelf Go.RowKit Go.Lib Go.Sort Go.Proofs

theorem perm_sum {l l' : List Int} (h : l.Perm l') : l.sum = l'.sum := by
  induction h with
  | nil => rfl
  | cons x _ ih => simp [ih]
  | swap x y l => simp only [List.sum_cons]; omega
  | trans _ _ ih1 ih2 => exact ih1.trans ih2

theorem ord_sum {rs : List Int} {ord : List Nat} (h : OrdOk rs ord) (f : Nat → Int) : ((List.range rs.length).map f).sum = ((List.range rs.length).map fun t => f (ord.getD t 0)).sum := by
  have e : ord.map f = (List.range rs.length).map fun t => f (ord.getD t 0) := by
    apply List.ext_getElem
    · rw [List.length_map, List.length_map, List.length_range, h.length]
    · intro i h1 h2
      rw [List.length_map] at h1
      rw [List.getElem_map, List.getElem_map, List.getElem_range, List.getD_eq_getElem?_getD, List.getElem?_eq_getElem h1]; rfl
  rw [← e]
  exact (perm_sum (h.perm.map f)).symm

theorem range_sum_step (f : Nat → Int) (n : Nat) : ((List.range (n + 1)).map f).sum = ((List.range n).map f).sum + f n := by
  rw [List.range_succ, List.map_append, List.sum_append]; simp

/-- how many of the first l places: l -/
theorem count_sum (l n : Nat) (h : l ≤ n) : ((List.range n).map fun t => if t < l then (1 : Int) else 0).sum = l := by
  induction n with
  | zero => have : l = 0 := by omega
            subst this; rfl
  | succ n ih =>
    rw [range_sum_step]
    by_cases e : l ≤ n
    · rw [ih e, if_neg (by omega)]; omega
    · have e2 : l = n + 1 := by omega
      subst e2
      have h2 : ∀ m, m ≤ n → ((List.range m).map fun t => if t < n + 1 then (1 : Int) else 0).sum = m := by
        intro m
        induction m with
        | zero => intro _; rfl
        | succ m ihm => intro hm; rw [range_sum_step, ihm (by omega), if_pos (by omega)]; omega
      rw [h2 n (Nat.le_refl _), if_pos (by omega)]; omega

theorem hit_ord {rs : List Int} {ord : List Nat} (h : OrdOk rs ord) {l t : Nat} (hl : l ≤ rs.length) (ht : t < rs.length) : hit ord 0 l (ord.getD t 0) = decide (t < l) := by
  rw [Bool.eq_iff_iff, hit_iff, decide_eq_true_eq]
  constructor
  · rintro ⟨s, _, h2, h3⟩
    have := h.inj (by omega) ht h3
    omega
  · intro h1; exact ⟨t, Nat.zero_le _, h1, rfl⟩

theorem range_map_congr (n : Nat) (f g : Nat → Int) (h : ∀ i, i < n → f i = g i) : (List.range n).map f = (List.range n).map g := by
  apply List.map_congr_left
  intro i hi
  exact h i (List.mem_range.1 hi)

theorem list_range (xs : List Int) : (List.range xs.length).map (fun i => xs.getD i 0) = xs := by
  apply List.ext_getElem
  · simp
  · intro i h1 h2
    rw [List.getElem_map, List.getElem_range, List.getD_eq_getElem?_getD, List.getElem?_eq_getElem h2]; rfl

theorem sum_add_map (n : Nat) (f g : Nat → Int) : ((List.range n).map fun i => f i + g i).sum = ((List.range n).map f).sum + ((List.range n).map g).sum := by
  induction n with
  | zero => rfl
  | succ n ih => rw [range_sum_step, range_sum_step, range_sum_step, ih]; omega

/-- the parts add up to the total -/
theorem split_sum {total : Int} {ws : List Int} {ord : List Nat} (hM : May total ws) (ho : OrdOk (rsL total ws) ord) : (splitL total ws ord).sum = total := by
  have hl := rsL_len total ws
  have hb := left_bd hM
  have h1 : (splitL total ws ord).sum = ((List.range ws.length).map fun i => (qsL total ws).getD i 0).sum + ((List.range ws.length).map fun i => if hit ord 0 (leftI total ws).toNat i then (1 : Int) else 0).sum := by
    unfold splitL gotL
    exact sum_add_map _ _ _
  have h2 := ord_sum ho (fun i => if hit ord 0 (leftI total ws).toNat i then (1 : Int) else 0)
  rw [hl] at h2
  have h3 : ((List.range ws.length).map fun t => if hit ord 0 (leftI total ws).toNat (ord.getD t 0) then (1 : Int) else 0) = (List.range ws.length).map fun t => if t < (leftI total ws).toNat then (1 : Int) else 0 := by
    apply range_map_congr
    intro t ht
    rw [hit_ord ho (by omega) (by omega)]
    simp
  rw [h3, count_sum _ _ (by omega)] at h2
  have h4 := list_range (qsL total ws)
  rw [qsL_len] at h4
  rw [h1, h2, h4]
  have : leftI total ws = total - (qsL total ws).sum := rfl
  omega

/-- who has a unit of the rest has a rest -/
theorem hit_pos {total : Int} {ws : List Int} {ord : List Nat} (hM : May total ws) (ho : OrdOk (rsL total ws) ord) {k : Nat} (hk : k < ws.length) (hh : hit ord 0 (leftI total ws).toNat k = true) : 0 < (rsL total ws).getD k 0 := by
  have hl := rsL_len total ws
  have hb := left_bd hM
  obtain ⟨t, _, ht, e⟩ := (hit_iff _ _ _ _).1 hh
  have hr0 : ∀ i, i < ws.length → 0 ≤ (rsL total ws).getD i 0 ∧ (rsL total ws).getD i 0 ≤ ws.sum - 1 := by
    intro i hi
    rw [show (rsL total ws).getD i 0 = total * ws.getD i 0 % ws.sum from map_getD _ ws i hi]
    have := Int.emod_nonneg (total * ws.getD i 0) (show ws.sum ≠ 0 by have := hM.s0; omega)
    have := Int.emod_lt_of_pos (total * ws.getD i 0) hM.s0
    omega
  apply Int.not_le.1
  intro hc
  have hz : (rsL total ws).getD k 0 = 0 := by have := hr0 k hk; omega
  -- all behind t have none
  have hbeh : ∀ s, t ≤ s → s < ws.length → (rsL total ws).getD (ord.getD s 0) 0 = 0 := by
    intro s h1 h2
    by_cases es : s = t
    · subst es; rw [e]; exact hz
    · have hu := ho.up t s (by omega) (by rw [ho.length]; omega)
      rw [e] at hu
      have h3 := ho.lt (t := s) (by omega)
      rw [hl] at h3
      have h4 := hr0 _ h3
      have h5 := hM.n1
      unfold keyR at hu
      rw [hz] at hu
      omega
  have hsum : ∀ n, n ≤ ws.length → ((List.range n).map fun s => (rsL total ws).getD (ord.getD s 0) 0).sum ≤ (min n t : Nat) * (ws.sum - 1) := by
    intro n
    induction n with
    | zero => intro _; simp
    | succ n ih =>
      intro hn
      have h1 := ih (by omega)
      rw [range_sum_step]
      by_cases c : n < t
      · have h3 := ho.lt (t := n) (by omega)
        rw [hl] at h3
        have h4 := hr0 _ h3
        rw [Nat.min_eq_left (by omega)] at h1 ⊢
        have e2 : ((n + 1 : Nat) : Int) * (ws.sum - 1) = (n : Int) * (ws.sum - 1) + (ws.sum - 1) := by rw [Int.natCast_add, Int.add_mul]; simp
        rw [e2]; omega
      · rw [hbeh n (by omega) (by omega)]
        rw [Nat.min_eq_right (by omega)] at h1 ⊢
        omega
  have h6 := hsum ws.length (Nat.le_refl _)
  have h7 := ord_sum ho (fun i => (rsL total ws).getD i 0)
  rw [list_range, hl] at h7
  rw [← h7, Nat.min_eq_right (by omega)] at h6
  obtain ⟨h8, _, _⟩ := rest_sum hM ws.length (Nat.le_refl _)
  rw [List.take_length, List.take_of_length_le (by rw [qsL_len]; exact Nat.le_refl _), List.take_of_length_le (by rw [rsL_len]; exact Nat.le_refl _)] at h8
  have h9 : ws.sum * leftI total ws = (rsL total ws).sum := by
    unfold leftI
    rw [Int.mul_sub, Int.mul_comm ws.sum total]
    omega
  have h10 : (t : Int) + 1 ≤ leftI total ws := by omega
  have h11 := Int.mul_le_mul_of_nonneg_left h10 (Int.le_of_lt hM.s0)
  rw [h9, Int.mul_add, Int.mul_one, Int.mul_comm] at h11
  rw [Int.mul_sub, Int.mul_one] at h6
  have := hM.s0
  omega

theorem hit_mono {rs : List Int} {ord : List Nat} (h : OrdOk rs ord) {l j k : Nat} (hj : j < rs.length) (hk : hit ord 0 l k = true) (hkey : keyR rs j < keyR rs k) : hit ord 0 l j = true := by
  obtain ⟨t, _, ht, e⟩ := (hit_iff _ _ _ _).1 hk
  obtain ⟨s, hs, es⟩ := h.surj hj
  refine (hit_iff _ _ _ _).2 ⟨s, Nat.zero_le _, ?_, es⟩
  rcases Nat.lt_trichotomy s t with c | c | c
  · omega
  · omega
  · have := h.up t s c (by rw [h.length]; exact hs)
    rw [e, es] at this
    omega

/-- nobody's is a whole unit off -/
theorem split_off {total : Int} {ws : List Int} {ord : List Nat} (hM : May total ws) (ho : OrdOk (rsL total ws) ord) {k : Nat} (hk : k < ws.length) :
    -ws.sum < (splitL total ws ord).getD k 0 * ws.sum - total * ws.getD k 0 ∧ (splitL total ws ord).getD k 0 * ws.sum - total * ws.getD k 0 < ws.sum ∧ (ws.getD k 0 = 0 → (splitL total ws ord).getD k 0 = 0) ∧
      0 ≤ (splitL total ws ord).getD k 0 ∧ (splitL total ws ord).getD k 0 ≤ total := by
  have hq := q_bd hM k hk
  have hp := part_bd hM k hk
  have hr : (rsL total ws).getD k 0 = total * ws.getD k 0 % ws.sum := map_getD _ ws k hk
  have hqe : (qsL total ws).getD k 0 = total * ws.getD k 0 / ws.sum := map_getD _ ws k hk
  have hm1 := Int.emod_lt_of_pos (total * ws.getD k 0) hM.s0
  have hm0 := Int.emod_nonneg (total * ws.getD k 0) (show ws.sum ≠ 0 by have := hM.s0; omega)
  have hs := hM.s0
  rw [splitL_get total ws ord k hk]
  unfold gotL
  rw [hqe] at hq ⊢
  cases hh : hit ord 0 (leftI total ws).toNat k with
  | false =>
    simp only [Bool.false_eq_true, if_false, Int.add_zero]
    refine ⟨by omega, by omega, fun h0 => ?_, by omega, by omega⟩
    rw [h0, Int.mul_zero, Int.zero_ediv]
  | true =>
    have hpos := hit_pos hM ho hk hh
    rw [hr] at hpos
    simp only [if_true]
    rw [Int.add_mul, Int.one_mul]
    refine ⟨by omega, by omega, fun h0 => ?_, by omega, ?_⟩
    · rw [h0, Int.mul_zero, Int.zero_emod] at hpos; omega
    · -- q + 1 ≤ total: q * all + r = total * w ≤ total * all, r > 0
      have h1 := le_sum ws 1048576 hM.w0 k hk
      have h2 := Int.mul_le_mul_of_nonneg_left h1 hM.t0
      apply Int.not_lt.1
      intro hc
      have h3 : total ≤ total * ws.getD k 0 / ws.sum := by omega
      have h4 := Int.mul_le_mul_of_nonneg_right h3 (Int.le_of_lt hs)
      omega

/-- a greater weight has no lesser part; of equal ones the earlier has as much, or one more -/
theorem split_order {total : Int} {ws : List Int} {ord : List Nat} (hM : May total ws) (ho : OrdOk (rsL total ws) ord) {j k : Nat} (hj : j < ws.length) (hk : k < ws.length) (hw : ws.getD k 0 < ws.getD j 0 ∨ (ws.getD k 0 = ws.getD j 0 ∧ j < k)) :
    (splitL total ws ord).getD k 0 ≤ (splitL total ws ord).getD j 0 := by
  have hl := rsL_len total ws
  have hb := left_bd hM
  have hr : ∀ i, i < ws.length → (rsL total ws).getD i 0 = total * ws.getD i 0 % ws.sum := fun i hi => map_getD _ ws i hi
  have hqe : ∀ i, i < ws.length → (qsL total ws).getD i 0 = total * ws.getD i 0 / ws.sum := fun i hi => map_getD _ ws i hi
  have hs := hM.s0
  rw [splitL_get total ws ord k hk, splitL_get total ws ord j hj]
  unfold gotL
  rw [hqe k hk, hqe j hj]
  have hle : total * ws.getD k 0 ≤ total * ws.getD j 0 := Int.mul_le_mul_of_nonneg_left (by omega) hM.t0
  have hqq := Int.ediv_le_ediv hs hle
  have dk := Int.mul_ediv_add_emod (total * ws.getD k 0) ws.sum
  have dj := Int.mul_ediv_add_emod (total * ws.getD j 0) ws.sum
  cases hh : hit ord 0 (leftI total ws).toNat k with
  | false => simp only [Bool.false_eq_true, if_false]; split <;> omega
  | true =>
    simp only [if_true]
    by_cases c : total * ws.getD k 0 / ws.sum = total * ws.getD j 0 / ws.sum
    · have hpos := hit_pos hM ho hk hh
      rw [hr k hk] at hpos
      have hrr : total * ws.getD k 0 % ws.sum ≤ total * ws.getD j 0 % ws.sum := by rw [c] at dk; omega
      have hj2 : hit ord 0 (leftI total ws).toNat j = true := by
        refine hit_mono ho (by omega) hh ?_
        unfold keyR
        rw [hr k hk, hr j hj]
        have h5 := hM.n1
        rcases hw with hw | ⟨hw1, hw2⟩
        · -- total > 0, so the products differ
          have ht : 0 < total := by
            apply Int.not_le.1
            intro hc
            have : total = 0 := by have := hM.t0; omega
            rw [this, Int.zero_mul, Int.zero_emod] at hpos
            omega
          have hlt := Int.mul_lt_mul_of_pos_left hw ht
          have hrr2 : total * ws.getD k 0 % ws.sum < total * ws.getD j 0 % ws.sum := by rw [c] at dk; omega
          omega
        · omega
      rw [hj2]
      simp only [if_true]
      omega
    · split <;> omega

/-- equal weights: at most one unit apart -/
theorem split_close {total : Int} {ws : List Int} {ord : List Nat} {j k : Nat} (hj : j < ws.length) (hk : k < ws.length) (hw : ws.getD k 0 = ws.getD j 0) : (splitL total ws ord).getD j 0 ≤ (splitL total ws ord).getD k 0 + 1 := by
  rw [splitL_get total ws ord k hk, splitL_get total ws ord j hj]
  unfold gotL
  rw [show (qsL total ws).getD k 0 = total * ws.getD k 0 / ws.sum from map_getD _ ws k hk, show (qsL total ws).getD j 0 = total * ws.getD j 0 / ws.sum from map_getD _ ws j hj, hw]
  split <;> split <;> omega
end Go.Proofs.Ytekiknngiefkbaa
