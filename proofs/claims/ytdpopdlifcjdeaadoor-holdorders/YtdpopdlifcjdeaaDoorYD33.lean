/- Joined: D33 D34. -/
import Derived.Test.YtdpopdlifcjdeaaDoorYD22
import Derived.Test.YtdpopdlifcjdeaaDoorYD29
import Derived.Test.YtdpopdlifcjdeaaDoorYD23
import Derived.Laws.OwnMore

/- HoldOrders: mathematics: what is issued, and what is taken. -/
namespace Go.Proofs.YtdpopdlifcjdeaaDoor
open Go.RowKit Go.Lib
set_option linter.unusedVariables false

/-- the operation that a replica issues which has ds -/
def oI (i r : Nat) (ds : List Int) : OpD := (⟨(i : Int) + 1, r, ds, 1, (i : Int) + 1, r, 0, 0, ⟨#[107]⟩, 0, 0⟩, ds.getD r 0 + 1)
theorem oI_key : (St.plB 0 0 && Ky.keyB (strN ⟨#[107]⟩)) = true := by decide
theorem oI_ok {i r : Nat} {ds : List Int} (hi : i < 1000) (hr : r < ds.length) (hv : Hv.vecB ds = true) (h1 : ds.getD r 0 < 1000) : (oI i r ds).ok = true := by
  have h0 := (Hv.vecB_at hv hr).1
  have hl := Hv.vecB_len hv
  have hk := oI_key
  rw [Bool.and_eq_true] at hk
  unfold OpD.ok OpR.ok opB cntB kndB oI
  simp only [Bool.and_eq_true, decide_eq_true_eq]
  refine ⟨⟨⟨?_, ?_⟩, ⟨⟨⟨⟨hv, ?_⟩, ?_⟩, ?_⟩, ?_⟩⟩, ?_⟩
  · simp [St.stB]; omega
  · simp [St.stB]; omega
  · exact_mod_cast hr
  · omega
  · omega
  · simp
  · simp [hk.1, hk.2]

theorem sum_set : ∀ (v : List Int) (k : Nat) (z : Int), k < v.length → (v.set k z).sum = v.sum - v.getD k 0 + z
  | [], k, z, h => by simp at h
  | y :: v, 0, z, h => by
    rw [List.set_cons_zero, List.sum_cons, List.sum_cons, List.getD_cons_zero]; omega
  | y :: v, k + 1, z, h => by
    have ih := sum_set v k z (by simpa using h)
    rw [List.set_cons_succ, List.sum_cons, List.sum_cons, List.getD_cons_succ, ih]; omega
theorem getD_set (v : List Int) (k j : Nat) (z : Int) (h : k < v.length) : (v.set k z).getD j 0 = if j = k then z else v.getD j 0 := by
  rw [List.getD_eq_getElem?_getD, List.getElem?_set, List.getD_eq_getElem?_getD]
  by_cases e : j = k
  · subst e; rw [if_pos rfl, if_pos rfl, if_pos h]; rfl
  · rw [if_neg e, if_neg (fun h => e h.symm)]
theorem le_sum : ∀ (v : List Int) (k : Nat), (∀ j, 0 ≤ v.getD j 0) → 0 ≤ v.sum ∧ v.getD k 0 ≤ v.sum
  | [], k, h => by simp
  | y :: v, k, h => by
    have h0 := h 0
    rw [List.getD_cons_zero] at h0
    have ih := le_sum v (k - 1) (fun j => by have := h (j + 1); rwa [List.getD_cons_succ] at this)
    rw [List.sum_cons]
    refine ⟨by omega, ?_⟩
    cases k with
    | zero => rw [List.getD_cons_zero]; omega
    | succ k =>
      rw [List.getD_cons_succ]
      have := ih.2
      rw [Nat.add_sub_cancel] at this
      omega
theorem sum_zeros (m : Nat) : (List.replicate m (0 : Int)).sum = 0 := by
  induction m with
  | zero => rfl
  | succ m ih => rw [List.replicate_succ, List.sum_cons, ih]; rfl
theorem zeros_at (m k : Nat) : (List.replicate m (0 : Int)).getD k 0 = 0 := by
  rw [List.getD_eq_getElem?_getD, List.getElem?_replicate]
  split <;> rfl
theorem vec_of {v : List Int} {m : Nat} (hl : v.length = m) (h1 : 1 ≤ m) (h2 : m ≤ 16) (h : ∀ k, 0 ≤ v.getD k 0 ∧ v.getD k 0 ≤ 1000) : Hv.vecB v = true :=
  (Hv.vecB_iff v).2 ⟨fun i hi => by have := h i; omega, by omega, by omega⟩

/-- what is issued: causally -/
structure Cas (m : Nat) (os : List OpD) (c : List Int) : Prop where
  m1 : 1 ≤ m
  m16 : m ≤ 16
  cl : c.length = m
  c0 : ∀ k, 0 ≤ c.getD k 0
  sum : c.sum = os.length
  op : ∀ (j : Nat) (x : OpD), os[j]? = some x → ∃ (r : Nat) (ds : List Int), x = oI j r ds ∧ r < m ∧ ds.length = m ∧ (∀ k, 0 ≤ ds.getD k 0 ∧ ds.getD k 0 ≤ j)
  inn : ∀ (j : Nat) (x : OpD), os[j]? = some x → x.2 ≤ c.getD x.1.r.toNat 0
  all : ∀ (k : Nat) (q : Int), k < m → 1 ≤ q → q ≤ c.getD k 0 → ∃ (j : Nat) (x : OpD), os[j]? = some x ∧ x.1.r = k ∧ x.2 = q
  uni : ∀ (i j : Nat) (x y : OpD), os[i]? = some x → os[j]? = some y → x.1.r = y.1.r → x.2 = y.2 → i = j
  caus : ∀ (j : Nat) (x : OpD), os[j]? = some x → ∀ (k : Nat) (q : Int), k < m → 1 ≤ q → q ≤ x.1.ds.getD k 0 → ∃ (i : Nat) (y : OpD), i < j ∧ os[i]? = some y ∧ y.1.r = k ∧ y.2 = q
/-- what the replicas have while they issue -/
structure IsI (m : Nat) (hv : List (List Int)) (os : List OpD) (c : List Int) : Prop where
  cas : Cas m os c
  hl : hv.length = m
  rl : ∀ (r : Nat) row, hv[r]? = some row → row.length = m
  le : ∀ (r : Nat) row, hv[r]? = some row → ∀ k, 0 ≤ row.getD k 0 ∧ row.getD k 0 ≤ c.getD k 0
  dg : ∀ (r : Nat) row, hv[r]? = some row → row.getD r 0 = c.getD r 0
theorem rep_at {α : Type} {m r : Nat} {x y : α} (h : (List.replicate m x)[r]? = some y) : y = x := by
  rw [List.getElem?_replicate] at h
  by_cases hr : r < m
  · rw [if_pos hr] at h
    injection h with h
    exact h.symm
  · rw [if_neg hr] at h
    exact nomatch h
theorem IsI.start {m : Nat} (h1 : 1 ≤ m) (h2 : m ≤ 16) : IsI m (List.replicate m (List.replicate m 0)) [] (List.replicate m 0) := by
  refine ⟨⟨h1, h2, List.length_replicate, fun k => by rw [zeros_at]; exact Int.le_refl _, sum_zeros m, fun j x h => by simp at h, fun j x h => by simp at h, fun k q _ h3 h4 => by rw [zeros_at] at h4; omega, fun i j x y h => by simp at h, fun j x h => by simp at h⟩, List.length_replicate, fun r row h => ?_, fun r row h k => ?_, fun r row h => ?_⟩
  · rw [rep_at h]; exact List.length_replicate
  · rw [rep_at h, zeros_at]; omega
  · rw [rep_at h]
/-- it hears of all that another one has -/
def maxL (a b : List Int) : List Int := (List.range a.length).map fun k => max (a.getD k 0) (b.getD k 0)
theorem maxL_len (a b : List Int) : (maxL a b).length = a.length := by simp [maxL]
theorem maxL_at (a b : List Int) (k : Nat) (h : k < a.length) : (maxL a b).getD k 0 = max (a.getD k 0) (b.getD k 0) := by
  rw [List.getD_eq_getElem?_getD]
  simp [maxL, h]
theorem getD_over (a : List Int) (k : Nat) (h : a.length ≤ k) : a.getD k 0 = 0 := by
  rw [List.getD_eq_getElem?_getD, List.getElem?_eq_none h]; rfl
theorem set_row {hv : List (List Int)} {r : Nat} {row : List Int} (n : List Int) (h : hv[r]? = some row) {j : Nat} {z : List Int} (hz : (hv.set r n)[j]? = some z) : (j = r ∧ z = n) ∨ (j ≠ r ∧ hv[j]? = some z) := by
  rw [List.getElem?_set] at hz
  by_cases e : r = j
  · rw [if_pos e, if_pos (List.getElem?_eq_some_iff.1 h).1] at hz
    injection hz with hz
    exact .inl ⟨e.symm, hz.symm⟩
  · rw [if_neg e] at hz
    exact .inr ⟨fun h => e h.symm, hz⟩
theorem IsI.hear {m : Nat} {hv : List (List Int)} {os : List OpD} {c : List Int} (h : IsI m hv os c) {r s : Nat} {a b : List Int} (ha : hv[r]? = some a) (hb : hv[s]? = some b) : IsI m (hv.set r (maxL a b)) os c := by
  have hal := h.rl r a ha
  have hrm : r < m := by have := (List.getElem?_eq_some_iff.1 ha).1; rw [h.hl] at this; exact this
  refine ⟨h.cas, by rw [List.length_set]; exact h.hl, fun j z hz => ?_, fun j z hz k => ?_, fun j z hz => ?_⟩
  · rcases set_row _ ha hz with ⟨rfl, rfl⟩ | ⟨_, hz⟩
    · rw [maxL_len]; exact hal
    · exact h.rl j z hz
  · rcases set_row _ ha hz with ⟨rfl, rfl⟩ | ⟨_, hz⟩
    · rcases Nat.lt_or_ge k a.length with hk | hk
      · have h1 := h.le j a ha k
        have h2 := h.le s b hb k
        rw [maxL_at a b k hk]; omega
      · rw [getD_over _ k (by rw [maxL_len]; exact hk)]
        exact ⟨Int.le_refl _, h.cas.c0 k⟩
    · exact h.le j z hz k
  · rcases set_row _ ha hz with ⟨rfl, rfl⟩ | ⟨_, hz⟩
    · have h1 := h.dg j a ha
      have h2 := (h.le s b hb j).2
      rw [maxL_at a b j (by omega)]; omega
    · exact h.dg j z hz
theorem app_at {os : List OpD} {x y : OpD} {j : Nat} (h : (os ++ [x])[j]? = some y) : (j < os.length ∧ os[j]? = some y) ∨ (j = os.length ∧ y = x) := by
  rcases Nat.lt_or_ge j os.length with hj | hj
  · rw [List.getElem?_append_left hj] at h
    exact .inl ⟨hj, h⟩
  · rw [List.getElem?_append_right hj] at h
    have h2 := (List.getElem?_eq_some_iff.1 h).1
    rw [List.length_singleton] at h2
    have e : j - os.length = 0 := by omega
    rw [e, List.getElem?_cons_zero] at h
    injection h with h
    exact .inr ⟨by omega, h.symm⟩
theorem app_old {os : List OpD} (x : OpD) {y : OpD} {j : Nat} (h : os[j]? = some y) : (os ++ [x])[j]? = some y := by
  rw [List.getElem?_append_left (List.getElem?_eq_some_iff.1 h).1]; exact h
theorem app_new (os : List OpD) (x : OpD) : (os ++ [x])[os.length]? = some x := by
  rw [List.getElem?_append_right (Nat.le_refl _), Nat.sub_self]; rfl
theorem IsI.issue {m : Nat} {hv : List (List Int)} {os : List OpD} {c : List Int} (h : IsI m hv os c) {r : Nat} {a : List Int} (ha : hv[r]? = some a) : IsI m (hv.set r (a.set r (a.getD r 0 + 1))) (os ++ [oI os.length r a]) (c.set r (c.getD r 0 + 1)) := by
  have hal := h.rl r a ha
  have hrm : r < m := by have := (List.getElem?_eq_some_iff.1 ha).1; rw [h.hl] at this; exact this
  have hrc : r < c.length := by rw [h.cas.cl]; exact hrm
  have hdg := h.dg r a ha
  have hle := h.le r a ha
  have hc : ∀ k, (c.set r (c.getD r 0 + 1)).getD k 0 = if k = r then c.getD r 0 + 1 else c.getD k 0 := fun k => getD_set c r k _ hrc
  have hcm : ∀ k, c.getD k 0 ≤ (c.set r (c.getD r 0 + 1)).getD k 0 := fun k => by
    rw [hc]
    split
    · rename_i e; rw [e]; omega
    · exact Int.le_refl _
  have hsm := fun k => (le_sum c k h.cas.c0).2
  have hsum := h.cas.sum
  refine ⟨⟨h.cas.m1, h.cas.m16, by rw [List.length_set]; exact h.cas.cl, fun k => by have := h.cas.c0 k; have := hcm k; omega, ?_, fun j x hx => ?_, fun j x hx => ?_, fun k q hk h1 h2 => ?_, fun i j x y hx hy e1 e2 => ?_, fun j x hx k q hk h1 h2 => ?_⟩, by rw [List.length_set]; exact h.hl, fun j z hz => ?_, fun j z hz k => ?_, fun j z hz => ?_⟩
  · rw [sum_set c r _ hrc, List.length_append, List.length_singleton, hsum]; omega
  · rcases app_at hx with ⟨_, hx⟩ | ⟨rfl, rfl⟩
    · exact h.cas.op j x hx
    · exact ⟨r, a, rfl, hrm, hal, fun k => ⟨(hle k).1, by have := (hle k).2; have := hsm k; omega⟩⟩
  · rcases app_at hx with ⟨_, hx⟩ | ⟨rfl, rfl⟩
    · exact Int.le_trans (h.cas.inn j x hx) (hcm _)
    · show a.getD r 0 + 1 ≤ (c.set r (c.getD r 0 + 1)).getD (r : Int).toNat 0
      rw [Int.toNat_natCast, hc, if_pos rfl]; omega
  · rw [hc] at h2
    by_cases e : k = r ∧ q = c.getD r 0 + 1
    · obtain ⟨rfl, rfl⟩ := e
      refine ⟨os.length, _, app_new os _, rfl, ?_⟩
      show a.getD k 0 + 1 = _
      omega
    · have h4 : q ≤ c.getD k 0 := by
        by_cases e2 : k = r
        · rw [if_pos e2] at h2
          rw [e2]
          omega
        · rw [if_neg e2] at h2
          exact h2
      obtain ⟨j, x, hx, h3⟩ := h.cas.all k q hk h1 h4
      exact ⟨j, x, app_old _ hx, h3⟩
  · have key : ∀ (i : Nat) (x : OpD), os[i]? = some x → x.1.r = (r : Int) → x.2 ≠ a.getD r 0 + 1 := fun i x hx e => by
      have := h.cas.inn i x hx
      rw [e, Int.toNat_natCast] at this
      omega
    rcases app_at hx with ⟨_, hx⟩ | ⟨rfl, rfl⟩
    · rcases app_at hy with ⟨_, hy⟩ | ⟨rfl, rfl⟩
      · exact h.cas.uni i j x y hx hy e1 e2
      · exact absurd e2 (key i x hx e1)
    · rcases app_at hy with ⟨_, hy⟩ | ⟨rfl, rfl⟩
      · exact absurd e2.symm (key j y hy e1.symm)
      · rfl
  · rcases app_at hx with ⟨_, hx⟩ | ⟨rfl, rfl⟩
    · obtain ⟨i, y, h3, h4, h5⟩ := h.cas.caus j x hx k q hk h1 h2
      exact ⟨i, y, h3, app_old _ h4, h5⟩
    · obtain ⟨i, y, h3, h4⟩ := h.cas.all k q hk h1 (Int.le_trans h2 (hle k).2)
      exact ⟨i, y, (List.getElem?_eq_some_iff.1 h3).1, app_old _ h3, h4⟩
  · rcases set_row _ ha hz with ⟨rfl, rfl⟩ | ⟨_, hz⟩
    · rw [List.length_set]; exact hal
    · exact h.rl j z hz
  · rcases set_row _ ha hz with ⟨rfl, rfl⟩ | ⟨_, hz⟩
    · rw [getD_set a j k _ (by omega), hc]
      have h1 := hle k
      by_cases e : k = j
      · rw [if_pos e, if_pos e]
        rw [e] at h1
        omega
      · rw [if_neg e, if_neg e]
        exact h1
    · have := h.le j z hz k
      have := hcm k
      omega
  · rcases set_row _ ha hz with ⟨rfl, rfl⟩ | ⟨hj, hz⟩
    · rw [getD_set a j j _ (by omega), hc, if_pos rfl, if_pos rfl, hdg]
    · rw [hc, if_neg hj]; exact h.dg j z hz

/-- each the next one of its replica, and covered -/
def chn : List Int → List OpD → List Int → Prop
  | v, [], a => a = v
  | v, x :: d, a => fitsB v x = true ∧ readyB v x = true ∧ chn (setV v x) d a
theorem free_chn {hs : List OpD} : ∀ (f : Nat) (v : List Int) (tk : List OpD), (∀ y ∈ hs, fitsB v y = true) → ∃ d, (freeG hs f v tk).2 = tk ++ d ∧ chn v d (freeG hs f v tk).1 ∧ ∀ x ∈ d, x ∈ hs
  | 0, v, tk, hf => ⟨[], by simp [freeG], rfl, fun x h => by simp at h⟩
  | f + 1, v, tk, hf => by
    rw [freeG]
    cases h : hs.find? (readyB v) with
    | none => exact ⟨[], by simp, rfl, fun x h => by simp at h⟩
    | some x =>
      have hm := List.mem_of_find?_eq_some h
      obtain ⟨d, h1, h2, h3⟩ := free_chn f (setV v x) (tk ++ [x]) (fun y hy => fits_set (hf x hm) (hf y hy))
      refine ⟨x :: d, ?_, ⟨hf x hm, List.find?_some h, h2⟩, fun y hy => ?_⟩
      · show (freeG hs f (setV v x) (tk ++ [x])).2 = _
        rw [h1, List.append_assoc]; rfl
      · rcases List.mem_cons.1 hy with rfl | hy
        · exact hm
        · exact h3 y hy
theorem chn_facts (c : List Int) : ∀ (d : List OpD) (v a : List Int), chn v d a → (∀ x ∈ d, x.2 ≤ c.getD x.1.r.toNat 0) → (∀ k, k < v.length → v.getD k 0 ≤ c.getD k 0) →
    a.length = v.length ∧ a.sum = v.sum + d.length ∧ (∀ y : OpD, 0 ≤ y.1.r → atV v y ≤ atV a y) ∧ (∀ k, k < v.length → a.getD k 0 ≤ c.getD k 0)
  | [], v, a, h, _, hc => by
    obtain rfl : a = v := h
    exact ⟨rfl, by simp, fun y _ => Int.le_refl _, hc⟩
  | x :: d, v, a, h, hx, hc => by
    obtain ⟨h1, h2, h3⟩ := h
    have hlt := fits_lt h1
    have hr := ready_new h2
    have hav : v.getD x.1.r.toNat 0 = x.2 - 1 := hr
    obtain ⟨i1, i2, i3, i4⟩ := chn_facts c d (setV v x) a h3 (fun y hy => hx y (List.mem_cons_of_mem _ hy)) (fun k hk => by
      rw [setV_len] at hk
      unfold setV
      rw [getD_set v _ k _ hlt.1]
      split
      · rename_i e; rw [e]; exact hx x (List.mem_cons_self ..)
      · exact hc k hk)
    rw [setV_len] at i1 i4
    refine ⟨i1, ?_, fun y hy => ?_, i4⟩
    · rw [i2]
      unfold setV
      rw [sum_set v _ _ hlt.1, hav, List.length_cons]
      omega
    · have := i3 y hy
      rw [atV_set y hlt.2 hlt.1 hy] at this
      split at this
      · rename_i e
        have e2 : atV v y = atV v x := by unfold atV; rw [e]
        omega
      · exact this
/-- what is held over the calls -/
structure HInv (m : Nat) (os : List OpD) (c : List Int) (i : Nat) (v : List Int) (h : List OpD) (dn : Nat) : Prop where
  held : heldB v h = true
  vl : v.length = m
  sub : ∀ y ∈ h, y ∈ os
  le : ∀ k, k < m → v.getD k 0 ≤ c.getD k 0
  sum : v.sum = dn
  got : ∀ (j : Nat) (y : OpD), j < i - 2 * os.length → os[j]? = some y → y.2 ≤ atV v y ∨ y ∈ h
theorem HInv.start {m : Nat} {os : List OpD} {c : List Int} (h : Cas m os c) : HInv m os c 0 (List.replicate m 0) [] 0 :=
  ⟨held_iff.2 ⟨vec_of List.length_replicate h.m1 h.m16 (fun k => by rw [zeros_at]; omega), by simp, fun k hk => by simp at hk⟩, List.length_replicate, fun y h => by simp at h, fun k _ => by rw [zeros_at]; exact h.c0 k, sum_zeros m, fun j y hj => by omega⟩
theorem Cas.fits {m : Nat} {os : List OpD} {c v : List Int} (h : Cas m os c) (h16 : os.length ≤ 16) (hv : Hv.vecB v = true) (hl : v.length = m) {o : OpD} (ho : o ∈ os) : fitsB v o = true := by
  obtain ⟨j, hj⟩ := List.getElem?_of_mem ho
  obtain ⟨r, ds, rfl, h1, h2, h3⟩ := h.op j o hj
  have hjl := (List.getElem?_eq_some_iff.1 hj).1
  refine fits_iff.2 ⟨hv, oI_ok (by omega) (by omega) (vec_of h2 h.m1 h.m16 (fun k => by have := h3 k; omega)) (by have := h3 r; omega), by show ds.length = _; omega⟩
/-- unlike ones of so many -/
theorem few : ∀ (n : Nat) (l : List OpD), l.Pairwise (fun x y => x.1.t < y.1.t) → (∀ x ∈ l, 1 ≤ x.1.t ∧ x.1.t ≤ n) → l.length ≤ n := by
  intro n
  induction n with
  | zero =>
    intro l _ h
    cases l with
    | nil => exact Nat.le_refl _
    | cons x l => have := h x (List.mem_cons_self ..); omega
  | succ n ih =>
    intro l hp h
    rcases List.eq_nil_or_concat l with rfl | ⟨q, x, rfl⟩
    · exact Nat.zero_le _
    · rw [List.concat_eq_append] at hp h ⊢
      rw [List.pairwise_append] at hp
      have := ih q hp.1 (fun y hy => by
        have h1 := hp.2.2 y hy x (by simp)
        have h2 := h x (by simp)
        have h3 := h y (by simp [hy])
        omega)
      rw [List.length_append, List.length_singleton]; omega
theorem Cas.same {m : Nat} {os : List OpD} {c : List Int} (h : Cas m os c) {x y : OpD} (hx : x ∈ os) (hy : y ∈ os) (hr : x.1.r = y.1.r) (hq : x.2 = y.2) : x = y := by
  obtain ⟨i, hi⟩ := List.getElem?_of_mem hx
  obtain ⟨j, hj⟩ := List.getElem?_of_mem hy
  have e := h.uni i j x y hi hj hr hq
  rw [e, hj] at hi
  injection hi with hi
  exact hi.symm
theorem Cas.time {m : Nat} {os : List OpD} {c : List Int} (h : Cas m os c) {j : Nat} {x : OpD} (hx : os[j]? = some x) : x.1.t = (j : Int) + 1 := by
  obtain ⟨r, ds, rfl, _⟩ := h.op j x hx
  rfl
theorem Cas.rep {m : Nat} {os : List OpD} {c : List Int} (h : Cas m os c) {x : OpD} (hx : x ∈ os) : ∃ r : Nat, x.1.r = r ∧ r < m ∧ x.2 = x.1.ds.getD r 0 + 1 ∧ x.1.ds.length = m := by
  obtain ⟨i, hi⟩ := List.getElem?_of_mem hx
  obtain ⟨r, ds, rfl, h1, h2, h3⟩ := h.op i x hi
  exact ⟨r, rfl, h1, rfl, h2⟩
theorem Cas.stamp {m : Nat} {os : List OpD} {c : List Int} (h : Cas m os c) {x y : OpD} (hx : x ∈ os) (hy : y ∈ os) (ht : x.1.t = y.1.t) : x = y := by
  obtain ⟨i, hi⟩ := List.getElem?_of_mem hx
  obtain ⟨j, hj⟩ := List.getElem?_of_mem hy
  have h1 := h.time hi
  have h2 := h.time hj
  have e : i = j := by omega
  rw [e, hj] at hi
  injection hi with hi
  exact hi.symm
/-- held ones stand by their times -/
theorem HInv.times {m : Nat} {os : List OpD} {c : List Int} {i : Nat} {v : List Int} {h : List OpD} {dn : Nat} (hc : Cas m os c) (hi : HInv m os c i v h dn) : h.Pairwise (fun x y => x.1.t < y.1.t) := by
  have hs := held_srt hi.held
  rw [List.pairwise_iff_getElem]
  intro a b ha hb hab
  have h1 := hs a b h[a] h[b] hab (List.getElem?_eq_getElem ha) (List.getElem?_eq_getElem hb)
  rcases cmpO_lt.1 h1 with h2 | ⟨h2, h3⟩
  · exact h2
  · have e := hc.stamp (hi.sub _ (List.getElem_mem ha)) (hi.sub _ (List.getElem_mem hb)) h2
    rw [e] at h3
    omega
theorem HInv.room {m : Nat} {os : List OpD} {c : List Int} {i : Nat} {v : List Int} {h : List OpD} {dn : Nat} (hc : Cas m os c) (h16 : os.length ≤ 16) (hi : HInv m os c i v h dn) {o : OpD} (ho : o ∈ os) (hn : o ∉ h) : h.length < 16 ∧ stampB h o = false := by
  have ht := hi.times hc
  have tm : ∀ x ∈ os, 1 ≤ x.1.t ∧ x.1.t ≤ os.length := fun x hx => by
    obtain ⟨j, hj⟩ := List.getElem?_of_mem hx
    have := hc.time hj
    have := (List.getElem?_eq_some_iff.1 hj).1
    omega
  refine ⟨?_, ?_⟩
  · rcases Nat.lt_or_ge h.length 16 with hl | hl
    · exact hl
    · exfalso
      -- o's time parts those ahead of it from those behind it
      have h1 : (h.filter (fun x => decide (x.1.t < o.1.t)) ++ o :: h.filter (fun x => decide (o.1.t < x.1.t))).length ≤ os.length := by
        refine few os.length _ ?_ ?_
        · rw [List.pairwise_append, List.pairwise_cons]
          refine ⟨ht.filter _, ⟨fun x hx => ?_, ht.filter _⟩, fun x hx y hy => ?_⟩
          · exact of_decide_eq_true (List.mem_filter.1 hx).2
          · have hx2 := of_decide_eq_true (List.mem_filter.1 hx).2
            rcases List.mem_cons.1 hy with rfl | hy
            · exact hx2
            · have hy2 := of_decide_eq_true (List.mem_filter.1 hy).2
              omega
        · intro x hx
          rcases List.mem_append.1 hx with hx | hx
          · exact tm x (hi.sub x (List.mem_filter.1 hx).1)
          · rcases List.mem_cons.1 hx with rfl | hx
            · exact tm x ho
            · exact tm x (hi.sub x (List.mem_filter.1 hx).1)
      have h2 : ∀ l : List OpD, (∀ x ∈ l, x.1.t ≠ o.1.t) → l.length = (l.filter (fun x => decide (x.1.t < o.1.t))).length + (l.filter (fun x => decide (o.1.t < x.1.t))).length := by
        intro l
        induction l with
        | nil => intro _; rfl
        | cons x l ih =>
          intro hl
          have := ih (fun y hy => hl y (List.mem_cons_of_mem _ hy))
          have hx := hl x (List.mem_cons_self ..)
          by_cases hlt : x.1.t < o.1.t
          · rw [List.filter_cons_of_pos (by simpa using hlt), List.filter_cons_of_neg (by simp; omega), List.length_cons, List.length_cons]; omega
          · rw [List.filter_cons_of_neg (by simpa using hlt), List.filter_cons_of_pos (by simp; omega), List.length_cons, List.length_cons]; omega
      have h3 := h2 h (fun x hx e => hn (by rw [← hc.stamp (hi.sub x hx) ho e]; exact hx))
      rw [List.length_append, List.length_cons] at h1
      omega
  · unfold stampB
    rw [List.any_eq_false]
    intro x hx e
    have e2 := (of_decide_eq_true e).1
    exact hn (by rw [← hc.stamp (hi.sub x hx) ho e2]; exact hx)
theorem known_in {m : Nat} {os : List OpD} {c : List Int} {i : Nat} {v : List Int} {h : List OpD} {dn : Nat} (hc : Cas m os c) (hi : HInv m os c i v h dn) {o : OpD} (ho : o ∈ os) (hk : knownB v h o = true) : o.2 ≤ atV v o ∨ o ∈ h := by
  unfold knownB at hk
  rw [Bool.or_eq_true, decide_eq_true_eq] at hk
  rcases hk with hk | hk
  · exact .inl hk
  · rw [List.any_eq_true] at hk
    obtain ⟨y, hy, e⟩ := hk
    unfold sameB at e
    rw [Bool.and_eq_true, beq_iff_eq, beq_iff_eq] at e
    have := hc.same (hi.sub y hy) ho e.1 e.2
    rw [this] at hy
    exact .inr hy
theorem known_not {v : List Int} {h : List OpD} {o : OpD} (hk : knownB v h o = false) : o ∉ h := fun hm => by
  unfold knownB at hk
  rw [Bool.or_eq_false_iff, List.any_eq_false] at hk
  have := hk.2 o hm
  apply this
  unfold sameB
  simp
theorem HInv.step {m : Nat} {os : List OpD} {c : List Int} {i k : Nat} {v : List Int} {h : List OpD} {dn : Nat} (hc : Cas m os c) (h16 : os.length ≤ 16) (hi : HInv m os c i v h dn) {o : OpD} (ho : os[k]? = some o) (hk : 2 * os.length ≤ i → k = i - 2 * os.length) {a : List Int} {b d : List OpD} {z : Int} (hT : TakeIs v h o a b d z) (hG : GoodT a b d z) :
    z = 0 ∧ chn v d a ∧ HInv m os c (i + 1) a b (dn + d.length) := by
  have hom := List.mem_of_getElem? ho
  have hin : ∀ x ∈ os, x.2 ≤ c.getD x.1.r.toNat 0 := fun x hx => by
    obtain ⟨j, hj⟩ := List.getElem?_of_mem hx
    exact hc.inn j x hj
  have nn : ∀ x ∈ os, 0 ≤ x.1.r := fun x hx => by
    obtain ⟨r, h1, _⟩ := hc.rep hx
    omega
  have key : ∀ (P : OpD → Prop), (∀ x ∈ os, (x.2 ≤ atV v x ∨ x ∈ h) → P x) → P o → ∀ (j : Nat) (y : OpD), j < i + 1 - 2 * os.length → os[j]? = some y → P y := fun P h1 h2 j y hj hy => by
    rcases Nat.lt_or_ge j (i - 2 * os.length) with hlt | hge
    · exact h1 y (List.mem_of_getElem? hy) (hi.got j y hlt hy)
    · have e : j = k := by have := hk (by omega); omega
      rw [e, ho] at hy
      injection hy with hy
      rw [← hy]; exact h2
  have hv := (held_iff.1 hi.held).1
  rcases hT with ⟨hkn, rfl, rfl, rfl, rfl⟩ | ⟨hkn, hrd, hfr, rfl, rfl⟩ | ⟨hkn, hrd, hfl, _⟩ | ⟨hkn, hrd, hfl, rfl, ⟨p, hp, rfl⟩, rfl, rfl⟩
  · exact ⟨rfl, rfl, hi.held, hi.vl, hi.sub, hi.le, by rw [hi.sum]; simp, key _ (fun x _ hx => hx) (known_in hc hi hom hkn)⟩
  · have hf := hc.fits h16 hv hi.vl hom
    have hfh : ∀ y ∈ h, fitsB v y = true := fun y hy => held_fits hi.held hy
    obtain ⟨d', h1, h2, h3⟩ := free_chn (hs := h) h.length (setV v o) [o] (fun y hy => fits_set hf (hfh y hy))
    rw [← hfr] at h1 h2
    have h1' : d = o :: d' := h1
    subst h1'
    have hch : chn v (o :: d') a := ⟨hf, hrd, h2⟩
    have hsub : ∀ x ∈ o :: d', x ∈ os := fun x hx => by
      rcases List.mem_cons.1 hx with rfl | hx
      · exact hom
      · exact hi.sub x (h3 x hx)
    obtain ⟨f1, f2, f3, f4⟩ := chn_facts c (o :: d') v a hch (fun x hx => hin x (hsub x hx)) (fun k hk => hi.le k (by rw [← hi.vl]; exact hk))
    rw [hi.vl] at f1 f4
    refine ⟨rfl, hch, hG.1, f1, fun y hy => hi.sub y (List.mem_filter.1 hy).1, f4, by rw [f2, hi.sum]; omega, key _ (fun x hxa hx => ?_) (.inl ?_)⟩
    · rcases hx with hx | hx
      · exact .inl (Int.le_trans hx (f3 x (nn x hxa)))
      · cases hn : newB a x
        · left
          unfold newB at hn
          rw [decide_eq_false_iff_not] at hn
          omega
        · exact .inr (List.mem_filter.2 ⟨hx, hn⟩)
    · have hlt := fits_lt hf
      obtain ⟨_, _, g3, _⟩ := chn_facts c d' (setV v o) a h2 (fun x hx => hin x (hsub x (List.mem_cons_of_mem _ hx))) (fun k hk => by
        rw [setV_len] at hk
        unfold setV
        rw [getD_set v _ k _ hlt.1]
        split
        · rename_i e; rw [e]; exact hin o hom
        · exact hi.le k (by rw [← hi.vl]; exact hk))
      have := g3 o hlt.2
      rw [atV_set o hlt.2 hlt.1 hlt.2, if_pos rfl] at this
      exact this
  · exfalso
    have hr := hi.room hc h16 hom (known_not hkn)
    rw [hr.2, Bool.or_false, decide_eq_true_eq] at hfl
    omega
  · refine ⟨rfl, rfl, hG.1, hi.vl, fun y hy => ?_, hi.le, by rw [hi.sum]; simp, key _ (fun x _ hx => ?_) (.inr ?_)⟩
    · rcases List.mem_append.1 hy with hy | hy
      · exact hi.sub y (List.mem_of_mem_take hy)
      · rcases List.mem_cons.1 hy with rfl | hy
        · exact hom
        · exact hi.sub y (List.mem_of_mem_drop hy)
    · rcases hx with hx | hx
      · exact .inl hx
      · right
        rw [← List.take_append_drop p h] at hx
        rcases List.mem_append.1 hx with hx | hx
        · exact List.mem_append.2 (.inl hx)
        · exact List.mem_append.2 (.inr (List.mem_cons_of_mem _ hx))
    · exact List.mem_append.2 (.inr (List.mem_cons_self ..))
/-- when all came nothing is held, and each was taken once -/
theorem HInv.fin {m : Nat} {os : List OpD} {c : List Int} {v : List Int} {h : List OpD} {dn : Nat} (hc : Cas m os c) (hi : HInv m os c (3 * os.length) v h dn) : h = [] ∧ dn = os.length := by
  have got : ∀ y ∈ os, y.2 ≤ atV v y ∨ y ∈ h := fun y hy => by
    obtain ⟨j, hj⟩ := List.getElem?_of_mem hy
    exact hi.got j y (by have := (List.getElem?_eq_some_iff.1 hj).1; omega) hj
  have hv := (held_iff.1 hi.held).1
  have hnil : h = [] := by
    cases h with
    | nil => rfl
    | cons y q =>
      exfalso
      have hya := hi.sub y (List.mem_cons_self ..)
      have ht := List.pairwise_cons.1 (hi.times hc)
      have hh := (held_iff.1 hi.held).2.2 0 (by simp)
      unfold heldAt at hh
      rw [List.getElem?_cons_zero] at hh
      simp only [Bool.and_eq_true, Bool.not_eq_true'] at hh
      obtain ⟨⟨⟨h1, h2⟩, h3⟩, -⟩ := hh
      obtain ⟨j, hj⟩ := List.getElem?_of_mem hya
      obtain ⟨r, e1, e2, e3, e4⟩ := hc.rep hya
      have cov : ∀ k, k < m → y.1.ds.getD k 0 ≤ v.getD k 0 := fun k hk => by
        rcases Int.lt_or_le (v.getD k 0) (y.1.ds.getD k 0) with hlt | hle
        · have h0 : 0 ≤ v.getD k 0 := (Hv.vecB_at hv (k := k) (by rw [hi.vl]; exact hk)).1
          obtain ⟨i, x, g1, g2, g3, g4⟩ := hc.caus j y hj k (y.1.ds.getD k 0) hk (by omega) (Int.le_refl _)
          have hxa := List.mem_of_getElem? g2
          rcases got x hxa with g | g
          · have : atV v x = v.getD k 0 := by unfold atV; rw [g3, Int.toNat_natCast]
            omega
          · have t1 := hc.time hj
            have t2 := hc.time g2
            rcases List.mem_cons.1 g with rfl | g
            · omega
            · have := ht.1 x g
              omega
        · exact hle
      have hcv : Hv.coversB v y.1.ds = true := (Hv.coversB_iff (fits_pair h1)).2 (fun k hk => cov k (by rw [← hi.vl]; exact hk))
      have hav : atV v y = v.getD r 0 := by unfold atV; rw [e1, Int.toNat_natCast]
      unfold knownB at h3
      rw [Bool.or_eq_false_iff, decide_eq_false_iff_not] at h3
      have hcr := cov r e2
      have hrd : readyB v y = true := by
        unfold readyB
        rw [hcv, Bool.and_true, beq_iff_eq]
        omega
      rw [hrd] at h2
      cases h2
  refine ⟨hnil, ?_⟩
  subst hnil
  have e : v = c := by
    apply List.ext_getElem
    · rw [hi.vl, hc.cl]
    · intro k hk1 hk2
      have hkm : k < m := by rw [← hi.vl]; exact hk1
      have g1 := hi.le k hkm
      have g2 : c.getD k 0 ≤ v.getD k 0 := by
        rcases Int.lt_or_le 0 (c.getD k 0) with hpos | hz
        · obtain ⟨j, x, g3, g4, g5⟩ := hc.all k (c.getD k 0) hkm (by omega) (Int.le_refl _)
          rcases got x (List.mem_of_getElem? g3) with g | g
          · unfold atV at g
            rw [g4, Int.toNat_natCast] at g
            omega
          · simp at g
        · have := (Hv.vecB_at hv (k := k) hk1).1
          omega
      have g : v.getD k 0 = c.getD k 0 := by omega
      rw [List.getD_eq_getElem?_getD, List.getD_eq_getElem?_getD, List.getElem?_eq_getElem hk1, List.getElem?_eq_getElem hk2] at g
      simpa using g
  have h1 := hi.sum
  have h2 := hc.sum
  rw [e] at h1
  omega
end Go.Proofs.YtdpopdlifcjdeaaDoor

/- HoldOrders: Within; rows of rows. -/
namespace Go.Proofs.YtdpopdlifcjdeaaDoor
open Go.RowKit Go.Lib
set_option linter.unusedVariables false

def withinI (i n : Int) : Int := i % 18446744073709551616 % n
theorem within_rng (i n : Int) (hn : 0 < n) : 0 ≤ withinI i n ∧ withinI i n < n :=
  ⟨Int.emod_nonneg (i % 18446744073709551616) (Int.ne_of_gt hn), Int.emod_lt_of_pos (i % 18446744073709551616) hn⟩
set_option maxHeartbeats 400000 in
theorem withinN_any (i n : Int) (w : World) (hn : 0 < n) (hn' : n ≤ 4611686018427387904) :
    Calls Tryd.prog 27 #[.int .i64 i, .int .i64 n] w fun e w' => e = .returned (.int .i64 (withinI i n)) ∧ w = w' := by
  have hz : (n == 0) = false := by simp; omega
  go_enter Tryd.func27, Tryd.ntmps27
  go_wp2
  go_ret
  have h1 := Int.emod_nonneg (i % 18446744073709551616) (Int.ne_of_gt hn)
  have h2 := Int.emod_lt_of_pos (i % 18446744073709551616) hn
  exact ⟨ret_int (by unfold withinI; rw [IntKind.wrap_u64, Int.tmod_eq_emod_of_nonneg (by omega), IntWalk.wrap64_in _ (by omega)]), rfl⟩

theorem Tryd.infoRI : (Tryd.prog.info? 22).map (fun i => (i.zero, i.size, i.bytes)) = some (some (.slice none 0 0), 1, 24) := by kernel_rfl
theorem makeI (m : Nat) (hm : m ≤ 1000) (W : World) : (Instr.makeSlice 22 (.int .i64 (m : Int)) (.int .i64 (m : Int))).run Tryd.prog W = .ok (.slice (some ⟨W.heap.size, 0, none⟩) m m) (W.alloc (.cells (madeCells #[.int .i64 0] m) 3)) :=
  Go.run_make_row' 22 3 (.int .i64 0) 8 Tryd.underlying22 Tryd.info3 rfl .i64 .i64 m (by omega) (by omega) W
theorem makeR (m : Nat) (hm : m ≤ 1000) (W : World) : (Instr.makeSlice 74 (.int .i64 (m : Int)) (.int .i64 (m : Int))).run Tryd.prog W = .ok (.slice (some ⟨W.heap.size, 0, none⟩) m m) (W.alloc (.cells (madeCells #[.slice none 0 0] m) 22)) :=
  Go.run_make_row' 74 22 (.slice none 0 0) 24 Tryd.underlying74 Tryd.infoRI rfl .i64 .i64 m (by omega) (by omega) W
theorem newBlk (w : World) (o : Obj) : (w.alloc o).heap[w.heap.size]? = some o := by
  show (w.heap.push o)[w.heap.size]? = some o
  simp
theorem ownZ (m : Nat) (hm : m ≤ 1000) (W : World) : OwnK .i64 3 (W.alloc (.cells (madeCells #[.int .i64 0] m) 3)) W.heap.size (.slice (some ⟨W.heap.size, 0, none⟩) m m) (List.replicate m 0) := by
  have hl : (List.replicate m (0 : Int)).length = m := List.length_replicate
  have h : World.ownsRow (W.alloc (.cells (madeCells #[.int .i64 0] m) 3)) W.heap.size 3 1 (.slice (some ⟨W.heap.size, 0, none⟩) m m) m ((List.replicate m (0 : Int)).map (.int .i64)) := by
    refine ⟨by simp, .inr ⟨W.heap.size, m, madeCells #[.int .i64 0] m, rfl, Nat.le_refl _, newBlk _ _, Nat.le_refl _, by unfold maxLen; omega, by rw [size_madeCells]; omega, ?_⟩⟩
    rw [toList_madeCells_one]
    simp
  unfold OwnK
  rw [hl]
  exact h

abbrev slG (m g : Nat) : Value := .slice (some ⟨g, 0, none⟩) m m
def rowsV (m : Nat) (gs : List Nat) : List Value := gs.map (slG m) ++ List.replicate (m - gs.length) (.slice none 0 0)
theorem rowsV_at {m : Nat} {gs : List Nat} {r g : Nat} (h : gs[r]? = some g) : (rowsV m gs)[r]? = some (slG m g) := by
  unfold rowsV
  rw [List.getElem?_append_left (by rw [List.length_map]; exact (List.getElem?_eq_some_iff.1 h).1), List.getElem?_map, h]; rfl
theorem rowsV_nil {m : Nat} {gs : List Nat} (h : gs.length < m) : (rowsV m gs)[gs.length]? = some (.slice none 0 0) := by
  unfold rowsV
  rw [List.getElem?_append_right (by rw [List.length_map]; exact Nat.le_refl _), List.length_map, Nat.sub_self, List.getElem?_replicate, if_pos (by omega)]
theorem rowsV_set {m : Nat} {gs : List Nat} (g : Nat) (h : gs.length < m) : (rowsV m gs).set gs.length (slG m g) = rowsV m (gs ++ [g]) := by
  unfold rowsV
  rw [List.set_append_right _ _ (by rw [List.length_map]; exact Nat.le_refl _), List.length_map, Nat.sub_self]
  obtain ⟨n, hn⟩ : ∃ n, m - gs.length = n + 1 := ⟨m - gs.length - 1, by omega⟩
  have hn2 : m - (gs ++ [g]).length = n := by rw [List.length_append, List.length_singleton]; omega
  rw [hn, hn2, List.replicate_succ, List.set_cons_zero, List.map_append, List.append_assoc]; rfl
/-- rows of rows: of what a call made, below B -/
structure RR (W : World) (base B gh m : Nat) (hv : List (List Int)) (gs : List Nat) : Prop where
  blk : Blk W gh (rowsV m gs)
  gl : gs.length = hv.length
  glm : gs.length ≤ m
  row : ∀ (r g : Nat) (z : List Int), gs[r]? = some g → hv[r]? = some z → OwnK .i64 3 W base (slG m g) z ∧ z.length = m
  ne : ∀ (r g : Nat), gs[r]? = some g → g ≠ gh ∧ g < B
  di : ∀ (r s g : Nat), gs[r]? = some g → gs[s]? = some g → r = s
  bh : base ≤ gh
  hB : gh < B
theorem RR.start (w : World) (base m : Nat) (hb : base ≤ w.heap.size) : RR (w.alloc (.cells (madeCells #[.slice none 0 0] m) 22)) base (w.heap.size + 1) w.heap.size m [] [] := by
  refine ⟨⟨fun i u hi => ?_, fun i u hi => World.frozen?_alloc_at (w := w) _ _ _ _ rfl⟩, rfl, Nat.zero_le _, fun r g z h => by simp at h, fun r g h => by simp at h, fun r s g h => by simp at h, hb, Nat.lt_succ_self _⟩
  have h1 : (madeCells #[Value.slice none 0 0] m).toList[i]? = some u := by
    rw [toList_madeCells_one]
    simpa [rowsV] using hi
  rw [Array.getElem?_toList] at h1
  rw [World.cell?_alloc_at _ _ _ _ rfl]
  simpa using h1
theorem RR.belowB {W W' : World} {base B gh m : Nat} {hv : List (List Int)} {gs : List Nat} (h : RR W base B gh m hv gs) (hb : Below B W W') : RR W' base B gh m hv gs :=
  ⟨h.blk.below hb h.hB, h.gl, h.glm, fun r g z hg hz => ⟨(h.row r g z hg hz).1.belowB hb (fun g' e => by injection e with e; rw [← e]; exact (h.ne r g hg).2), (h.row r g z hg hz).2⟩, h.ne, h.di, h.bh, h.hB⟩
theorem RR.lift {W : World} {base B B' gh m : Nat} {hv : List (List Int)} {gs : List Nat} (h : RR W base B gh m hv gs) (hb : B ≤ B') : RR W base B' gh m hv gs :=
  ⟨h.blk, h.gl, h.glm, h.row, fun r g hg => ⟨(h.ne r g hg).1, Nat.lt_of_lt_of_le (h.ne r g hg).2 hb⟩, h.di, h.bh, Nat.lt_of_lt_of_le h.hB hb⟩
theorem RR.cell {W : World} {base B gh m : Nat} {hv : List (List Int)} {gs : List Nat} (h : RR W base B gh m hv gs) {r g : Nat} (hg : gs[r]? = some g) : W.cell? ⟨gh, r, none⟩ = some (slG m g) := h.blk.cell r _ (rowsV_at hg)
theorem RR.at {W : World} {base B gh m : Nat} {hv : List (List Int)} {gs : List Nat} (h : RR W base B gh m hv gs) {r g : Nat} {z : List Int} (hg : gs[r]? = some g) (hz : hv[r]? = some z) {k : Nat} (hk : k < m) : W.cell? ⟨g, k, none⟩ = some (.int .i64 (z.getD k 0)) ∧ W.frozen? ⟨g, k, none⟩ = false := by
  have := OwnK.cellAt (h.row r g z hg hz).2 (h.row r g z hg hz).1 k hk
  exact ⟨this.1, this.2.1⟩
theorem RR.store {W : World} {base B gh m : Nat} {hv : List (List Int)} {gs : List Nat} (h : RR W base B gh m hv gs) {r g : Nat} {z : List Int} (hg : gs[r]? = some g) (hz : hv[r]? = some z) (k : Nat) (u : Int) : RR (W.setCell ⟨g, k, none⟩ (.int .i64 u)) base B gh m (hv.set r (z.set k u)) gs := by
  refine ⟨h.blk.other (h.ne r g hg).1 _ _, by rw [List.length_set]; exact h.gl, h.glm, fun j g' z' hg' hz' => ?_, h.ne, h.di, h.bh, h.hB⟩
  rcases set_row _ hz hz' with ⟨rfl, rfl⟩ | ⟨hj, hz'⟩
  · rw [hg] at hg'
    injection hg' with hg'
    subst hg'
    exact ⟨OwnK.stored (h.row j g z hg hz).2 (h.row j g z hg hz).1 k u, by rw [List.length_set]; exact (h.row j g z hg hz).2⟩
  · have h1 := h.row j g' z' hg' hz'
    refine ⟨h1.1.grown (grown_setCell W ⟨g, k, none⟩ (.int .i64 u)) (.inr fun e => hj ?_), h1.2⟩
    injection e with e
    have e : g' = g := e
    rw [e] at hg'
    exact h.di j r g hg' hg
theorem RR.push {W : World} {base B gh m : Nat} {hv : List (List Int)} {gs : List Nat} (h : RR W base B gh m hv gs) (hm : m ≤ 1000) (hr : gs.length < m) (hb : base ≤ W.heap.size) (hB : B ≤ W.heap.size) {r : Nat} (er : gs.length = r) :
    RR ((W.alloc (.cells (madeCells #[.int .i64 0] m) 3)).setCell ⟨gh, r, none⟩ (slG m W.heap.size)) base (W.heap.size + 1) gh m (hv ++ [List.replicate m 0]) (gs ++ [W.heap.size]) := by
  subst er
  have hbl : Below B W (W.alloc (.cells (madeCells #[.int .i64 0] m) 3)) := (Below.refl _ _).alloc hB _
  have h1 := h.belowB hbl
  have h2 := h1.blk.set gs.length (slG m W.heap.size)
  rw [rowsV_set _ hr] at h2
  have hgh : gh < W.heap.size := Nat.lt_of_lt_of_le h.hB hB
  refine ⟨h2, by rw [List.length_append, List.length_append, h.gl]; rfl, by rw [List.length_append, List.length_singleton]; omega, fun r g z hg hz => ?_, fun r g hg => ?_, fun r s g hg hs => ?_, h.bh, by omega⟩
  · rcases Nat.lt_or_ge r gs.length with hlt | hge
    · rw [List.getElem?_append_left hlt] at hg
      rw [List.getElem?_append_left (by rw [← h.gl]; exact hlt)] at hz
      have h3 := h1.row r g z hg hz
      exact ⟨h3.1.grown (grown_setCell _ ⟨gh, gs.length, none⟩ _) (.inr fun e => by injection e with e; exact (h.ne r g hg).1 e), h3.2⟩
    · rw [List.getElem?_append_right hge] at hg
      rw [List.getElem?_append_right (by rw [← h.gl]; exact hge), ← h.gl] at hz
      have e0 : r - gs.length = 0 := by have := (List.getElem?_eq_some_iff.1 hg).1; simp at this; omega
      rw [e0] at hg hz
      simp only [List.getElem?_cons_zero, Option.some.injEq] at hg hz
      subst hg hz
      exact ⟨((ownZ m hm W).mono hb).grown (grown_setCell _ ⟨gh, gs.length, none⟩ _) (.inr fun e => by injection e with e; have e : W.heap.size = gh := e; omega), List.length_replicate⟩
  · rcases Nat.lt_or_ge r gs.length with hlt | hge
    · rw [List.getElem?_append_left hlt] at hg
      have := h.ne r g hg
      exact ⟨this.1, by omega⟩
    · rw [List.getElem?_append_right hge] at hg
      have e0 : r - gs.length = 0 := by have := (List.getElem?_eq_some_iff.1 hg).1; simp at this; omega
      rw [e0] at hg
      simp only [List.getElem?_cons_zero, Option.some.injEq] at hg
      omega
  · have key : ∀ (r g : Nat), (gs ++ [W.heap.size])[r]? = some g → (r < gs.length ∧ gs[r]? = some g ∧ g < W.heap.size) ∨ (r = gs.length ∧ g = W.heap.size) := fun r g hg => by
      rcases Nat.lt_or_ge r gs.length with hlt | hge
      · rw [List.getElem?_append_left hlt] at hg
        exact .inl ⟨hlt, hg, by have := (h.ne r g hg).2; omega⟩
      · rw [List.getElem?_append_right hge] at hg
        have e0 : r - gs.length = 0 := by have := (List.getElem?_eq_some_iff.1 hg).1; simp at this; omega
        rw [e0] at hg
        simp only [List.getElem?_cons_zero, Option.some.injEq] at hg
        exact .inr ⟨by omega, hg.symm⟩
    rcases key r g hg with ⟨a1, a2, a3⟩ | ⟨a1, a2⟩
    · rcases key s g hs with ⟨b1, b2, b3⟩ | ⟨b1, b2⟩
      · exact h.di r s g a2 b2
      · omega
    · rcases key s g hs with ⟨b1, b2, b3⟩ | ⟨b1, b2⟩
      · omega
      · omega
/-- so far it has heard -/
def mixL (a b : List Int) (k : Nat) : List Int := (List.range a.length).map fun j => if j < k then max (a.getD j 0) (b.getD j 0) else a.getD j 0
theorem mixL_len (a b : List Int) (k : Nat) : (mixL a b k).length = a.length := by simp [mixL]
theorem mixL_at (a b : List Int) (k j : Nat) (h : j < a.length) : (mixL a b k).getD j 0 = if j < k then max (a.getD j 0) (b.getD j 0) else a.getD j 0 := by
  rw [List.getD_eq_getElem?_getD]
  simp [mixL, h]
theorem ext_getD {a b : List Int} (hl : a.length = b.length) (h : ∀ k, k < a.length → a.getD k 0 = b.getD k 0) : a = b := by
  apply List.ext_getElem hl
  intro k h1 h2
  have g := h k h1
  rw [List.getD_eq_getElem?_getD, List.getD_eq_getElem?_getD, List.getElem?_eq_getElem h1, List.getElem?_eq_getElem h2] at g
  simpa using g
theorem mixL_zero (a b : List Int) : mixL a b 0 = a := ext_getD (mixL_len a b 0) (fun k hk => by
  rw [mixL_len] at hk
  rw [mixL_at a b 0 k hk, if_neg (Nat.not_lt_zero _)])
theorem mixL_all (a b : List Int) : mixL a b a.length = maxL a b := ext_getD (by rw [mixL_len, maxL_len]) (fun k hk => by
  rw [mixL_len] at hk
  rw [mixL_at a b _ k hk, maxL_at a b k hk, if_pos hk])
theorem mixL_next (a b : List Int) (k : Nat) (h : k < a.length) : (mixL a b k).set k (max (a.getD k 0) (b.getD k 0)) = mixL a b (k + 1) := ext_getD (by rw [List.length_set, mixL_len, mixL_len]) (fun j hj => by
  rw [List.length_set, mixL_len] at hj
  rw [getD_set _ k j _ (by rw [mixL_len]; exact h), mixL_at a b _ j hj, mixL_at a b _ j hj]
  by_cases e : j = k
  · subst e
    rw [if_pos rfl, if_pos (by omega)]
  · rw [if_neg e]
    by_cases h2 : j < k
    · rw [if_pos h2, if_pos (by omega)]
    · rw [if_neg h2, if_neg (by omega)])
theorem set_selfR {hv : List (List Int)} {r : Nat} {a : List Int} (h : hv[r]? = some a) : hv.set r a = hv := by
  apply List.ext_getElem?
  intro j
  rw [List.getElem?_set]
  by_cases e : r = j
  · subst e
    rw [if_pos rfl, if_pos (List.getElem?_eq_some_iff.1 h).1, h]
  · rw [if_neg e]
theorem set_atR {hv : List (List Int)} {r : Nat} {a : List Int} (b : List Int) (h : hv[r]? = some a) : (hv.set r b)[r]? = some b := by
  rw [List.getElem?_set, if_pos rfl, if_pos (List.getElem?_eq_some_iff.1 h).1]
/-- what stands in the other one's row while it hears -/
theorem mix_other {hv : List (List Int)} {r s k : Nat} {a b : List Int} (ha : hv[r]? = some a) (hb : hv[s]? = some b) (hk : k < a.length) : ∃ b', (hv.set r (mixL a b k))[s]? = some b' ∧ b'.getD k 0 = b.getD k 0 := by
  by_cases e : r = s
  · subst e
    rw [ha] at hb
    injection hb with hb
    subst hb
    refine ⟨mixL a a k, ?_, ?_⟩
    · rw [List.getElem?_set, if_pos rfl, if_pos (List.getElem?_eq_some_iff.1 ha).1]
    · rw [mixL_at a a k k hk, if_neg (Nat.lt_irrefl _)]
  · exact ⟨b, by rw [List.getElem?_set, if_neg e]; exact hb, rfl⟩
end Go.Proofs.YtdpopdlifcjdeaaDoor
