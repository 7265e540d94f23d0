/- Weights taken so many times as great give the same parts; a total that divides evenly gives each just its part. -/
import Derived.Test.YtekiknngiefkbaaX5
namespace Go.Proofs.Ytekiknngiefkbaa
open Go.Shelf Go.RowKit Go.Lib Go.Sort Go.Proofs

/-- the place of an index in the order: how many keys are less -/
theorem pos_count {rs : List Int} {ord : List Nat} (h : OrdOk rs ord) {t : Nat} (ht : t < rs.length) : ((List.range rs.length).map fun y => if keyR rs y < keyR rs (ord.getD t 0) then (1 : Int) else 0).sum = t := by
  rw [ord_sum h (fun y => if keyR rs y < keyR rs (ord.getD t 0) then (1 : Int) else 0)]
  rw [range_map_congr rs.length _ (fun s => if s < t then (1 : Int) else 0)]
  · exact count_sum t rs.length (by omega)
  · intro s hs
    rcases Nat.lt_trichotomy s t with c | c | c
    · have := h.up s t c (by rw [h.length]; exact ht)
      rw [if_pos this, if_pos c]
    · subst c; rw [if_neg (by omega), if_neg (by omega)]
    · have := h.up t s c (by rw [h.length]; exact hs)
      rw [if_neg (by omega), if_neg (by omega)]

theorem ord_unique {rs : List Int} {o1 o2 : List Nat} (h1 : OrdOk rs o1) (h2 : OrdOk rs o2) : o1 = o2 := by
  apply List.ext_getElem (by rw [h1.length, h2.length])
  intro t a b
  have ht : t < rs.length := by rw [← h1.length]; exact a
  obtain ⟨s, hs, e⟩ := h2.surj (h1.lt ht)
  have c1 := pos_count h1 ht
  have c2 := pos_count h2 hs
  rw [e, c1] at c2
  have hst : s = t := by omega
  subst hst
  rw [List.getD_eq_getElem?_getD, List.getD_eq_getElem?_getD, List.getElem?_eq_getElem b, List.getElem?_eq_getElem a] at e
  exact e.symm

def times (c : Int) (ws : List Int) : List Int := ws.map (· * c)
theorem times_len (c : Int) (ws : List Int) : (times c ws).length = ws.length := by simp [times]
theorem times_get (c : Int) (ws : List Int) (i : Nat) (h : i < ws.length) : (times c ws).getD i 0 = ws.getD i 0 * c := map_getD _ ws i h
theorem times_sum (c : Int) (ws : List Int) : (times c ws).sum = ws.sum * c := by
  unfold times
  induction ws with
  | nil => simp
  | cons x r ih => simp only [List.map_cons, List.sum_cons]; rw [ih, Int.add_mul]

theorem qs_times (total c : Int) (ws : List Int) (hc : 0 < c) : qsL total (times c ws) = qsL total ws := by
  unfold qsL
  rw [times_sum]
  unfold times
  rw [List.map_map]
  apply List.map_congr_left
  intro x _
  show total * (x * c) / (ws.sum * c) = total * x / ws.sum
  rw [← Int.mul_assoc]
  exact Int.mul_ediv_mul_of_pos_left _ _ hc
theorem rs_times (total c : Int) (ws : List Int) (hc : 0 < c) : rsL total (times c ws) = times c (rsL total ws) := by
  unfold rsL
  rw [times_sum]
  unfold times
  rw [List.map_map, List.map_map]
  apply List.map_congr_left
  intro x _
  show total * (x * c) % (ws.sum * c) = total * x % ws.sum * c
  rw [← Int.mul_assoc]
  have h1 := Int.mul_ediv_add_emod (total * x * c) (ws.sum * c)
  have h2 := Int.mul_ediv_add_emod (total * x) ws.sum
  rw [Int.mul_ediv_mul_of_pos_left _ _ hc] at h1
  have h3 : (ws.sum * (total * x / ws.sum) + total * x % ws.sum) * c = total * x * c := by rw [h2]
  rw [Int.add_mul] at h3
  have h4 : ws.sum * c * (total * x / ws.sum) = ws.sum * (total * x / ws.sum) * c := by rw [Int.mul_assoc, Int.mul_comm c, ← Int.mul_assoc]
  omega

theorem ord_times {rs : List Int} {ord : List Nat} (h : OrdOk (times 7 rs) ord) (h256 : rs.length ≤ 256) : OrdOk rs ord := by
  have hl := times_len 7 rs
  refine ⟨by have := h.perm; rw [hl] at this; exact this, ?_⟩
  intro s t hst ht
  have ht' : t < rs.length := by have := h.length; omega
  have h1 := h.up s t hst ht
  have a1 := h.lt (t := s) (by omega)
  have a2 := h.lt (t := t) (by omega)
  rw [hl] at a1 a2
  unfold keyR at h1 ⊢
  rw [times_get 7 rs _ a1, times_get 7 rs _ a2] at h1
  generalize ord.getD s 0 = x at *
  generalize ord.getD t 0 = y at *
  generalize rs.getD x 0 = p at *
  generalize rs.getD y 0 = q at *
  omega

theorem split_times {total : Int} {ws : List Int} {o1 o2 : List Nat} (h256 : ws.length ≤ 256) (h1 : OrdOk (rsL total ws) o1) (h2 : OrdOk (rsL total (times 7 ws)) o2) : splitL total (times 7 ws) o2 = splitL total ws o1 := by
  rw [rs_times total 7 ws (by omega)] at h2
  have h3 := ord_times h2 (by rw [rsL_len]; exact h256)
  have e := ord_unique h1 h3
  subst e
  unfold splitL leftI
  rw [qs_times total 7 ws (by omega), times_len]

theorem may_times {total : Int} {ws : List Int} (h : May total ws) (hw : ∀ i, i < ws.length → ws.getD i 0 ≤ 1000) : May total (times 7 ws) := by
  refine ⟨h.t0, h.t1, by rw [times_len]; exact h.n0, by rw [times_len]; exact h.n1, fun i hi => ?_, ?_⟩
  · rw [times_len] at hi
    rw [times_get 7 ws i hi]
    have := h.w0 i hi
    have := hw i hi
    omega
  · rw [times_sum]; have := h.s0; omega

theorem split_even {ws : List Int} {ord : List Nat} (h : May (ws.sum * 5) ws) (i : Nat) (hi : i < ws.length) : (splitL (ws.sum * 5) ws ord).getD i 0 = 5 * ws.getD i 0 := by
  have hq : ∀ k, k < ws.length → (qsL (ws.sum * 5) ws).getD k 0 = 5 * ws.getD k 0 := by
    intro k hk
    rw [show (qsL (ws.sum * 5) ws).getD k 0 = ws.sum * 5 * ws.getD k 0 / ws.sum from map_getD _ ws k hk, Int.mul_assoc]
    exact Int.mul_ediv_cancel_left _ (by have := h.s0; omega)
  have hl : leftI (ws.sum * 5) ws = 0 := by
    have e : qsL (ws.sum * 5) ws = times 5 ws := by
      apply list_ext_getD (by rw [qsL_len, times_len])
      intro k hk
      rw [qsL_len] at hk
      rw [hq k hk, times_get 5 ws k hk, Int.mul_comm]
    unfold leftI
    rw [e, times_sum]; omega
  rw [splitL_get _ ws ord i hi, hl]
  unfold gotL
  rw [show (0 : Int).toNat = 0 from rfl, hit_none, hq i hi]
  simp
end Go.Proofs.Ytekiknngiefkbaa
