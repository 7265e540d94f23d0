/- Join, Lacks, Covers, Count; the page's Covers; mathematics of them. -/
import Derived.Test.YtponpbcchfbkpaaH4
namespace Go.Proofs.Ytponpbcchfbkpaa
open Go.RowKit Go.Lib
set_option linter.unusedVariables false

theorem vec_mem {l : List Int} (h : vecB l = true) : ∀ z ∈ l, 0 ≤ z ∧ z ≤ 1099511627776 := by
  unfold vecB at h
  simp only [Bool.and_eq_true, List.all_eq_true, tmB, decide_eq_true_eq] at h
  exact h.1
theorem joinL_len {l m : List Int} (h : l.length = m.length) : (joinL l m).length = l.length := zip_len _ h
theorem lackL_len {l m : List Int} (h : l.length = m.length) : (lackL l m).length = l.length := zip_len _ h
theorem joinL_at {l m : List Int} (h : l.length = m.length) {k : Nat} (hk : k < l.length) : (joinL l m).getD k 0 = max (l.getD k 0) (m.getD k 0) := zip_at _ hk (by omega)
theorem lackL_at {l m : List Int} (h : l.length = m.length) {k : Nat} (hk : k < l.length) : (lackL l m).getD k 0 = max 0 (m.getD k 0 - l.getD k 0) := zip_at _ hk (by omega)
theorem joinL_vec {l m : List Int} (h : pairB l m = true) : vecB (joinL l m) = true := by
  obtain ⟨h1, h2, h3⟩ := (pairB_iff l m).1 h
  rw [vecB_iff, joinL_len h3]
  refine ⟨fun i hi => ?_, vecB_len h1⟩
  rw [joinL_at h3 hi]
  have g1 := vecB_at h1 hi
  have g2 := vecB_at h2 (k := i) (by omega)
  omega
theorem lackL_vec {l m : List Int} (h : pairB l m = true) : vecB (lackL l m) = true := by
  obtain ⟨h1, h2, h3⟩ := (pairB_iff l m).1 h
  rw [vecB_iff, lackL_len h3]
  refine ⟨fun i hi => ?_, vecB_len h1⟩
  rw [lackL_at h3 hi]
  have g1 := vecB_at h1 hi
  have g2 := vecB_at h2 (k := i) (by omega)
  omega
theorem pairB_join {l m : List Int} (h : pairB l m = true) : pairB (joinL l m) l = true ∧ pairB (joinL l m) m = true := by
  obtain ⟨h1, h2, h3⟩ := (pairB_iff l m).1 h
  exact ⟨(pairB_iff _ _).2 ⟨joinL_vec h, h1, joinL_len h3⟩, (pairB_iff _ _).2 ⟨joinL_vec h, h2, by rw [joinL_len h3, h3]⟩⟩
theorem pairB_comm {l m : List Int} (h : pairB l m = true) : pairB m l = true := by
  obtain ⟨h1, h2, h3⟩ := (pairB_iff l m).1 h
  exact (pairB_iff _ _).2 ⟨h2, h1, h3.symm⟩
theorem pairB_self {l : List Int} (h : vecB l = true) : pairB l l = true := (pairB_iff _ _).2 ⟨h, h, rfl⟩
theorem list_at {l m : List Int} (h : l.length = m.length) (h2 : ∀ i, i < l.length → l.getD i 0 = m.getD i 0) : l = m := by
  refine List.ext_getElem h fun i h1 h3 => ?_
  have := h2 i h1
  simpa [List.getD_eq_getElem?_getD, List.getElem?_eq_getElem h1, List.getElem?_eq_getElem h3] using this
theorem joinL_comm {l m : List Int} (h : l.length = m.length) : joinL l m = joinL m l := by
  refine list_at (by rw [joinL_len h, joinL_len h.symm, h]) fun i hi => ?_
  rw [joinL_len h] at hi
  rw [joinL_at h hi, joinL_at h.symm (by omega)]
  omega
theorem joinL_self (l : List Int) : joinL l l = l := by
  refine list_at (joinL_len rfl) fun i hi => ?_
  rw [joinL_len rfl] at hi
  rw [joinL_at rfl hi]
  omega
theorem sum_zero : ∀ (l : List Int), (∀ z ∈ l, 0 ≤ z) → (l.sum = 0 ↔ ∀ z ∈ l, z = 0)
  | [], _ => by simp
  | z :: r, h => by
    have h1 := sum_zero r (fun x hx => h x (List.mem_cons_of_mem _ hx))
    have h2 := h z (List.mem_cons_self ..)
    have h3 : 0 ≤ r.sum := by
      clear h1
      have : ∀ (q : List Int), (∀ x ∈ q, 0 ≤ x) → 0 ≤ q.sum := by
        intro q
        induction q with
        | nil => intro _; simp
        | cons y q ih =>
          intro hq
          have a1 := ih (fun x hx => hq x (List.mem_cons_of_mem _ hx))
          have a2 := hq y (List.mem_cons_self ..)
          rw [List.sum_cons]; omega
      exact this r (fun x hx => h x (List.mem_cons_of_mem _ hx))
    rw [List.sum_cons]
    constructor
    · intro hs x hx
      rcases List.mem_cons.1 hx with rfl | hx
      · omega
      · exact h1.1 (by omega) x hx
    · intro hx
      have a1 := hx z (List.mem_cons_self ..)
      have a2 := h1.2 (fun x hx' => hx x (List.mem_cons_of_mem _ hx'))
      omega
/-- whether no element of m is above that of l -/
def coversB (l m : List Int) : Bool := (lackL l m).sum == 0
theorem coversB_iff {l m : List Int} (h : pairB l m = true) : coversB l m = true ↔ ∀ i, i < l.length → m.getD i 0 ≤ l.getD i 0 := by
  obtain ⟨h1, h2, h3⟩ := (pairB_iff l m).1 h
  unfold coversB
  rw [beq_iff_eq, sum_zero _ (fun z hz => (vec_mem (lackL_vec h) z hz).1)]
  constructor
  · intro hz i hi
    have := hz _ (getD_in (l := lackL l m) (k := i) (by rw [lackL_len h3]; exact hi))
    rw [lackL_at h3 hi] at this
    omega
  · intro hz z hz2
    obtain ⟨i, hi, rfl⟩ := List.getElem_of_mem hz2
    rw [lackL_len h3] at hi
    have g := lackL_at h3 hi
    have g2 := hz i hi
    rw [List.getD_eq_getElem?_getD, List.getElem?_eq_getElem (by rw [lackL_len h3]; exact hi)] at g
    simp only [Option.getD_some] at g
    omega
theorem pairB_len {l m : List Int} (h : pairB l m = true) : l.length = m.length ∧ 1 ≤ l.length ∧ l.length ≤ 16 := by
  obtain ⟨h1, h2, h3⟩ := (pairB_iff l m).1 h
  have := vecB_len h1
  omega

def ErrPost (w : World) (e : Ending) (w' : World) : Prop := e = .returned (.tuple #[.slice none 0 0, .int .i64 1]) ∧ w = w'
def VecPost (w : World) (zs : List Int) (e : Ending) (w' : World) : Prop := ∃ v, e = .returned (.tuple #[v, .int .i64 0]) ∧ OwnK .i64 3 w' w.heap.size v zs ∧ Below w.heap.size w w'

set_option maxHeartbeats 400000 in
theorem join_no (a b : Option Addr) (l m : List Int) (na ca nb cb : Nat) (w : World) (ha : RowK .i64 w a l) (hb : RowK .i64 w b m) (hna : na = l.length) (hnb : nb = m.length) (hl : l.length ≤ 140737488355328) (hm : m.length ≤ 140737488355328) (h : pairB l m = false) : Calls Try.prog 10 #[.slice a na ca, .slice b nb cb] w (ErrPost w) := by
  have C := Lib.hid (compatible_any a b l m na ca nb cb w ha hb hna hnb hl hm)
  rw [h] at C
  clear ha hb hna hnb h
  go_enter Try.func10, Try.ntmps10
  go_wp2_with fail
  refine (C.out).mono ?_
  rintro e w' ⟨rfl, rfl⟩
  go_wp2
  go_ret2
  exact ⟨rfl, rfl⟩
set_option maxHeartbeats 400000 in
theorem join_yes (a b : Option Addr) (l m : List Int) (na ca nb cb : Nat) (w : World) (ha : RowK .i64 w a l) (hb : RowK .i64 w b m) (hna : na = l.length) (hnb : nb = m.length) (h : pairB l m = true) : Calls Try.prog 10 #[.slice a na ca, .slice b nb cb] w (VecPost w (joinL l m)) := by
  obtain ⟨hlm, hl1, hl16⟩ := pairB_len h
  have C := Lib.hid (compatible_any a b l m na ca nb cb w ha hb hna hnb (by omega) (by omega))
  have hnn : nb = na := by omega
  subst hnn
  have D := Lib.hid (pairwise_larger a b l m (joinL l m) nb ca cb w ha hb hna hnb (by rw [joinL_len hlm]; exact hna) (by omega) (fun k hk W => by
    have := larger_any (l.getD k 0) (m.getD k 0) W
    rw [← joinL_at hlm hk] at this
    exact this))
  rw [h] at C
  clear ha hb hna hnb h
  go_enter Try.func10, Try.ntmps10
  go_wp2_with fail
  refine (C.out).mono ?_
  rintro e w' ⟨rfl, rfl⟩
  go_wp2_with fail
  refine (D.out).mono ?_
  rintro e w1 ⟨v, rfl, ho, hbl⟩
  have HO := Lib.hid ho
  have HB := Lib.hid hbl
  clear ho hbl
  go_wp2
  go_ret2
  exact ⟨v, rfl, HO.out, HB.out⟩

set_option maxHeartbeats 400000 in
theorem lacks_no (a b : Option Addr) (l m : List Int) (na ca nb cb : Nat) (w : World) (ha : RowK .i64 w a l) (hb : RowK .i64 w b m) (hna : na = l.length) (hnb : nb = m.length) (hl : l.length ≤ 140737488355328) (hm : m.length ≤ 140737488355328) (h : pairB l m = false) : Calls Try.prog 11 #[.slice a na ca, .slice b nb cb] w (ErrPost w) := by
  have C := Lib.hid (compatible_any a b l m na ca nb cb w ha hb hna hnb hl hm)
  rw [h] at C
  clear ha hb hna hnb h
  go_enter Try.func11, Try.ntmps11
  go_wp2_with fail
  refine (C.out).mono ?_
  rintro e w' ⟨rfl, rfl⟩
  go_wp2
  go_ret2
  exact ⟨rfl, rfl⟩
set_option maxHeartbeats 400000 in
theorem lacks_yes (a b : Option Addr) (l m : List Int) (na ca nb cb : Nat) (w : World) (ha : RowK .i64 w a l) (hb : RowK .i64 w b m) (hna : na = l.length) (hnb : nb = m.length) (h : pairB l m = true) : Calls Try.prog 11 #[.slice a na ca, .slice b nb cb] w (VecPost w (lackL l m)) := by
  obtain ⟨hlm, hl1, hl16⟩ := pairB_len h
  have C := Lib.hid (compatible_any a b l m na ca nb cb w ha hb hna hnb (by omega) (by omega))
  have hnn : nb = na := by omega
  subst hnn
  have D := Lib.hid (pairwise_behind a b l m (lackL l m) nb ca cb w ha hb hna hnb (by rw [lackL_len hlm]; exact hna) (by omega) (fun k hk W => by
    have := behind_any (l.getD k 0) (m.getD k 0) W (vecB_at ((pairB_iff l m).1 h).1 hk) (vecB_at ((pairB_iff l m).1 h).2.1 (by omega))
    rw [← lackL_at hlm hk] at this
    exact this))
  rw [h] at C
  clear ha hb hna hnb h
  go_enter Try.func11, Try.ntmps11
  go_wp2_with fail
  refine (C.out).mono ?_
  rintro e w' ⟨rfl, rfl⟩
  go_wp2_with fail
  refine (D.out).mono ?_
  rintro e w1 ⟨v, rfl, ho, hbl⟩
  have HO := Lib.hid ho
  have HB := Lib.hid hbl
  clear ho hbl
  go_wp2
  go_ret2
  exact ⟨v, rfl, HO.out, HB.out⟩

theorem sum_vec (a : Option Addr) (l : List Int) (n c : Nat) (w : World) (hn : n = l.length) (hr : RowK .i64 w a l) (hc : l.length ≤ c) (h : vecB l = true) : Calls Try.prog 25 #[.slice a n c] w fun e w' => e = .returned (.int .i64 l.sum) ∧ w = w' :=
  sum_any a l n c w hn hr hc (vec_mem h) (vecB_len h).2
set_option maxHeartbeats 400000 in
theorem count_no (a : Option Addr) (l : List Int) (n c : Nat) (w : World) (hr : RowK .i64 w a l) (hn : n = l.length) (hl : l.length ≤ 140737488355328) (h : vecB l = false) : Calls Try.prog 12 #[.slice a n c] w fun e w' => e = .returned (.tuple #[.int .i64 0, .int .i64 1]) ∧ w = w' := by
  have C := Lib.hid (check_no a l n c w hr hn hl h)
  clear hr hn h
  go_enter Try.func12, Try.ntmps12
  go_wp2_with fail
  refine (C.out).mono ?_
  rintro e w' ⟨rfl, rfl⟩
  go_wp2
  go_ret2
  exact ⟨rfl, rfl⟩
set_option maxHeartbeats 400000 in
theorem count_yes (a : Option Addr) (l : List Int) (n c : Nat) (w : World) (hr : RowK .i64 w a l) (hn : n = l.length) (hc : l.length ≤ c) (h : vecB l = true) : Calls Try.prog 12 #[.slice a n c] w fun e w' => e = .returned (.tuple #[.int .i64 l.sum, .int .i64 0]) ∧ w = w' := by
  have C := Lib.hid (check_yes a l n c w hr hn (by have := vecB_len h; omega) h)
  have D := Lib.hid (sum_vec a l n c w hn hr hc h)
  generalize l.sum = s at *
  clear hr hn h
  go_enter Try.func12, Try.ntmps12
  go_wp2_with fail
  refine (C.out).mono ?_
  rintro e w' ⟨rfl, rfl⟩
  go_wp2_with fail
  refine (D.out).mono ?_
  rintro e w' ⟨rfl, rfl⟩
  go_wp2
  go_ret2
  exact ⟨rfl, rfl⟩

def CovNo (w : World) (e : Ending) (w' : World) : Prop := e = .returned (.tuple #[.bool false, .int .i64 1]) ∧ w = w'
def CovPost (w : World) (b : Bool) (e : Ending) (w' : World) : Prop := e = .returned (.tuple #[.bool b, .int .i64 0]) ∧ Below w.heap.size w w'
set_option maxHeartbeats 400000 in
theorem covers_no (a b : Option Addr) (l m : List Int) (na ca nb cb : Nat) (w : World) (ha : RowK .i64 w a l) (hb : RowK .i64 w b m) (hna : na = l.length) (hnb : nb = m.length) (hl : l.length ≤ 140737488355328) (hm : m.length ≤ 140737488355328) (h : pairB l m = false) : Calls Try.prog 9 #[.slice a na ca, .slice b nb cb] w (CovNo w) := by
  have C := Lib.hid (lacks_no a b l m na ca nb cb w ha hb hna hnb hl hm h)
  clear ha hb hna hnb h
  go_enter Try.func9, Try.ntmps9
  go_wp2_with fail
  refine (C.out).mono ?_
  rintro e w' ⟨rfl, rfl⟩
  go_wp2
  go_ret2
  exact ⟨rfl, rfl⟩
set_option maxHeartbeats 400000 in
theorem covers_yes (a b : Option Addr) (l m : List Int) (na ca nb cb : Nat) (w : World) (ha : RowK .i64 w a l) (hb : RowK .i64 w b m) (hna : na = l.length) (hnb : nb = m.length) (h : pairB l m = true) : Calls Try.prog 9 #[.slice a na ca, .slice b nb cb] w (CovPost w (coversB l m)) := by
  have C := Lib.hid (lacks_yes a b l m na ca nb cb w ha hb hna hnb h)
  have HV := Lib.hid (lackL_vec h)
  clear ha hb hna hnb h
  unfold coversB
  go_enter Try.func9, Try.ntmps9
  go_wp2_with fail
  refine (C.out).mono ?_
  rintro e w1 ⟨v, rfl, ho, hbl⟩
  obtain ⟨a1, c1, rfl, hr1, hc1, _⟩ := ho.form
  have D := Lib.hid (sum_vec a1 (lackL l m) _ c1 w1 rfl hr1 hc1 HV.out)
  have HB := Lib.hid hbl
  clear ho hbl hr1 hc1
  generalize (lackL l m).sum = s at *
  generalize (lackL l m).length = n at *
  go_wp2_with fail
  refine (D.out).mono ?_
  rintro e w' ⟨rfl, rfl⟩
  go_wp2
  go_ret2
  exact ⟨rfl, HB.out⟩

def QuietB (w : World) (b : Bool) (e : Ending) (w' : World) : Prop := e = .returned (.bool b) ∧ ∃ n, w' = w.drewN n
set_option maxHeartbeats 1000000 in
theorem refCovers_any (a b : Option Addr) (l m : List Int) (na ca nb cb : Nat) (w : World) (ha : RowK .i64 w a l) (hb : RowK .i64 w b m) (hna : na = l.length) (hnb : nb = m.length) (h : pairB l m = true) : Calls Try.prog 17 #[.slice a na ca, .slice b nb cb] w (QuietB w (coversB l m)) := by
  have mixed : Try.prog.follows .mixedOrders = true := by kernel_rfl
  obtain ⟨hlm, hl1, hl16⟩ := pairB_len h
  have HC := Lib.hid (coversB_iff h)
  have HA := Lib.hid ha
  have HB := Lib.hid hb
  have HNA := Lib.hid hna
  have hnn : nb = na := by omega
  have hn16 : na ≤ 16 := by omega
  subst hnn
  have HLM := Lib.hid hlm
  clear ha hb hna hnb h hlm hl1 hl16
  generalize coversB l m = bb at *
  go_enter Try.func17, Try.ntmps17
  go_wp2
  go_loopg [5] nb (fun g1 v wr => ∃ k n : Nat, v = .int .i64 k ∧ k ≤ nb ∧ nb - k ≤ g1 ∧ Hid (wr = w.drewN n ∧ ∀ j, j < k → m.getD j 0 ≤ l.getD j 0))
  case atStart => exact ⟨0, 0, rfl, Nat.zero_le _, by omega, rfl, fun j hj => by omega⟩
  case round =>
    obtain ⟨k, n, rfl, hk, hg, HW⟩ := hrel
    by_cases hlt : k < nb
    · obtain ⟨b1, o1, rfl, hc1⟩ := HA.out k (by have := HNA.out; omega)
      obtain ⟨b2, o2, rfl, hc2⟩ := HB.out k (by have := HNA.out; have := HLM.out; omega)
      have hw := HW.out.1
      subst hw
      have hd1 : (w.drewN n).cell? ⟨b1, o1 + k, none⟩ = some (.int .i64 (l.getD k 0)) := hc1
      have hd2 : (w.drewN n).cell? ⟨b2, o2 + k, none⟩ = some (.int .i64 (m.getD k 0)) := hc2
      have hltz : (k : Int) < (nb : Int) := by omega
      by_cases hz : l.getD k 0 < m.getD k 0
      · have HE : Hid (bb = false) := by
          show _ = false
          rw [← Bool.not_eq_true, HC.out]
          intro h
          have := h k (by have := HNA.out; omega)
          omega
        have ht : decide (l.getD k 0 < m.getD k 0) = true := decide_eq_true hz
        generalize l.getD k 0 = x at *
        generalize m.getD k 0 = y at *
        clear HW
        go_wp2_with fail
        go_quiet (fail)
        go_wp2
        go_ret
        exact ⟨ret_bool HE.out.symm, n + nq, by rw [World.drewN_drewN]⟩
      · have HE : Hid (∀ j, j < k + 1 → m.getD j 0 ≤ l.getD j 0) := fun j hj => by
          by_cases e : j = k
          · subst e; omega
          · exact HW.out.2 j (by omega)
        have ht : decide (l.getD k 0 < m.getD k 0) = false := decide_eq_false hz
        generalize l.getD k 0 = x at *
        generalize m.getD k 0 = y at *
        clear HW
        go_wp2_with fail
        go_quiet (fail)
        go_wp2
        go_roundg (nb - (k + 1))
        case measure => omega
        case rel => exact ⟨k + 1, _, by go_num, by omega, by omega, rfl, HE.out⟩
    · have hltz : ¬ (k : Int) < (nb : Int) := by omega
      have HE : Hid (bb = true) := by
        show _ = true
        rw [HC.out]
        intro i hi
        exact HW.out.2 i (by have := HNA.out; omega)
      go_wp2
      go_ret
      exact ⟨ret_bool HE.out.symm, n, HW.out.1⟩
end Go.Proofs.Ytponpbcchfbkpaa
