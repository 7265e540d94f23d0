/- What is cut off, and what was taken, of stamps, rows and texts: mathematics. -/
import Derived.Test.YtabbbpmhmlapgaaDoorSW
import Derived.Test.YtabbbpmhmlapgaaDoorH7
import Derived.Test.YtabbbpmhmlapgaaDoorKK
namespace Go.Proofs.YtabbbpmhmlapgaaDoor
open Go.RowKit Go.Lib
set_option linter.unusedVariables false

theorem tkN_pair {bs : List Int} (h : (tkN bs).2.2 = 0) : tkN bs = ((tkN bs).1, (tkN bs).2.1, 0) := by
  rw [← h]

/-- stamps -/
theorem tkSt_cut {t r : Int} (h : St.plB t r = true) {j : Nat} (hj : j < (St.encS t r).length) : St.tkSt ((St.encS t r).take j) = (0, 0, 0, 7) := by
  obtain ⟨h1, h2, h3, h4⟩ := St.plB_num h
  unfold St.encS at hj ⊢
  rw [List.length_append] at hj
  by_cases hc : j < (enc t.toNat).length
  · rw [List.take_append_of_le_length (by omega)]
    have e := tkN_cut (n := t.toNat) (by omega) hc
    rw [St.tkSt_err (by rw [e]; decide), e]
  · have e : (enc t.toNat ++ enc r.toNat).take j = enc t.toNat ++ (enc r.toNat).take (j - (enc t.toNat).length) := by
      rw [List.take_append, List.take_of_length_le (by omega)]
    have e2 := tkN_enc (n := t.toNat) (by omega) ((enc r.toNat).take (j - (enc t.toNat).length))
    have e3 := tkN_cut (n := r.toNat) (by omega) (j := j - (enc t.toNat).length) (by omega)
    rw [e]
    rw [St.tkSt_err2 (by rw [e2]) (by rw [e2]; simp only; rw [List.drop_left, e3]; decide), e2]
    simp only
    rw [List.drop_left, e3]
theorem tkSt_back {bs : List Int} (hb : IsB bs) (h : (St.tkSt bs).2.2.2 = 0) : St.plB (St.tkSt bs).1 (St.tkSt bs).2.1 = true ∧ (St.tkSt bs).2.2.1 ≤ bs.length ∧ St.encS (St.tkSt bs).1 (St.tkSt bs).2.1 = bs.take (St.tkSt bs).2.2.1 := by
  by_cases h1 : (tkN bs).2.2 = 0
  · by_cases h2 : (tkN (bs.drop (tkN bs).2.1)).2.2 = 0
    · cases h3 : St.plB (tkN bs).1 (tkN (bs.drop (tkN bs).2.1)).1
      · rw [St.tkSt_no h1 h2 h3] at h
        simp at h
      · rw [St.tkSt_yes h1 h2 h3]
        obtain ⟨a1, a2, a3, a4, a5⟩ := tkN_back hb h1
        obtain ⟨b1, b2, b3, b4, b5⟩ := tkN_back (hb.drop _) h2
        rw [List.length_drop] at b4
        refine ⟨h3, by simp only; omega, ?_⟩
        simp only [St.encS]
        rw [a5, b5, ← List.take_add]
    · rw [St.tkSt_err2 h1 h2] at h
      exact absurd h h2
  · rw [St.tkSt_err h1] at h
    exact absurd h h1
theorem tkSt_k (bs : List Int) (hb : IsB bs) : (St.tkSt bs).2.2.1 ≤ bs.length := by
  by_cases h : (St.tkSt bs).2.2.2 = 0
  · exact (tkSt_back hb h).2.1
  · by_cases h1 : (tkN bs).2.2 = 0
    · by_cases h2 : (tkN (bs.drop (tkN bs).2.1)).2.2 = 0
      · cases h3 : St.plB (tkN bs).1 (tkN (bs.drop (tkN bs).2.1)).1
        · rw [St.tkSt_no h1 h2 h3]; simp
        · rw [St.tkSt_yes h1 h2 h3] at h; simp at h
      · rw [St.tkSt_err2 h1 h2]; simp
    · rw [St.tkSt_err h1]; simp

/-- rows of numbers -/
theorem tkL_cut (bs : List Int) : ∀ (l : List Int) (p j : Nat) (acc : List Int), (∀ z ∈ l, numB z = true) → bs.drop p = (encs l).take j → j < (encs l).length → tkL bs l.length p acc = ([], 0, 7) := by
  intro l
  induction l with
  | nil => intro p j acc _ _ hj; simp [encs] at hj
  | cons z r ih =>
    intro p j acc h hd hj
    have hz := h z (by simp)
    simp only [numB, decide_eq_true_eq] at hz
    rw [encs_cons] at hd hj
    rw [List.length_append] at hj
    rw [List.length_cons, tkL]
    by_cases hc : j < (enc z.toNat).length
    · rw [List.take_append_of_le_length (by omega)] at hd
      rw [hd, tkN_cut (by omega) hc]
      simp
    · have e : (enc z.toNat ++ encs r).take j = enc z.toNat ++ (encs r).take (j - (enc z.toNat).length) := by
        rw [List.take_append, List.take_of_length_le (by omega)]
      rw [e] at hd
      have e2 := tkN_enc (n := z.toNat) (by omega) ((encs r).take (j - (enc z.toNat).length))
      rw [← hd] at e2
      rw [e2]
      simp only
      rw [if_neg (by simp)]
      exact ih _ (j - (enc z.toNat).length) _ (fun y hy => h y (by simp [hy])) (by rw [← List.drop_drop, hd, List.drop_left]) (by omega)
theorem tkNs_cut {l : List Int} (h : ∀ z ∈ l, numB z = true) (hl : l.length ≤ 1024) {j : Nat} (hj : j < (encL l).length) : tkNs ((encL l).take j) = ([], 0, 7) := by
  unfold encL at hj ⊢
  rw [List.length_append] at hj
  by_cases hc : j < (enc l.length).length
  · rw [List.take_append_of_le_length (by omega)]
    unfold tkNs
    rw [tkN_cut (by omega) hc]
    simp
  · have e : (enc l.length ++ encs l).take j = enc l.length ++ (encs l).take (j - (enc l.length).length) := by
      rw [List.take_append, List.take_of_length_le (by omega)]
    have e2 := tkN_enc (n := l.length) (by omega) ((encs l).take (j - (enc l.length).length))
    unfold tkNs
    rw [e, e2]
    simp only
    rw [if_neg (by simp), if_neg (by omega), Int.toNat_natCast]
    exact tkL_cut _ l _ (j - (enc l.length).length) _ h (by rw [List.drop_left]) (by omega)
theorem tkL_back (bs : List Int) (hb : IsB bs) : ∀ (c p : Nat) (acc : List Int), (tkL bs c p acc).2.2 = 0 → ∃ l : List Int, l.length = c ∧ (tkL bs c p acc).1 = acc ++ l ∧ (tkL bs c p acc).2.1 = p + (encs l).length ∧ encs l = (bs.drop p).take (encs l).length := by
  intro c
  induction c with
  | zero => intro p acc _; exact ⟨[], rfl, by simp [tkL], by simp [tkL, encs], by simp [encs]⟩
  | succ c ih =>
    intro p acc h
    rw [tkL] at h ⊢
    by_cases he : (tkN (bs.drop p)).2.2 = 0
    · rw [if_neg (by simp [he])] at h ⊢
      obtain ⟨l, h1, h2, h3, h4⟩ := ih _ _ h
      obtain ⟨a1, a2, a3, a4, a5⟩ := tkN_back (hb.drop p) he
      have hlen : (enc (tkN (bs.drop p)).1.toNat).length = (tkN (bs.drop p)).2.1 := by
        rw [a5, List.length_take]; omega
      refine ⟨(tkN (bs.drop p)).1 :: l, by simp [h1], by rw [h2]; simp, ?_, ?_⟩
      · rw [h3, encs_cons, List.length_append, hlen]; omega
      · rw [encs_cons, List.length_append, hlen, List.take_add, List.drop_drop, ← h4, ← a5]
    · rw [if_pos he] at h
      exact absurd h he
theorem tkNs_back {bs : List Int} (hb : IsB bs) (h : (tkNs bs).2.2 = 0) : (tkNs bs).2.1 ≤ bs.length ∧ encL (tkNs bs).1 = bs.take (tkNs bs).2.1 := by
  unfold tkNs at h ⊢
  by_cases he : (tkN bs).2.2 = 0
  · rw [if_neg (by simp [he])] at h ⊢
    by_cases h2 : 1024 < (tkN bs).1
    · rw [if_pos h2] at h; simp at h
    · rw [if_neg h2] at h ⊢
      obtain ⟨a1, a2, a3, a4, a5⟩ := tkN_back hb he
      refine ⟨tkL_le bs hb _ _ _ a4, ?_⟩
      obtain ⟨l, h1, h2, h3, h4⟩ := tkL_back bs hb _ _ _ h
      rw [h2, h3, List.nil_append, encL, h1, a5, List.take_add, ← h4]
  · rw [if_pos he] at h
    exact absurd h he

/-- vectors -/
theorem tkV_cut {l : List Int} (h : Hv.vecB l = true) {j : Nat} (hj : j < (encL l).length) : Hv.tkV ((encL l).take j) = ([], 0, 7) := by
  have e := tkNs_cut (Hv.vec_num h) (by have := Hv.vecB_len h; omega) hj
  rw [Hv.tkV_err (by rw [e]; decide), e]
theorem tkV_back {bs : List Int} (hb : IsB bs) (h : (Hv.tkV bs).2.2 = 0) : Hv.vecB (Hv.tkV bs).1 = true ∧ (Hv.tkV bs).2.1 ≤ bs.length ∧ encL (Hv.tkV bs).1 = bs.take (Hv.tkV bs).2.1 := by
  by_cases h1 : (tkNs bs).2.2 = 0
  · cases h2 : Hv.vecB (tkNs bs).1
    · rw [Hv.tkV_no h1 h2] at h; simp at h
    · rw [Hv.tkV_yes h1 h2]
      exact ⟨h2, tkNs_back hb h1⟩
  · rw [Hv.tkV_err h1] at h
    exact absurd h h1
theorem tkV_k (bs : List Int) (hb : IsB bs) : (Hv.tkV bs).2.1 ≤ bs.length := by
  by_cases h : (Hv.tkV bs).2.2 = 0
  · exact (tkV_back hb h).2.1
  · by_cases h1 : (tkNs bs).2.2 = 0
    · cases h2 : Hv.vecB (tkNs bs).1
      · rw [Hv.tkV_no h1 h2]; simp
      · rw [Hv.tkV_yes h1 h2] at h; simp at h
    · rw [Hv.tkV_err h1]; simp

/-- texts -/
theorem strN_of {zs : List Int} (h : IsB zs) : strN (strOfNums zs) = zs := by
  unfold strN
  rw [strOfNums_data, List.map_map]
  conv => rhs; rw [← List.map_id zs]
  apply List.map_congr_left
  intro z hz
  have := h z hz
  simp only [Function.comp_apply, id_eq]
  rw [UInt8.toNat_ofNat']
  omega
theorem tkS_back {bs : List Int} (hb : IsB bs) (h : (tkS bs).2.2 = 0) : (tkS bs).1.size ≤ 65536 ∧ (tkS bs).2.1 ≤ bs.length ∧ enc (tkS bs).1.size ++ strN (tkS bs).1 = bs.take (tkS bs).2.1 := by
  unfold tkS at h ⊢
  by_cases he : (tkN bs).2.2 = 0
  · rw [if_neg (by simp [he])] at h ⊢
    by_cases h2 : 65536 < (tkN bs).1
    · rw [if_pos h2] at h; simp at h
    · rw [if_neg h2] at h ⊢
      by_cases h3 : (bs.length : Int) - (tkN bs).2.1 < (tkN bs).1
      · rw [if_pos h3] at h; simp at h
      · rw [if_neg h3] at h ⊢
        obtain ⟨a1, a2, a3, a4, a5⟩ := tkN_back hb he
        have hs : (strOfNums ((bs.drop (tkN bs).2.1).take (tkN bs).1.toNat)).size = (tkN bs).1.toNat := by
          rw [strOfNums_size, List.length_take, List.length_drop]; omega
        refine ⟨by simp only; omega, by simp only; omega, ?_⟩
        simp only
        rw [hs, strN_of ((hb.drop _).take _), a5, List.take_add]
  · rw [if_pos he] at h
    exact absurd h he
theorem tkS_k (bs : List Int) (hb : IsB bs) : (tkS bs).2.1 ≤ bs.length := by
  by_cases h : (tkS bs).2.2 = 0
  · exact (tkS_back hb h).2.1
  · unfold tkS at h ⊢
    split
    · simp
    · split
      · simp
      · split
        · simp
        · simp_all
end Go.Proofs.YtabbbpmhmlapgaaDoor
