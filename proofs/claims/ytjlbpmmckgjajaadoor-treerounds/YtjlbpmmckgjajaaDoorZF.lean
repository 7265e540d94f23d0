/- Joined: O5 OM O7 O8 O6 O9 O9b O15 O16 O18. -/
import Derived.Test.YtjlbpmmckgjajaaDoorZE
import Derived.Test.YtjlbpmmckgjajaaDoorZB
import Derived.Test.YtjlbpmmckgjajaaDoorZC
import Derived.ProofKit
import Derived.OpenShut
import Derived.Deep.Slices
import Derived.Deep.Fields
import Derived.ChangeSame
import Derived.ChangeSlices
import Derived.ChangeArms
import Derived.SizedLaws

/- One field of an operation as bytes. -/
namespace Go.Proofs.YtjlbpmmckgjajaaDoor
open Go.RowKit Go.Lib
set_option linter.unusedVariables false

theorem bytes_up {w W W' : World} {zs : List Int} {e : Ending} (hb : Below w.heap.size w W) (h : BytesPost W zs e W') : BytesPost w zs e W' := by
  obtain ⟨v, he, ho, hb2⟩ := h
  exact ⟨v, he, ho.mono hb.size, hb.trans (hb2.mono hb.size)⟩
theorem st_pl {t r : Int} (h : St.stB t r = true) : St.plB t r = true := by simp [St.plB, h]
theorem tab_bd : ∀ p : Nat, p < 19 → -1 ≤ Pr.lowT p ∧ Pr.highT p ≤ 1099511627776 := by decide
theorem errP_bd {p v : Int} (h : Pr.errP p v = 0) : 0 ≤ p ∧ p < 19 ∧ -1 ≤ v ∧ v ≤ 1099511627776 := by
  unfold Pr.errP at h
  cases h1 : Pr.propB p
  · simp [h1] at h
  · obtain ⟨n, rfl, hn⟩ := Pr.propB_yes h1
    obtain ⟨b1, b2⟩ := tab_bd n hn
    by_cases h2 : Pr.lowT (n : Int).toNat ≤ v ∧ v ≤ Pr.highT (n : Int).toNat
    · simp only [Int.toNat_natCast] at h2
      omega
    · rw [h1, if_neg h2] at h
      simp at h
theorem keyB_len {s : ByteArray} (h : Ky.keyB (strN s) = true) : s.size ≤ 64 := by
  rw [Ky.keyB_size] at h
  simp at h
  omega
/-- a field's bytes -/
def fldE (f : Nat) (t r : Int) (ds : List Int) (k nt nr pt pr : Int) (s : ByteArray) (p v : Int) : List Int :=
  match f with
  | 0 => St.encS t r
  | 1 => encL ds
  | 2 => enc k.toNat
  | 3 => St.encS nt nr
  | 4 => St.encS pt pr
  | 5 => enc s.size ++ strN s
  | 6 => enc p.toNat
  | _ => enc (v + 1).toNat

/-- which field is the part -/
def fAt (i : Nat) (k : Int) : Nat := if 3 < i ∧ k = 2 then i + 2 else i
theorem fAt_cast (i : Nat) (k : Int) : (if 3 < (i : Int) ∧ k = 2 then (i : Int) + 2 else (i : Int)) = ((fAt i k : Nat) : Int) := by
  unfold fAt
  by_cases h : 3 < i ∧ k = 2
  · rw [if_pos h, if_pos ⟨by omega, h.2⟩]; omega
  · rw [if_neg h, if_neg (by omega)]
/-- a part's bytes, all parts' up to one -/
def prtE (i : Nat) (t r : Int) (ds : List Int) (k nt nr pt pr : Int) (s : ByteArray) (p v : Int) : List Int := fldE (fAt i k) t r ds k nt nr pt pr s p v
def preE (n : Nat) (t r : Int) (ds : List Int) (k nt nr pt pr : Int) (s : ByteArray) (p v : Int) : List Int := (List.range n).flatMap fun i => prtE i t r ds k nt nr pt pr s p v
theorem preE_zero (t r : Int) (ds : List Int) (k nt nr pt pr : Int) (s : ByteArray) (p v : Int) : preE 0 t r ds k nt nr pt pr s p v = [] := rfl
theorem preE_succ (n : Nat) (t r : Int) (ds : List Int) (k nt nr pt pr : Int) (s : ByteArray) (p v : Int) : preE (n + 1) t r ds k nt nr pt pr s p v = preE n t r ds k nt nr pt pr s p v ++ prtE n t r ds k nt nr pt pr s p v := by simp [preE, List.range_succ]
/-- an operation's bytes -/
def encO (t r : Int) (ds : List Int) (k nt nr pt pr : Int) (s : ByteArray) (p v : Int) : List Int := preE 6 t r ds k nt nr pt pr s p v
theorem opB_parts {t r q : Int} {ds : List Int} {k nt nr pt pr : Int} {s : ByteArray} {p v : Int} (h : opB t r q ds k nt nr pt pr s p v = true) : St.stB t r = true ∧ St.stB nt nr = true ∧ cntB r q ds = true ∧ kndB k pt pr s p v = true := by
  simp only [opB, Bool.and_eq_true] at h
  exact ⟨h.1.1.1, h.1.1.2, h.1.2, h.2⟩
theorem cntB_parts {r q : Int} {ds : List Int} (h : cntB r q ds = true) : Hv.vecB ds = true ∧ r < ds.length ∧ 1 ≤ q ∧ q ≤ 1099511627776 ∧ q = ds.getD r.toNat 0 + 1 := by
  simp only [cntB, Bool.and_eq_true, decide_eq_true_eq] at h
  exact ⟨h.1.1.1.1, h.1.1.1.2, h.1.1.2, h.1.2, h.2⟩
theorem kndB_parts {k pt pr : Int} {s : ByteArray} {p v : Int} (h : kndB k pt pr s p v = true) : (k = 1 ∧ St.plB pt pr = true ∧ Ky.keyB (strN s) = true ∧ p = 0 ∧ v = 0) ∨ (k = 2 ∧ Pr.errP p v = 0 ∧ pt = 0 ∧ pr = 0 ∧ strN s = []) := by
  unfold kndB at h
  by_cases h1 : k = 1
  · rw [if_pos h1] at h
    simp only [Bool.and_eq_true, decide_eq_true_eq] at h
    exact .inl ⟨h1, h.1.1.1, h.1.1.2, h.1.2, h.2⟩
  · rw [if_neg h1] at h
    by_cases h2 : k = 2
    · rw [if_pos h2] at h
      simp only [Bool.and_eq_true, decide_eq_true_eq] at h
      exact .inr ⟨h2, h.1.1, h.1.2.1, h.1.2.2, h.2⟩
    · rw [if_neg h2] at h
      exact absurd h (by decide)
theorem prtE_len {t r q : Int} {ds : List Int} {k nt nr pt pr : Int} {s : ByteArray} {p v : Int} (h : opB t r q ds k nt nr pt pr s p v = true) (i : Nat) (hi : i < 6) : (prtE i t r ds k nt nr pt pr s p v).length ≤ 153 := by
  obtain ⟨h1, h2, h3, h4⟩ := opB_parts h
  obtain ⟨g1, g2, g3, g4, g5⟩ := cntB_parts h3
  have hn : ∀ n : Nat, n ≤ 4611686018427387904 → (enc n).length ≤ 9 := fun n hn => enc_len9 hn
  match i, hi with
  | 0, _ => exact Nat.le_trans (St.encS_len (st_pl h1)) (by omega)
  | 1, _ => exact Hv.encV_len g1
  | 2, _ => exact Nat.le_trans (hn k.toNat (by rcases kndB_parts h4 with ⟨rfl, _⟩ | ⟨rfl, _⟩ <;> decide)) (by omega)
  | 3, _ => exact Nat.le_trans (St.encS_len (st_pl h2)) (by omega)
  | 4, _ =>
    rcases kndB_parts h4 with ⟨rfl, k1, k2, k3, k4⟩ | ⟨rfl, k1, k2, k3, k4⟩
    · exact Nat.le_trans (St.encS_len k1) (by omega)
    · have := errP_bd k1
      exact Nat.le_trans (hn p.toNat (by omega)) (by omega)
  | 5, _ =>
    rcases kndB_parts h4 with ⟨rfl, k1, k2, k3, k4⟩ | ⟨rfl, k1, k2, k3, k4⟩
    · have h5 := keyB_len k2
      show (enc s.size ++ strN s).length ≤ 153
      rw [List.length_append, strN_len]
      have := hn s.size (by omega)
      omega
    · have := errP_bd k1
      exact Nat.le_trans (hn (v + 1).toNat (by omega)) (by omega)
theorem preE_len {t r q : Int} {ds : List Int} {k nt nr pt pr : Int} {s : ByteArray} {p v : Int} (h : opB t r q ds k nt nr pt pr s p v = true) : ∀ n : Nat, n ≤ 6 → (preE n t r ds k nt nr pt pr s p v).length ≤ 153 * n
  | 0, _ => by simp [preE_zero]
  | n + 1, hn => by
    rw [preE_succ, List.length_append]
    have h1 := preE_len h n (by omega)
    have h2 := prtE_len h n (by omega)
    omega
end Go.Proofs.YtjlbpmmckgjajaaDoor

/- What is cut off, and what was taken, of stamps, rows and texts: mathematics. -/
namespace Go.Proofs.YtjlbpmmckgjajaaDoor
open Go.RowKit Go.Lib
set_option linter.unusedVariables false

theorem tkN_pair {bs : List Int} (h : (tkN bs).2.2 = 0) : tkN bs = ((tkN bs).1, (tkN bs).2.1, 0) := by
  rw [← h]

/-- stamps -/
theorem tkSt_cut {t r : Int} (h : St.plB t r = true) {j : Nat} (hj : j < (St.encS t r).length) : St.tkSt ((St.encS t r).take j) = (0, 0, 0, 7) := by
  obtain ⟨h1, h2, h3, h4⟩ := St.plB_num h
  unfold St.encS at hj ⊢
  rw [List.length_append] at hj
  by_cases hc : j < (enc t.toNat).length
  · rw [List.take_append_of_le_length (by omega)]
    have e := tkN_cut (n := t.toNat) (by omega) hc
    rw [St.tkSt_err (by rw [e]; decide), e]
  · have e : (enc t.toNat ++ enc r.toNat).take j = enc t.toNat ++ (enc r.toNat).take (j - (enc t.toNat).length) := by
      rw [List.take_append, List.take_of_length_le (by omega)]
    have e2 := tkN_enc (n := t.toNat) (by omega) ((enc r.toNat).take (j - (enc t.toNat).length))
    have e3 := tkN_cut (n := r.toNat) (by omega) (j := j - (enc t.toNat).length) (by omega)
    rw [e]
    rw [St.tkSt_err2 (by rw [e2]) (by rw [e2]; simp only; rw [List.drop_left, e3]; decide), e2]
    simp only
    rw [List.drop_left, e3]
theorem tkSt_back {bs : List Int} (hb : IsB bs) (h : (St.tkSt bs).2.2.2 = 0) : St.plB (St.tkSt bs).1 (St.tkSt bs).2.1 = true ∧ (St.tkSt bs).2.2.1 ≤ bs.length ∧ St.encS (St.tkSt bs).1 (St.tkSt bs).2.1 = bs.take (St.tkSt bs).2.2.1 := by
  by_cases h1 : (tkN bs).2.2 = 0
  · by_cases h2 : (tkN (bs.drop (tkN bs).2.1)).2.2 = 0
    · cases h3 : St.plB (tkN bs).1 (tkN (bs.drop (tkN bs).2.1)).1
      · rw [St.tkSt_no h1 h2 h3] at h
        simp at h
      · rw [St.tkSt_yes h1 h2 h3]
        obtain ⟨a1, a2, a3, a4, a5⟩ := tkN_back hb h1
        obtain ⟨b1, b2, b3, b4, b5⟩ := tkN_back (hb.drop _) h2
        rw [List.length_drop] at b4
        refine ⟨h3, by simp only; omega, ?_⟩
        simp only [St.encS]
        rw [a5, b5, ← List.take_add]
    · rw [St.tkSt_err2 h1 h2] at h
      exact absurd h h2
  · rw [St.tkSt_err h1] at h
    exact absurd h h1
theorem tkSt_k (bs : List Int) (hb : IsB bs) : (St.tkSt bs).2.2.1 ≤ bs.length := by
  by_cases h : (St.tkSt bs).2.2.2 = 0
  · exact (tkSt_back hb h).2.1
  · by_cases h1 : (tkN bs).2.2 = 0
    · by_cases h2 : (tkN (bs.drop (tkN bs).2.1)).2.2 = 0
      · cases h3 : St.plB (tkN bs).1 (tkN (bs.drop (tkN bs).2.1)).1
        · rw [St.tkSt_no h1 h2 h3]; simp
        · rw [St.tkSt_yes h1 h2 h3] at h; simp at h
      · rw [St.tkSt_err2 h1 h2]; simp
    · rw [St.tkSt_err h1]; simp

/-- rows of numbers -/
theorem tkL_cut (bs : List Int) : ∀ (l : List Int) (p j : Nat) (acc : List Int), (∀ z ∈ l, numB z = true) → bs.drop p = (encs l).take j → j < (encs l).length → tkL bs l.length p acc = ([], 0, 7) := by
  intro l
  induction l with
  | nil => intro p j acc _ _ hj; simp [encs] at hj
  | cons z r ih =>
    intro p j acc h hd hj
    have hz := h z (by simp)
    simp only [numB, decide_eq_true_eq] at hz
    rw [encs_cons] at hd hj
    rw [List.length_append] at hj
    rw [List.length_cons, tkL]
    by_cases hc : j < (enc z.toNat).length
    · rw [List.take_append_of_le_length (by omega)] at hd
      rw [hd, tkN_cut (by omega) hc]
      simp
    · have e : (enc z.toNat ++ encs r).take j = enc z.toNat ++ (encs r).take (j - (enc z.toNat).length) := by
        rw [List.take_append, List.take_of_length_le (by omega)]
      rw [e] at hd
      have e2 := tkN_enc (n := z.toNat) (by omega) ((encs r).take (j - (enc z.toNat).length))
      rw [← hd] at e2
      rw [e2]
      simp only
      rw [if_neg (by simp)]
      exact ih _ (j - (enc z.toNat).length) _ (fun y hy => h y (by simp [hy])) (by rw [← List.drop_drop, hd, List.drop_left]) (by omega)
theorem tkNs_cut {l : List Int} (h : ∀ z ∈ l, numB z = true) (hl : l.length ≤ 1024) {j : Nat} (hj : j < (encL l).length) : tkNs ((encL l).take j) = ([], 0, 7) := by
  unfold encL at hj ⊢
  rw [List.length_append] at hj
  by_cases hc : j < (enc l.length).length
  · rw [List.take_append_of_le_length (by omega)]
    unfold tkNs
    rw [tkN_cut (by omega) hc]
    simp
  · have e : (enc l.length ++ encs l).take j = enc l.length ++ (encs l).take (j - (enc l.length).length) := by
      rw [List.take_append, List.take_of_length_le (by omega)]
    have e2 := tkN_enc (n := l.length) (by omega) ((encs l).take (j - (enc l.length).length))
    unfold tkNs
    rw [e, e2]
    simp only
    rw [if_neg (by simp), if_neg (by omega), Int.toNat_natCast]
    exact tkL_cut _ l _ (j - (enc l.length).length) _ h (by rw [List.drop_left]) (by omega)
theorem tkL_back (bs : List Int) (hb : IsB bs) : ∀ (c p : Nat) (acc : List Int), (tkL bs c p acc).2.2 = 0 → ∃ l : List Int, l.length = c ∧ (tkL bs c p acc).1 = acc ++ l ∧ (tkL bs c p acc).2.1 = p + (encs l).length ∧ encs l = (bs.drop p).take (encs l).length := by
  intro c
  induction c with
  | zero => intro p acc _; exact ⟨[], rfl, by simp [tkL], by simp [tkL, encs], by simp [encs]⟩
  | succ c ih =>
    intro p acc h
    rw [tkL] at h ⊢
    by_cases he : (tkN (bs.drop p)).2.2 = 0
    · rw [if_neg (by simp [he])] at h ⊢
      obtain ⟨l, h1, h2, h3, h4⟩ := ih _ _ h
      obtain ⟨a1, a2, a3, a4, a5⟩ := tkN_back (hb.drop p) he
      have hlen : (enc (tkN (bs.drop p)).1.toNat).length = (tkN (bs.drop p)).2.1 := by
        rw [a5, List.length_take]; omega
      refine ⟨(tkN (bs.drop p)).1 :: l, by simp [h1], by rw [h2]; simp, ?_, ?_⟩
      · rw [h3, encs_cons, List.length_append, hlen]; omega
      · rw [encs_cons, List.length_append, hlen, List.take_add, List.drop_drop, ← h4, ← a5]
    · rw [if_pos he] at h
      exact absurd h he
theorem tkNs_back {bs : List Int} (hb : IsB bs) (h : (tkNs bs).2.2 = 0) : (tkNs bs).2.1 ≤ bs.length ∧ encL (tkNs bs).1 = bs.take (tkNs bs).2.1 := by
  unfold tkNs at h ⊢
  by_cases he : (tkN bs).2.2 = 0
  · rw [if_neg (by simp [he])] at h ⊢
    by_cases h2 : 1024 < (tkN bs).1
    · rw [if_pos h2] at h; simp at h
    · rw [if_neg h2] at h ⊢
      obtain ⟨a1, a2, a3, a4, a5⟩ := tkN_back hb he
      refine ⟨tkL_le bs hb _ _ _ a4, ?_⟩
      obtain ⟨l, h1, h2, h3, h4⟩ := tkL_back bs hb _ _ _ h
      rw [h2, h3, List.nil_append, encL, h1, a5, List.take_add, ← h4]
  · rw [if_pos he] at h
    exact absurd h he

/-- vectors -/
theorem tkV_cut {l : List Int} (h : Hv.vecB l = true) {j : Nat} (hj : j < (encL l).length) : Hv.tkV ((encL l).take j) = ([], 0, 7) := by
  have e := tkNs_cut (Hv.vec_num h) (by have := Hv.vecB_len h; omega) hj
  rw [Hv.tkV_err (by rw [e]; decide), e]
theorem tkV_back {bs : List Int} (hb : IsB bs) (h : (Hv.tkV bs).2.2 = 0) : Hv.vecB (Hv.tkV bs).1 = true ∧ (Hv.tkV bs).2.1 ≤ bs.length ∧ encL (Hv.tkV bs).1 = bs.take (Hv.tkV bs).2.1 := by
  by_cases h1 : (tkNs bs).2.2 = 0
  · cases h2 : Hv.vecB (tkNs bs).1
    · rw [Hv.tkV_no h1 h2] at h; simp at h
    · rw [Hv.tkV_yes h1 h2]
      exact ⟨h2, tkNs_back hb h1⟩
  · rw [Hv.tkV_err h1] at h
    exact absurd h h1
theorem tkV_k (bs : List Int) (hb : IsB bs) : (Hv.tkV bs).2.1 ≤ bs.length := by
  by_cases h : (Hv.tkV bs).2.2 = 0
  · exact (tkV_back hb h).2.1
  · by_cases h1 : (tkNs bs).2.2 = 0
    · cases h2 : Hv.vecB (tkNs bs).1
      · rw [Hv.tkV_no h1 h2]; simp
      · rw [Hv.tkV_yes h1 h2] at h; simp at h
    · rw [Hv.tkV_err h1]; simp

/-- texts -/
theorem strN_of {zs : List Int} (h : IsB zs) : strN (strOfNums zs) = zs := by
  unfold strN
  rw [strOfNums_data, List.map_map]
  conv => rhs; rw [← List.map_id zs]
  apply List.map_congr_left
  intro z hz
  have := h z hz
  simp only [Function.comp_apply, id_eq]
  rw [UInt8.toNat_ofNat']
  omega
theorem tkS_back {bs : List Int} (hb : IsB bs) (h : (tkS bs).2.2 = 0) : (tkS bs).1.size ≤ 65536 ∧ (tkS bs).2.1 ≤ bs.length ∧ enc (tkS bs).1.size ++ strN (tkS bs).1 = bs.take (tkS bs).2.1 := by
  unfold tkS at h ⊢
  by_cases he : (tkN bs).2.2 = 0
  · rw [if_neg (by simp [he])] at h ⊢
    by_cases h2 : 65536 < (tkN bs).1
    · rw [if_pos h2] at h; simp at h
    · rw [if_neg h2] at h ⊢
      by_cases h3 : (bs.length : Int) - (tkN bs).2.1 < (tkN bs).1
      · rw [if_pos h3] at h; simp at h
      · rw [if_neg h3] at h ⊢
        obtain ⟨a1, a2, a3, a4, a5⟩ := tkN_back hb he
        have hs : (strOfNums ((bs.drop (tkN bs).2.1).take (tkN bs).1.toNat)).size = (tkN bs).1.toNat := by
          rw [strOfNums_size, List.length_take, List.length_drop]; omega
        refine ⟨by simp only; omega, by simp only; omega, ?_⟩
        simp only
        rw [hs, strN_of ((hb.drop _).take _), a5, List.take_add]
  · rw [if_pos he] at h
    exact absurd h he
theorem tkS_k (bs : List Int) (hb : IsB bs) : (tkS bs).2.1 ≤ bs.length := by
  by_cases h : (tkS bs).2.2 = 0
  · exact (tkS_back hb h).2.1
  · unfold tkS at h ⊢
    split
    · simp
    · split
      · simp
      · split
        · simp
        · simp_all
end Go.Proofs.YtjlbpmmckgjajaaDoor

/- Which operation bytes begin with: mathematics. -/
namespace Go.Proofs.YtjlbpmmckgjajaaDoor
open Go.RowKit Go.Lib
set_option linter.unusedVariables false

/-- an operation's fields, but for its Seq -/
structure OpR where
  t : Int
  r : Int
  ds : List Int
  k : Int
  nt : Int
  nr : Int
  pt : Int
  pr : Int
  s : ByteArray
  p : Int
  v : Int
def zR : OpR := ⟨0, 0, [], 0, 0, 0, 0, 0, ⟨#[]⟩, 0, 0⟩
def OpR.prt (R : OpR) (i : Nat) : List Int := prtE i R.t R.r R.ds R.k R.nt R.nr R.pt R.pr R.s R.p R.v
def OpR.pre (R : OpR) (n : Nat) : List Int := preE n R.t R.r R.ds R.k R.nt R.nr R.pt R.pr R.s R.p R.v
theorem OpR.pre_succ (R : OpR) (n : Nat) : R.pre (n + 1) = R.pre n ++ R.prt n := preE_succ ..
def OpR.ok (R : OpR) (q : Int) : Bool := opB R.t R.r q R.ds R.k R.nt R.nr R.pt R.pr R.s R.p R.v
/-- the kind that bytes begin with -/
def tkK (bs : List Int) : Int × Nat × Int := if (tkN bs).2.2 ≠ 0 then (0, 0, (tkN bs).2.2) else if (tkN bs).1 = 1 ∨ (tkN bs).1 = 2 then tkN bs else (0, 0, 1)
/-- one field taken -/
def updF (f : Nat) (bs : List Int) (R : OpR) : OpR × Nat × Int :=
  match f with
  | 0 => ({ R with t := (St.tkSt bs).1, r := (St.tkSt bs).2.1 }, (St.tkSt bs).2.2.1, (St.tkSt bs).2.2.2)
  | 1 => ({ R with ds := (Hv.tkV bs).1 }, (Hv.tkV bs).2.1, (Hv.tkV bs).2.2)
  | 2 => ({ R with k := (tkK bs).1 }, (tkK bs).2.1, (tkK bs).2.2)
  | 3 => ({ R with nt := (St.tkSt bs).1, nr := (St.tkSt bs).2.1 }, (St.tkSt bs).2.2.1, (St.tkSt bs).2.2.2)
  | 4 => ({ R with pt := (St.tkSt bs).1, pr := (St.tkSt bs).2.1 }, (St.tkSt bs).2.2.1, (St.tkSt bs).2.2.2)
  | 5 => ({ R with s := (tkS bs).1 }, (tkS bs).2.1, (tkS bs).2.2)
  | 6 => ({ R with p := (tkN bs).1 }, (tkN bs).2.1, (tkN bs).2.2)
  | _ => ({ R with v := (tkN bs).1 - 1 }, (tkN bs).2.1, (tkN bs).2.2)
def stepR (bs : List Int) (i : Nat) (X : OpR × Nat × Int) : OpR × Nat × Int := updF (fAt i X.1.k) (bs.drop X.2.1) X.1
def runR (bs : List Int) : Nat → OpR × Nat × Int
  | 0 => (zR, 0, 0)
  | i + 1 => if (runR bs i).2.2 ≠ 0 then runR bs i else if (stepR bs i (runR bs i)).2.2 ≠ 0 then (zR, 0, (stepR bs i (runR bs i)).2.2) else ((stepR bs i (runR bs i)).1, (runR bs i).2.1 + (stepR bs i (runR bs i)).2.1, 0)
theorem runR_stay {bs : List Int} {i : Nat} (h : (runR bs i).2.2 ≠ 0) : runR bs (i + 1) = runR bs i := by rw [runR, if_pos h]
theorem runR_err {bs : List Int} {i : Nat} (h : (runR bs i).2.2 = 0) (h2 : (stepR bs i (runR bs i)).2.2 ≠ 0) : runR bs (i + 1) = (zR, 0, (stepR bs i (runR bs i)).2.2) := by rw [runR, if_neg (by simp [h]), if_pos h2]
theorem runR_ok {bs : List Int} {i : Nat} (h : (runR bs i).2.2 = 0) (h2 : (stepR bs i (runR bs i)).2.2 = 0) : runR bs (i + 1) = ((stepR bs i (runR bs i)).1, (runR bs i).2.1 + (stepR bs i (runR bs i)).2.1, 0) := by rw [runR, if_neg (by simp [h]), if_neg (by simp [h2])]
theorem runR_off {bs : List Int} {i j : Nat} (hij : i ≤ j) (h : (runR bs i).2.2 ≠ 0) : runR bs j = runR bs i := by
  induction hij with
  | refl => rfl
  | step _ ih => rw [runR_stay (by rw [ih]; exact h), ih]
def seqR (R : OpR) : Int := if R.r < R.ds.length then R.ds.getD R.r.toNat 0 + 1 else 0
/-- the operation that bytes begin with, its Seq, how many bytes, the error -/
def tkO (bs : List Int) : OpR × Int × Nat × Int :=
  if (runR bs 6).2.2 ≠ 0 then (zR, 0, 0, (runR bs 6).2.2) else if (runR bs 6).1.ok (seqR (runR bs 6).1) then ((runR bs 6).1, seqR (runR bs 6).1, (runR bs 6).2.1, 0) else (zR, 0, 0, 1)
theorem tkO_err {bs : List Int} (h : (runR bs 6).2.2 ≠ 0) : tkO bs = (zR, 0, 0, (runR bs 6).2.2) := by rw [tkO, if_pos h]
theorem tkO_no {bs : List Int} (h : (runR bs 6).2.2 = 0) (h2 : (runR bs 6).1.ok (seqR (runR bs 6).1) = false) : tkO bs = (zR, 0, 0, 1) := by rw [tkO, if_neg (by simp [h]), h2]; rfl
theorem tkO_yes {bs : List Int} (h : (runR bs 6).2.2 = 0) (h2 : (runR bs 6).1.ok (seqR (runR bs 6).1) = true) : tkO bs = ((runR bs 6).1, seqR (runR bs 6).1, (runR bs 6).2.1, 0) := by rw [tkO, if_neg (by simp [h]), h2]; rfl

/-- what is there when some parts are taken -/
def recI (i : Nat) (R : OpR) : OpR :=
  ⟨if 0 < i then R.t else 0, if 0 < i then R.r else 0, if 1 < i then R.ds else [], if 2 < i then R.k else 0, if 3 < i then R.nt else 0, if 3 < i then R.nr else 0,
   if 4 < i ∧ R.k = 1 then R.pt else 0, if 4 < i ∧ R.k = 1 then R.pr else 0, if 5 < i ∧ R.k = 1 then R.s else ⟨#[]⟩, if 4 < i ∧ R.k = 2 then R.p else 0, if 5 < i ∧ R.k = 2 then R.v else 0⟩
theorem tkK_enc {k : Int} (hk : k = 1 ∨ k = 2) (y : List Int) : tkK (enc k.toNat ++ y) = (k, (enc k.toNat).length, 0) := by
  have e := tkN_enc (n := k.toNat) (by omega) y
  unfold tkK
  rw [e]
  simp only
  rw [if_neg (by simp), if_pos (by omega), show ((k.toNat : Nat) : Int) = k by omega]
theorem tkK_cut {k : Int} (hk : k = 1 ∨ k = 2) {j : Nat} (hj : j < (enc k.toNat).length) : tkK ((enc k.toNat).take j) = (0, 0, 7) := by
  have e := tkN_cut (n := k.toNat) (by omega) hj
  unfold tkK
  rw [e]
  simp
theorem tkZ_enc {z : Int} (h : numB z = true) (y : List Int) : tkN (enc z.toNat ++ y) = (z, (enc z.toNat).length, 0) := by
  simp [numB] at h
  rw [tkN_enc (by omega), show ((z.toNat : Nat) : Int) = z by omega]
theorem tkZ_cut {z : Int} (h : numB z = true) {j : Nat} (hj : j < (enc z.toNat).length) : tkN ((enc z.toNat).take j) = (0, 0, 7) := by
  simp [numB] at h
  exact tkN_cut (by omega) hj

theorem upd_enc {R : OpR} {q : Int} (h : R.ok q = true) (i : Nat) (hi : i < 6) (y : List Int) : updF (fAt i (recI i R).k) (R.prt i ++ y) (recI i R) = (recI (i + 1) R, (R.prt i).length, 0) := by
  obtain ⟨t, r, ds, k, nt, nr, pt, pr, s, p, v⟩ := R
  obtain ⟨h1, h2, h3, h4⟩ := opB_parts h
  simp only at h1 h2 h3 h4
  obtain ⟨g1, g2, g3, g4, g5⟩ := cntB_parts h3
  match i, hi with
  | 0, _ =>
    have e := St.tkSt_enc (st_pl h1) y
    simp [recI, OpR.prt, prtE, fAt, fldE, updF, e]
  | 1, _ =>
    have e := Hv.tkV_enc g1 y
    simp [recI, OpR.prt, prtE, fAt, fldE, updF, e]
  | 2, _ =>
    have e := tkK_enc (k := k) (by rcases kndB_parts h4 with ⟨rfl, _⟩ | ⟨rfl, _⟩ <;> simp) y
    simp [recI, OpR.prt, prtE, fAt, fldE, updF, e]
  | 3, _ =>
    have e := St.tkSt_enc (st_pl h2) y
    simp [recI, OpR.prt, prtE, fAt, fldE, updF, e]
  | 4, _ =>
    rcases kndB_parts h4 with ⟨rfl, k1, k2, k3, k4⟩ | ⟨rfl, k1, k2, k3, k4⟩
    · have e := St.tkSt_enc k1 y
      simp [recI, OpR.prt, prtE, fAt, fldE, updF, e]
    · have := errP_bd k1
      have e := tkZ_enc (z := p) (by simp [numB]; omega) y
      simp [recI, OpR.prt, prtE, fAt, fldE, updF, e]
  | 5, _ =>
    rcases kndB_parts h4 with ⟨rfl, k1, k2, k3, k4⟩ | ⟨rfl, k1, k2, k3, k4⟩
    · have e := tkS_enc s (by have := keyB_len k2; omega) y
      rw [List.append_assoc] at e
      simp [recI, OpR.prt, prtE, fAt, fldE, updF, e]
    · have := errP_bd k1
      have e := tkZ_enc (z := v + 1) (by simp [numB]; omega) y
      simp [recI, OpR.prt, prtE, fAt, fldE, updF, e]
theorem upd_cut {R : OpR} {q : Int} (h : R.ok q = true) (i : Nat) (hi : i < 6) {j : Nat} (hj : j < (R.prt i).length) : (updF (fAt i (recI i R).k) ((R.prt i).take j) (recI i R)).2.2 = 7 := by
  obtain ⟨t, r, ds, k, nt, nr, pt, pr, s, p, v⟩ := R
  obtain ⟨h1, h2, h3, h4⟩ := opB_parts h
  simp only at h1 h2 h3 h4
  obtain ⟨g1, g2, g3, g4, g5⟩ := cntB_parts h3
  match i, hi with
  | 0, _ => exact congrArg (fun x => x.2.2.2) (tkSt_cut (st_pl h1) hj)
  | 1, _ => exact congrArg (fun x => x.2.2) (tkV_cut g1 hj)
  | 2, _ => exact congrArg (fun x => x.2.2) (tkK_cut (k := k) (by rcases kndB_parts h4 with ⟨rfl, _⟩ | ⟨rfl, _⟩ <;> simp) hj)
  | 3, _ => exact congrArg (fun x => x.2.2.2) (tkSt_cut (st_pl h2) hj)
  | 4, _ =>
    rcases kndB_parts h4 with ⟨rfl, k1, k2, k3, k4⟩ | ⟨rfl, k1, k2, k3, k4⟩
    · exact congrArg (fun x => x.2.2.2) (tkSt_cut k1 hj)
    · have := errP_bd k1
      exact congrArg (fun x => x.2.2) (tkZ_cut (z := p) (by simp [numB]; omega) hj)
  | 5, _ =>
    rcases kndB_parts h4 with ⟨rfl, k1, k2, k3, k4⟩ | ⟨rfl, k1, k2, k3, k4⟩
    · exact congrArg (fun x => x.2.2) (tkS_cut s (by have := keyB_len k2; omega) hj)
    · have := errP_bd k1
      exact congrArg (fun x => x.2.2) (tkZ_cut (z := v + 1) (by simp [numB]; omega) hj)
theorem run_enc {R : OpR} {q : Int} (h : R.ok q = true) : ∀ (n : Nat) (bs y : List Int), n ≤ 6 → bs = R.pre n ++ y → runR bs n = (recI n R, (R.pre n).length, 0) := by
  intro n
  induction n with
  | zero => intro bs y _ _; simp [runR, recI, OpR.pre, preE, zR]
  | succ n ih =>
    intro bs y hn hb
    rw [OpR.pre_succ, List.append_assoc] at hb
    have e := ih bs _ (by omega) hb
    have es : stepR bs n (runR bs n) = (recI (n + 1) R, (R.prt n).length, 0) := by
      unfold stepR
      rw [e]
      simp only
      rw [hb, List.drop_left]
      exact upd_enc h n (by omega) y
    rw [runR_ok (by rw [e]) (by rw [es]), es, e, OpR.pre_succ, List.length_append]
theorem run_cut {R : OpR} {q : Int} (h : R.ok q = true) : ∀ (n j : Nat) (bs z : List Int), n ≤ 6 → bs = (R.pre n ++ z).take j → j < (R.pre n).length → (runR bs n).2.2 = 7 := by
  intro n
  induction n with
  | zero => intro j bs z _ _ hj; simp [OpR.pre, preE] at hj
  | succ n ih =>
    intro j bs z hn hb hj
    rw [OpR.pre_succ, List.length_append] at hj
    rw [OpR.pre_succ, List.append_assoc] at hb
    by_cases hc : j < (R.pre n).length
    · have e := ih j bs _ (by omega) hb hc
      rw [runR_stay (by rw [e]; decide), e]
    · have e2 : bs = R.pre n ++ (R.prt n).take (j - (R.pre n).length) := by
        rw [hb, List.take_append, List.take_of_length_le (by omega), List.take_append_of_le_length (by omega)]
      have e := run_enc h n bs _ (by omega) e2
      have es : (stepR bs n (runR bs n)).2.2 = 7 := by
        unfold stepR
        rw [e]
        simp only
        rw [e2, List.drop_left]
        exact upd_cut h n (by omega) (by omega)
      rw [runR_err (by rw [e]) (by rw [es]; decide), es]
theorem strN_nil {s : ByteArray} (h : strN s = []) : s = ⟨#[]⟩ := by rw [← strOf_strN s, h]; rfl
theorem rec6 {R : OpR} {q : Int} (h : R.ok q = true) : recI 6 R = R := by
  obtain ⟨t, r, ds, k, nt, nr, pt, pr, s, p, v⟩ := R
  obtain ⟨h1, h2, h3, h4⟩ := opB_parts h
  rcases kndB_parts h4 with ⟨rfl, k1, k2, rfl, rfl⟩ | ⟨rfl, k1, rfl, rfl, k4⟩
  · simp [recI]
  · have e : s = ⟨#[]⟩ := strN_nil k4
    subst e
    simp [recI]
theorem seqR_is {R : OpR} {q : Int} (h : R.ok q = true) : seqR R = q := by
  obtain ⟨h1, h2, h3, h4⟩ := opB_parts h
  obtain ⟨g1, g2, g3, g4, g5⟩ := cntB_parts h3
  rw [seqR, if_pos g2, g5]
theorem tkO_enc {R : OpR} {q : Int} (h : R.ok q = true) (x : List Int) : tkO (R.pre 6 ++ x) = (R, q, (R.pre 6).length, 0) := by
  have e := run_enc h 6 _ x (by omega) rfl
  rw [rec6 h] at e
  rw [tkO_yes (by rw [e]) (by rw [e]; simp only; rw [seqR_is h]; exact h), e]
  simp only
  rw [seqR_is h]
theorem tkO_cut {R : OpR} {q : Int} (h : R.ok q = true) {j : Nat} (hj : j < (R.pre 6).length) : tkO ((R.pre 6).take j) = (zR, 0, 0, 7) := by
  have e := run_cut h 6 j ((R.pre 6).take j) [] (by omega) (by simp) hj
  rw [tkO_err (by rw [e]; decide), e]

theorem tkK_back {bs : List Int} (hb : IsB bs) (h : (tkK bs).2.2 = 0) : ((tkK bs).1 = 1 ∨ (tkK bs).1 = 2) ∧ (tkK bs).2.1 ≤ bs.length ∧ enc (tkK bs).1.toNat = bs.take (tkK bs).2.1 := by
  unfold tkK at h ⊢
  by_cases he : (tkN bs).2.2 = 0
  · rw [if_neg (by simp [he])] at h ⊢
    by_cases h2 : (tkN bs).1 = 1 ∨ (tkN bs).1 = 2
    · rw [if_pos h2]
      obtain ⟨a1, a2, a3, a4, a5⟩ := tkN_back hb he
      exact ⟨h2, a4, a5⟩
    · rw [if_neg h2] at h; simp at h
  · rw [if_pos he] at h
    exact absurd h he
/-- what was taken was written so -/
theorem upd_back {bs : List Int} (hb : IsB bs) (R : OpR) (n : Nat) (hn : n < 6) (h : (updF (fAt n R.k) bs R).2.2 = 0) : (updF (fAt n R.k) bs R).1.pre n = R.pre n ∧ (updF (fAt n R.k) bs R).2.1 ≤ bs.length ∧ (updF (fAt n R.k) bs R).1.prt n = bs.take (updF (fAt n R.k) bs R).2.1 := by
  match n, hn with
  | 0, _ => exact ⟨rfl, (tkSt_back hb h).2⟩
  | 1, _ => exact ⟨by simp [OpR.pre, preE, prtE, fldE, fAt, updF, List.range_succ], (tkV_back hb h).2⟩
  | 2, _ => exact ⟨by simp [OpR.pre, preE, prtE, fldE, fAt, updF, List.range_succ], (tkK_back hb h).2⟩
  | 3, _ => exact ⟨by simp [OpR.pre, preE, prtE, fldE, fAt, updF, List.range_succ], (tkSt_back hb h).2⟩
  | 4, _ =>
    by_cases hk : R.k = 2
    · have e : fAt 4 R.k = 6 := by simp [fAt, hk]
      rw [e] at h ⊢
      obtain ⟨a1, a2, a3, a4, a5⟩ := tkN_back hb h
      refine ⟨by simp [OpR.pre, preE, prtE, fldE, fAt, updF, List.range_succ], a4, ?_⟩
      rw [← show _ = bs.take (updF 6 bs R).2.1 from a5]
      simp [OpR.prt, prtE, fldE, fAt, updF, hk]
    · have e : fAt 4 R.k = 4 := by simp [fAt, hk]
      rw [e] at h ⊢
      obtain ⟨a1, a2, a3⟩ := tkSt_back hb h
      refine ⟨by simp [OpR.pre, preE, prtE, fldE, fAt, updF, List.range_succ], a2, ?_⟩
      rw [← show _ = bs.take (updF 4 bs R).2.1 from a3]
      simp [OpR.prt, prtE, fldE, fAt, updF, hk]
  | 5, _ =>
    by_cases hk : R.k = 2
    · have e : fAt 5 R.k = 7 := by simp [fAt, hk]
      rw [e] at h ⊢
      obtain ⟨a1, a2, a3, a4, a5⟩ := tkN_back hb h
      refine ⟨by simp [OpR.pre, preE, prtE, fldE, fAt, updF, List.range_succ, hk], a4, ?_⟩
      rw [← show _ = bs.take (updF 7 bs R).2.1 from a5]
      simp [OpR.prt, prtE, fldE, fAt, updF, hk]
    · have e : fAt 5 R.k = 5 := by simp [fAt, hk]
      rw [e] at h ⊢
      obtain ⟨a1, a2, a3⟩ := tkS_back hb h
      refine ⟨by simp [OpR.pre, preE, prtE, fldE, fAt, updF, List.range_succ, hk], a2, ?_⟩
      rw [← show _ = bs.take (updF 5 bs R).2.1 from a3]
      simp [OpR.prt, prtE, fldE, fAt, updF, hk]
theorem run_back {bs : List Int} (hb : IsB bs) : ∀ n : Nat, n ≤ 6 → (runR bs n).2.2 = 0 → (runR bs n).2.1 ≤ bs.length ∧ (runR bs n).1.pre n = bs.take (runR bs n).2.1 := by
  intro n
  induction n with
  | zero => intro _ _; simp [runR, OpR.pre, preE]
  | succ n ih =>
    intro hn h
    by_cases h0 : (runR bs n).2.2 = 0
    · by_cases h1 : (stepR bs n (runR bs n)).2.2 = 0
      · obtain ⟨i1, i2⟩ := ih (by omega) h0
        obtain ⟨u1, u2, u3⟩ := upd_back (hb.drop (runR bs n).2.1) (runR bs n).1 n (by omega) h1
        rw [runR_ok h0 h1]
        simp only
        rw [List.length_drop] at u2
        refine ⟨by unfold stepR; omega, ?_⟩
        rw [OpR.pre_succ]
        unfold stepR
        rw [u1, u3, i2, List.take_add]
      · rw [runR_err h0 h1] at h
        exact absurd h h1
    · rw [runR_stay h0] at h
      exact absurd h h0
theorem run_k {bs : List Int} (hb : IsB bs) (n : Nat) (hn : n ≤ 6) (h : (runR bs n).2.2 = 0) : (runR bs n).2.1 ≤ bs.length := (run_back hb n hn h).1
theorem upd_keep {bs : List Int} (hb : IsB bs) (R : OpR) (n : Nat) (hn : n < 6) (h : (updF (fAt n R.k) bs R).2.2 = 0) (h0 : 0 < n → St.plB R.t R.r = true) (h1 : 1 < n → Hv.vecB R.ds = true) : St.plB (updF (fAt n R.k) bs R).1.t (updF (fAt n R.k) bs R).1.r = true ∧ (0 < n → Hv.vecB (updF (fAt n R.k) bs R).1.ds = true) := by
  match n, hn with
  | 0, _ => exact ⟨(tkSt_back hb h).1, fun h => by omega⟩
  | 1, _ => exact ⟨h0 (by omega), fun _ => (tkV_back hb h).1⟩
  | 2, _ => exact ⟨h0 (by omega), fun _ => h1 (by omega)⟩
  | 3, _ => exact ⟨h0 (by omega), fun _ => h1 (by omega)⟩
  | 4, _ =>
    by_cases hk : R.k = 2
    · have e : fAt 4 R.k = 6 := by simp [fAt, hk]
      rw [e]; exact ⟨h0 (by omega), fun _ => h1 (by omega)⟩
    · have e : fAt 4 R.k = 4 := by simp [fAt, hk]
      rw [e]; exact ⟨h0 (by omega), fun _ => h1 (by omega)⟩
  | 5, _ =>
    by_cases hk : R.k = 2
    · have e : fAt 5 R.k = 7 := by simp [fAt, hk]
      rw [e]; exact ⟨h0 (by omega), fun _ => h1 (by omega)⟩
    · have e : fAt 5 R.k = 5 := by simp [fAt, hk]
      rw [e]; exact ⟨h0 (by omega), fun _ => h1 (by omega)⟩
theorem run_keep {bs : List Int} (hb : IsB bs) : ∀ n : Nat, n ≤ 6 → (runR bs n).2.2 = 0 → (0 < n → St.plB (runR bs n).1.t (runR bs n).1.r = true) ∧ (1 < n → Hv.vecB (runR bs n).1.ds = true) := by
  intro n
  induction n with
  | zero => intro _ _; exact ⟨fun h => by omega, fun h => by omega⟩
  | succ n ih =>
    intro hn h
    by_cases h0 : (runR bs n).2.2 = 0
    · by_cases h1 : (stepR bs n (runR bs n)).2.2 = 0
      · obtain ⟨i1, i2⟩ := ih (by omega) h0
        obtain ⟨u1, u2⟩ := upd_keep (hb.drop (runR bs n).2.1) (runR bs n).1 n (by omega) h1 i1 i2
        rw [runR_ok h0 h1]
        exact ⟨fun _ => u1, fun h => u2 (by omega)⟩
      · rw [runR_err h0 h1] at h
        exact absurd h h1
    · rw [runR_stay h0] at h
      exact absurd h h0
theorem tkO_back {bs : List Int} (hb : IsB bs) (h : (tkO bs).2.2.2 = 0) : (tkO bs).1.ok (tkO bs).2.1 = true ∧ (tkO bs).2.2.1 ≤ bs.length ∧ (tkO bs).1.pre 6 = bs.take (tkO bs).2.2.1 := by
  by_cases h0 : (runR bs 6).2.2 = 0
  · cases h2 : (runR bs 6).1.ok (seqR (runR bs 6).1)
    · rw [tkO_no h0 h2] at h; simp at h
    · rw [tkO_yes h0 h2]
      exact ⟨h2, run_back hb 6 (by omega) h0⟩
  · rw [tkO_err h0] at h
    exact absurd h h0
end Go.Proofs.YtjlbpmmckgjajaaDoor

/- Blocks of one's own; one field taken. -/
namespace Go.Proofs.YtjlbpmmckgjajaaDoor
open Go.RowKit Go.Lib
set_option linter.unusedVariables false

/-- a block of cells of one's own, that may be written -/
structure Blk (w : World) (g : Nat) (vs : List Value) : Prop where
  cell : ∀ i u, vs[i]? = some u → w.cell? ⟨g, i, none⟩ = some u
  free : ∀ i u, vs[i]? = some u → w.frozen? ⟨g, i, none⟩ = false
theorem Blk.lt {w : World} {g : Nat} {v : Value} {vs : List Value} (h : Blk w g (v :: vs)) : g < w.heap.size := World.block_lt_of_cell? _ _ (h.cell 0 v rfl)
theorem Blk.below {w w' : World} {g B : Nat} {vs : List Value} (h : Blk w g vs) (hb : Below B w w') (hB : g < B) : Blk w' g vs :=
  ⟨fun i u hi => (hb.cell (p := ⟨g, i, none⟩) hB).trans (h.cell i u hi), fun i u hi => (hb.frozen (p := ⟨g, i, none⟩) hB).trans (h.free i u hi)⟩
theorem Blk.next {w w' : World} {g : Nat} {v : Value} {vs : List Value} (h : Blk w g (v :: vs)) (hb : Below w.heap.size w w') : Blk w' g (v :: vs) := h.below hb h.lt
theorem Blk.set {w : World} {g : Nat} {vs : List Value} (h : Blk w g vs) (i : Nat) (u : Value) : Blk (w.setCell ⟨g, i, none⟩ u) g (vs.set i u) := by
  constructor
  · intro j x hj
    rw [List.getElem?_set] at hj
    by_cases e : i = j
    · subst e
      rw [if_pos rfl] at hj
      split at hj
      · rename_i hl
        cases hj
        exact World.cell?_setCell_same' _ _ _ (by rw [h.cell i _ (List.getElem?_eq_getElem hl)]; rfl)
      · cases hj
    · rw [if_neg e] at hj
      rw [World.cell?_setCell_other _ _ _ _ (by simp)]
      exact h.cell j x hj
  · intro j x hj
    rw [World.frozen?_setCell]
    rw [List.getElem?_set] at hj
    by_cases e : i = j
    · subst e
      rw [if_pos rfl] at hj
      split at hj
      · rename_i hl
        exact h.free i _ (List.getElem?_eq_getElem hl)
      · cases hj
    · rw [if_neg e] at hj
      exact h.free j x hj
theorem Blk.other {w : World} {g b : Nat} {vs : List Value} (h : Blk w g vs) (hne : b ≠ g) (i : Nat) (u : Value) : Blk (w.setCell ⟨b, i, none⟩ u) g vs :=
  ⟨fun j x hj => by rw [World.cell?_setCell_far _ _ _ _ (by simpa using hne)]; exact h.cell j x hj, fun j x hj => by rw [World.frozen?_setCell]; exact h.free j x hj⟩
theorem Blk.drew {w : World} {g : Nat} {vs : List Value} (h : Blk w g vs) : Blk w.drew g vs := ⟨h.cell, h.free⟩
theorem Blk.drewN {w : World} {g : Nat} {vs : List Value} (h : Blk w g vs) (n : Nat) : Blk (w.drewN n) g vs := ⟨h.cell, h.free⟩
theorem OwnK.far {kd : IntKind} {e : TypeId} {w : World} {base g : Nat} {v : Value} {zs : List Int} (h : OwnK kd e w base v zs) (hg : g < base) (i : Nat) (u : Value) : OwnK kd e (w.setCell ⟨g, i, none⟩ u) base v zs := by
  refine h.grown (grown_setCell w ⟨g, i, none⟩ u) ?_
  by_cases hn : v.ownBlock = some g
  · have := (h.lt hn).1
    omega
  · exact .inr hn

def OpR.cells (R : OpR) (q : Int) (d : Value) : List Value := [.int .i64 R.t, .int .i64 R.r, .int .i64 q, d, .int .i64 R.k, .int .i64 R.nt, .int .i64 R.nr, .int .i64 R.pt, .int .i64 R.pr, .string R.s, .int .i64 R.p, .int .i64 R.v]

def KindPost (bs : List Int) (w : World) (e : Ending) (w' : World) : Prop := e = .returned (.tuple #[.int .i64 (tkK bs).1, .int .i64 ((tkK bs).2.1 : Int), .int .i64 (tkK bs).2.2]) ∧ w = w'
def FldPost (g : Nat) (X : OpR × Nat × Int) (q : Int) (w : World) (e : Ending) (w' : World) : Prop := ∃ d, e = .returned (.tuple #[.int .i64 (X.2.1 : Int), .int .i64 X.2.2]) ∧ Blk w' g (X.1.cells q d) ∧ OwnK .i64 3 w' (g + 1) d X.1.ds ∧ Below g w w'

end Go.Proofs.YtjlbpmmckgjajaaDoor

/- An operation's bytes: the program's. -/
namespace Go.Proofs.YtjlbpmmckgjajaaDoor
open Go.RowKit Go.Lib
set_option linter.unusedVariables false

theorem heldO_mk {w0 w1 : World} {n b o : Nat} {t r q : Int} {da : Option Addr} {dn dc : Nat} {k nt nr pt pr : Int} {s : ByteArray} {p v : Int} (h : OpAt w1 b o t r q da dn dc k nt nr pt pr s p v) (hB : Below n w0 w1) : w1.cell? ⟨b, o, none⟩ = some (.int .i64 t) ∧ w1.cell? ⟨b, o + 1, none⟩ = some (.int .i64 r) ∧ w1.cell? ⟨b, o + 2, none⟩ = some (.int .i64 q) ∧ w1.cell? ⟨b, o + 3, none⟩ = some (.slice da dn dc) ∧ w1.cell? ⟨b, o + 4, none⟩ = some (.int .i64 k) ∧ w1.cell? ⟨b, o + 5, none⟩ = some (.int .i64 nt) ∧ w1.cell? ⟨b, o + 6, none⟩ = some (.int .i64 nr) ∧ w1.cell? ⟨b, o + 7, none⟩ = some (.int .i64 pt) ∧ w1.cell? ⟨b, o + 8, none⟩ = some (.int .i64 pr) ∧ w1.cell? ⟨b, o + 9, none⟩ = some (.string s) ∧ w1.cell? ⟨b, o + 10, none⟩ = some (.int .i64 p) ∧ w1.cell? ⟨b, o + 11, none⟩ = some (.int .i64 v) ∧ Hid (Below n w0 w1) := ⟨h.c0, h.c1, h.c2, h.c3, h.c4, h.c5, h.c6, h.c7, h.c8, h.c9, h.c10, h.c11, Lib.hid hB⟩
/-- what the loop over the parts keeps -/
structure BytI (w w' : World) (g : Nat) (t r q : Int) (da : Option Addr) (ds : List Int) (dn dc : Nat) (k nt nr pt pr : Int) (s : ByteArray) (p v : Int) (out : Value) (zs : List Int) : Prop where
  at_ : OpAt w' g 0 t r q da dn dc k nt nr pt pr s p v
  row : RowK .i64 w' da ds
  own : OwnK .u8 5 w' (g + 1) out zs
  bel : Below w.heap.size w w'
  ge : w.heap.size ≤ g
theorem BytI.next {w w1 w2 : World} {g : Nat} {t r q : Int} {da : Option Addr} {ds : List Int} {dn dc : Nat} {k nt nr pt pr : Int} {s : ByteArray} {p v : Int} {out : Value} {zs : List Int} (h : BytI w w1 g t r q da ds dn dc k nt nr pt pr s p v out zs) (hb : Below w1.heap.size w1 w2) : BytI w w2 g t r q da ds dn dc k nt nr pt pr s p v out zs :=
  ⟨h.at_.next hb, h.row.below hb (Nat.le_refl _), h.own.below hb, h.bel.trans (hb.mono h.bel.size), h.ge⟩
theorem BytI.grew {w w1 w2 : World} {g : Nat} {t r q : Int} {da : Option Addr} {ds : List Int} {dn dc : Nat} {k nt nr pt pr : Int} {s : ByteArray} {p v : Int} {out out' : Value} {zs ys : List Int} (h : BytI w w1 g t r q da ds dn dc k nt nr pt pr s p v out zs) (hl : RowLt (g + 1) da ds) (hg : Grew .u8 5 (g + 1) w1 out zs ys out' w2) : BytI w w2 g t r q da ds dn dc k nt nr pt pr s p v out' (zs ++ ys) := by
  have hb : Below (g + 1) w1 w2 := hg.bel _ _ (Below.refl _ _) (Nat.le_refl _) h.at_.lt
  exact ⟨h.at_.below hb (by omega), h.row.below' hl hb, hg.own, h.bel.trans (hb.mono (by have := h.ge; omega)), h.ge⟩
def BytJ (w : World) (g : Nat) (t r q : Int) (da : Option Addr) (ds : List Int) (dn dc : Nat) (k nt nr pt pr : Int) (s : ByteArray) (p v : Int) (act : Act) (w' : World) : Prop :=
  ∃ (v4 : Value) (i : Nat) (u2 u3 u6 u7 u8 u9 u10 u11 u12 u13 u14 u15 u16 u17 u18 u19 u20 u21 u22 u23 u24 u25 u26 u27 u28 u29 u30 : Value), act = { tmps := #[.agg #[.int .i64 t, .int .i64 r, .int .i64 q, .slice da dn dc, .int .i64 k, .int .i64 nt, .int .i64 nr, .int .i64 pt, .int .i64 pr, .string s, .int .i64 p, .int .i64 v], .pointer (some ⟨g, 0, none⟩), u2, u3, v4, .int .i64 (i : Int), u6, u7, u8, u9, u10, u11, u12, u13, u14, u15, u16, u17, u18, u19, u20, u21, u22, u23, u24, u25, u26, u27, u28, u29, u30], defers := [] } ∧ i < 6 ∧ BytI w w' g t r q da ds dn dc k nt nr pt pr s p v v4 (preE i t r ds k nt nr pt pr s p v)
def intOf : Value → Nat
  | .int _ z => z.toNat
  | _ => 0
theorem check_is (t r q : Int) (da : Option Addr) (ds : List Int) (dn dc : Nat) (k nt nr pt pr : Int) (s : ByteArray) (p v : Int) (w : World) (ht : Pr.Tab w) (hr : RowK .i64 w da ds) (hn : dn = ds.length) (hl : ds.length ≤ 140737488355328) (x : Int) (h : errC (opB t r q ds k nt nr pt pr s p v) = x) : Calls Tryd.prog 49 #[.agg #[.int .i64 t, .int .i64 r, .int .i64 q, .slice da dn dc, .int .i64 k, .int .i64 nt, .int .i64 nr, .int .i64 pt, .int .i64 pr, .string s, .int .i64 p, .int .i64 v]] w (St.IntBel w x) := by rw [← h]; exact opCheck_any t r q da ds dn dc k nt nr pt pr s p v w ht hr hn hl
def opE (t r q : Int) (ds : List Int) (k nt nr pt pr : Int) (s : ByteArray) (p v : Int) : List Int := if opB t r q ds k nt nr pt pr s p v then encO t r ds k nt nr pt pr s p v else []

end Go.Proofs.YtjlbpmmckgjajaaDoor

/- The operation that bytes begin with: the program's. -/
namespace Go.Proofs.YtjlbpmmckgjajaaDoor
open Go.RowKit Go.Lib
set_option linter.unusedVariables false

def TakeOp (R : OpR) (q : Int) (n : Nat) (x : Int) (w : World) (e : Ending) (w' : World) : Prop := ∃ da dn dc, e = .returned (.tuple #[.agg #[.int .i64 R.t, .int .i64 R.r, .int .i64 q, .slice da dn dc, .int .i64 R.k, .int .i64 R.nt, .int .i64 R.nr, .int .i64 R.pt, .int .i64 R.pr, .string R.s, .int .i64 R.p, .int .i64 R.v], .int .i64 (n : Int), .int .i64 x]) ∧ OwnK .i64 3 w' w.heap.size (.slice da dn dc) R.ds ∧ Below w.heap.size w w'
def TakeO (X : OpR × Int × Nat × Int) (w : World) : Ending → World → Prop := TakeOp X.1 X.2.1 X.2.2.1 X.2.2.2 w
theorem op_build0 (w : World) : (Instr.build 39 #[]).run Tryd.prog w = .ok (.agg #[.int .i64 0, .int .i64 0, .int .i64 0, .slice none 0 0, .int .i64 0, .int .i64 0, .int .i64 0, .int .i64 0, .int .i64 0, .string ⟨#[]⟩, .int .i64 0, .int .i64 0]) w := run_build w 39 _ _ (by kernel_rfl)
theorem blk_new (w : World) : Blk (w.alloc (.cells #[.int .i64 0, .int .i64 0, .int .i64 0, .slice none 0 0, .int .i64 0, .int .i64 0, .int .i64 0, .int .i64 0, .int .i64 0, .string ⟨#[]⟩, .int .i64 0, .int .i64 0] 39)) w.heap.size (zR.cells 0 (.slice none 0 0)) := by
  constructor
  · intro i u hi
    match i, hi with
    | 0, hi | 1, hi | 2, hi | 3, hi | 4, hi | 5, hi | 6, hi | 7, hi | 8, hi | 9, hi | 10, hi | 11, hi => simp [OpR.cells, zR] at hi; subst hi; simp
    | _ + 12, hi => simp [OpR.cells] at hi
  · intro i u hi
    match i, hi with
    | 0, hi | 1, hi | 2, hi | 3, hi | 4, hi | 5, hi | 6, hi | 7, hi | 8, hi | 9, hi | 10, hi | 11, hi => simp
    | _ + 12, hi => simp [OpR.cells] at hi
/-- what the loop over the parts keeps -/
structure TakI (w w' : World) (g : Nat) (R : OpR) (da : Option Addr) (dn dc : Nat) : Prop where
  blk : Blk w' g (R.cells 0 (.slice da dn dc))
  own : OwnK .i64 3 w' (g + 1) (.slice da dn dc) R.ds
  bel : Below g w w'
def TakJ (w : World) (g : Nat) (a : Option Addr) (bs : List Int) (n cap : Nat) (act : Act) (w' : World) : Prop :=
  ∃ (R : OpR) (kk i : Nat) (da : Option Addr) (dn dc : Nat) (u1 u4 u6 u7 u8 u9 u10 u11 u12 u13 u14 u15 u16 u17 u18 u19 u20 u21 u22 u23 u24 u25 u26 u27 u28 u29 u30 u31 u32 u33 u34 u35 u36 u37 u38 u39 u40 u41 u42 u43 u44 u45 u46 u47 u48 u49 u50 : Value), act = { tmps := #[.slice a n cap, u1, .pointer (some ⟨g, 0, none⟩), .int .i64 (kk : Int), u4, .int .i64 (i : Int), u6, u7, u8, u9, u10, u11, u12, u13, u14, u15, u16, u17, u18, u19, u20, u21, u22, u23, u24, u25, u26, u27, u28, u29, u30, u31, u32, u33, u34, u35, u36, u37, u38, u39, u40, u41, u42, u43, u44, u45, u46, u47, u48, u49, u50], defers := [] } ∧ i < 6 ∧ runR bs i = (R, kk, 0) ∧ TakI w w' g R da dn dc
theorem run_stepR {bs : List Int} {i kk : Nat} {R : OpR} (h : runR bs i = (R, kk, 0)) {R' : OpR} {k' : Nat} (hs : updF (fAt i R.k) (bs.drop kk) R = (R', k', 0)) : runR bs (i + 1) = (R', kk + k', 0) := by
  have e : stepR bs i (runR bs i) = (R', k', 0) := by rw [h]; exact hs
  rw [runR_ok (by rw [h]) (by rw [e]), e, h]
theorem run_stepE {bs : List Int} {i kk : Nat} {R : OpR} (hi : i < 6) (h : runR bs i = (R, kk, 0)) {R' : OpR} {k' : Nat} {x : Int} (hx : x ≠ 0) (hs : updF (fAt i R.k) (bs.drop kk) R = (R', k', x)) : tkO bs = (zR, 0, 0, x) := by
  have e : stepR bs i (runR bs i) = (R', k', x) := by rw [h]; exact hs
  have e1 : runR bs (i + 1) = (zR, 0, x) := by rw [runR_err (by rw [h]) (by rw [e]; exact hx), e]
  have e6 : runR bs 6 = (zR, 0, x) := by rw [runR_off (i := i + 1) (by omega) (by rw [e1]; exact hx), e1]
  rw [tkO_err (by rw [e6]; exact hx), e6]
theorem fAt_lt (i : Nat) (k : Int) (h : i < 6) : fAt i k < 8 := by unfold fAt; split <;> omega
end Go.Proofs.YtjlbpmmckgjajaaDoor

/- The operation that bytes begin with: the program's. -/
namespace Go.Proofs.YtjlbpmmckgjajaaDoor
open Go.RowKit Go.Lib
set_option linter.unusedVariables false

theorem bel_at {B g : Nat} {a b : World} (e : g = B) (h : Below g a b) : Below B a b := by subst e; exact h
end Go.Proofs.YtjlbpmmckgjajaaDoor

/- Small functions of the laws of operations. -/
namespace Go.Proofs.YtjlbpmmckgjajaaDoor
open Go.RowKit Go.Lib
set_option linter.unusedVariables false

def SomeInt (w : World) (e : Ending) (w' : World) : Prop := ∃ z : Int, e = .returned (.int .i64 z) ∧ Below w.heap.size w w'
set_option maxHeartbeats 400000 in
theorem weight_any (t r q : Int) (da : Option Addr) (ds : List Int) (dn dc : Nat) (k nt nr pt pr : Int) (s : ByteArray) (p v : Int) (w : World) : Calls Tryd.prog 42 #[.agg #[.int .i64 t, .int .i64 r, .int .i64 q, .slice da dn dc, .int .i64 k, .int .i64 nt, .int .i64 nr, .int .i64 pt, .int .i64 pr, .string s, .int .i64 p, .int .i64 v]] w (SomeInt w) := by
  go_enter Tryd.func42, Tryd.ntmps42
  go_wp2
  go_ret
  exact ⟨_, rfl, (Below.refl _ _).alloc (Nat.le_refl _) _⟩
/-- too much to be played: if not, the bytes are few -/
def HeavyPost (nx : Nat) (w : World) (e : Ending) (w' : World) : Prop := ∃ b : Bool, e = .returned (.bool b) ∧ (b = false → nx ≤ 3000) ∧ Below w.heap.size w w'
theorem HeavyPost.mk' {nx : Nat} {w w' : World} {b : Bool} (h : b = false → nx ≤ 3000) (hb : Below w.heap.size w w') : HeavyPost nx w (.returned (.bool b)) w' := ⟨b, rfl, h, hb⟩
theorem blkO_new (w : World) (t r q : Int) (d : Value) (k nt nr pt pr : Int) (s : ByteArray) (p v : Int) (ds : List Int) : Blk (w.alloc (.cells #[.int .i64 t, .int .i64 r, .int .i64 q, d, .int .i64 k, .int .i64 nt, .int .i64 nr, .int .i64 pt, .int .i64 pr, .string s, .int .i64 p, .int .i64 v] 39)) w.heap.size ((⟨t, r, ds, k, nt, nr, pt, pr, s, p, v⟩ : OpR).cells q d) := by
  constructor
  · intro i u hi
    match i, hi with
    | 0, hi | 1, hi | 2, hi | 3, hi | 4, hi | 5, hi | 6, hi | 7, hi | 8, hi | 9, hi | 10, hi | 11, hi => simp [OpR.cells] at hi; subst hi; simp
    | _ + 12, hi => simp [OpR.cells] at hi
  · intro i u hi
    match i, hi with
    | 0, hi | 1, hi | 2, hi | 3, hi | 4, hi | 5, hi | 6, hi | 7, hi | 8, hi | 9, hi | 10, hi | 11, hi => simp
    | _ + 12, hi => simp [OpR.cells] at hi

def CopyPost (t r q : Int) (ds : List Int) (k nt nr pt pr : Int) (s : ByteArray) (p v : Int) (w : World) (e : Ending) (w' : World) : Prop := ∃ da dn dc, e = .returned (.agg #[.int .i64 t, .int .i64 r, .int .i64 q, .slice da dn dc, .int .i64 k, .int .i64 nt, .int .i64 nr, .int .i64 pt, .int .i64 pr, .string s, .int .i64 p, .int .i64 v]) ∧ OwnK .i64 3 w' w.heap.size (.slice da dn dc) ds ∧ Below w.heap.size w w'
set_option maxHeartbeats 1000000 in
theorem less_any (t r : Int) (q : Int) (da : Option Addr) (dn dc : Nat) (k nt nr pt pr : Int) (s : ByteArray) (p v : Int) (t' r' : Int) (q' : Int) (da' : Option Addr) (dn' dc' : Nat) (k' nt' nr' pt' pr' : Int) (s' : ByteArray) (p' v' : Int) (w : World) : Calls Tryd.prog 44 #[.agg #[.int .i64 t, .int .i64 r, .int .i64 q, .slice da dn dc, .int .i64 k, .int .i64 nt, .int .i64 nr, .int .i64 pt, .int .i64 pr, .string s, .int .i64 p, .int .i64 v], .agg #[.int .i64 t', .int .i64 r', .int .i64 q', .slice da' dn' dc', .int .i64 k', .int .i64 nt', .int .i64 nr', .int .i64 pt', .int .i64 pr', .string s', .int .i64 p', .int .i64 v']] w (BoolPost w (decide (St.cmpS t r t' r' < 0))) := by
  have HB := Lib.hid (St.below2 w (.cells #[.int .i64 t, .int .i64 r, .int .i64 q, .slice da dn dc, .int .i64 k, .int .i64 nt, .int .i64 nr, .int .i64 pt, .int .i64 pr, .string s, .int .i64 p, .int .i64 v] 39) (.cells #[.int .i64 t', .int .i64 r', .int .i64 q', .slice da' dn' dc', .int .i64 k', .int .i64 nt', .int .i64 nr', .int .i64 pt', .int .i64 pr', .string s', .int .i64 p', .int .i64 v'] 39))
  have C := Lib.hid (fun W => St.cmp_any t r t' r' W)
  go_enter Tryd.func44, Tryd.ntmps44
  go_wp2_with fail
  refine (C.out _).mono ?_
  rintro e w1 ⟨rfl, hb⟩
  have HB1 := Lib.hid (HB.out.trans (hb.mono HB.out.size))
  clear hb
  go_wp2
  go_ret
  exact ⟨rfl, HB1.out⟩
end Go.Proofs.YtjlbpmmckgjajaaDoor

/- A plain operation; awake. -/
namespace Go.Proofs.YtjlbpmmckgjajaaDoor
open Go.RowKit Go.Lib
set_option linter.unusedVariables false

theorem fldE_isB (f : Nat) (t r : Int) (ds : List Int) (k nt nr pt pr : Int) (s : ByteArray) (p v : Int) : IsB (fldE f t r ds k nt nr pt pr s p v) := by
  unfold fldE
  split
  · exact St.encS_isB _ _
  · exact encL_isB _
  · exact enc_isB _
  · exact St.encS_isB _ _
  · exact St.encS_isB _ _
  · exact (enc_isB _).app (strN_isB _)
  · exact enc_isB _
  · exact enc_isB _
theorem preE_isB (n : Nat) (t r : Int) (ds : List Int) (k nt nr pt pr : Int) (s : ByteArray) (p v : Int) : IsB (preE n t r ds k nt nr pt pr s p v) := by
  induction n with
  | zero => exact IsB.nil
  | succ n ih => rw [preE_succ]; exact ih.app (fldE_isB _ _ _ _ _ _ _ _ _ _ _ _)
theorem encO_isB (t r : Int) (ds : List Int) (k nt nr pt pr : Int) (s : ByteArray) (p v : Int) : IsB (encO t r ds k nt nr pt pr s p v) := preE_isB 6 _ _ _ _ _ _ _ _ _ _ _
theorem encO_len {t r q : Int} {ds : List Int} {k nt nr pt pr : Int} {s : ByteArray} {p v : Int} (h : opB t r q ds k nt nr pt pr s p v = true) : (encO t r ds k nt nr pt pr s p v).length ≤ 918 := preE_len h 6 (by omega)

theorem st_buildT (x : Int) (w : World) : (Instr.build 36 #[(0, .int .i64 x)]).run Tryd.prog w = .ok (.agg #[.int .i64 x, .int .i64 0]) w := run_build w 36 _ _ (by kernel_rfl)
theorem op_buildO (da : Option Addr) (dn dc : Nat) (w : World) : (Instr.build 39 #[(0, .agg #[.int .i64 1, .int .i64 0]), (1, .int .i64 1), (2, .slice da dn dc), (3, .int .i64 1), (4, .agg #[.int .i64 1, .int .i64 0]), (6, .string ⟨#[107]⟩)]).run Tryd.prog w = .ok (.agg #[.int .i64 1, .int .i64 0, .int .i64 1, .slice da dn dc, .int .i64 1, .int .i64 1, .int .i64 0, .int .i64 0, .int .i64 0, .string ⟨#[107]⟩, .int .i64 0, .int .i64 0]) w := run_build w 39 _ _ (by kernel_rfl)
def OPost (w : World) (e : Ending) (w' : World) : Prop := ∃ a, e = .returned (.agg #[.int .i64 1, .int .i64 0, .int .i64 1, .slice a 1 1, .int .i64 1, .int .i64 1, .int .i64 0, .int .i64 0, .int .i64 0, .string ⟨#[107]⟩, .int .i64 0, .int .i64 0]) ∧ RowK .i64 w' a [0] ∧ Below w.heap.size w w'
set_option maxHeartbeats 1000000 in
set_option maxRecDepth 100000 in
theorem mkO_any (w : World) : Calls Tryd.prog 32 #[] w (OPost w) := by
  have h1 := st_buildT
  have h2 := op_buildO
  go_enter Tryd.func32, Tryd.ntmps32
  go_wp2
  refine bodyPost_ret (v := .agg #[.int .i64 1, .int .i64 0, .int .i64 1, .slice (some ⟨w.heap.size + 1, 0, none⟩) 1 1, .int .i64 1, .int .i64 1, .int .i64 0, .int .i64 0, .int .i64 0, .string ⟨#[107]⟩, .int .i64 0, .int .i64 0]) (by simp [results, Tryd.results32, go_sem]) rfl ?_
  refine ⟨_, rfl, ?_, St.below2 w _ _⟩
  have := one_row .i64 3 (w.alloc (.cells #[.int .i64 1, .int .i64 0, .int .i64 1, .slice (some ⟨w.heap.size + 1, 0, none⟩) 1 1, .int .i64 1, .int .i64 1, .int .i64 0, .int .i64 0, .int .i64 0, .string ⟨#[107]⟩, .int .i64 0, .int .i64 0] 39)) 0
  rw [World.size_alloc] at this
  exact this

theorem ok0 : opB 1 0 1 [0] 1 1 0 0 0 ⟨#[107]⟩ 0 0 = true := by decide
theorem take0 : tkO (encO 1 0 [0] 1 1 0 0 0 ⟨#[107]⟩ 0 0) = (⟨1, 0, [0], 1, 1, 0, 0, 0, ⟨#[107]⟩, 0, 0⟩, 1, (encO 1 0 [0] 1 1 0 0 0 ⟨#[107]⟩ 0 0).length, 0) := by
  have := tkO_enc (R := ⟨1, 0, [0], 1, 1, 0, 0, 0, ⟨#[107]⟩, 0, 0⟩) (q := 1) ok0 []
  rw [List.append_nil] at this
  exact this

end Go.Proofs.YtjlbpmmckgjajaaDoor

/- Asks opened; what is held of one. -/
namespace Go.Proofs.YtjlbpmmckgjajaaDoor
open Go.ChangeShapes Go.WideShapes Go.ChangeAt Go.RowKit Go.Deep Go.Lib
set_option linter.unusedVariables false

theorem rowK_open {H : Type} {enc : TypeId × Value → H} {w : World} {fuel : Nat} {v : Value} {x : DataW H × List MemPlace} {t e : TypeId} {kd : IntKind} (ht : Tryd.prog.underlying t = some (.slice e)) (he : Tryd.prog.underlying e = some (.int kd)) (hce : Tryd.prog.cellsOf e = 1) (h : DataW.trod enc Tryd.prog w 0 (fun _ => true) true fuel t [v] = some x) :
    ∃ ai ws ci, v = .slice ai ws.length ci ∧ RowK kd w ai ws ∧ (∀ z ∈ ws, (Lit.int kd z).wf = true) ∧ ws.length ≤ ci := by
  rcases open_ints ht he hce h with ⟨hcs, _⟩ | ⟨a, len, cap, zs, hcs, _, hl, hm, hz, _, hcell, hwz⟩
  · simp only [List.cons.injEq, and_true] at hcs
    exact ⟨none, [], 0, hcs, fun i hi => by simp at hi, fun z hz => by simp at hz, by simp⟩
  · simp only [List.cons.injEq, and_true] at hcs
    simp only [if_true] at hz
    have hlen : (zs.take len).length = len := by rw [List.length_take]; omega
    refine ⟨some a, zs.take len, cap, by rw [hlen]; exact hcs, ?_, fun z hz => hwz z (List.mem_of_mem_take hz), by omega⟩
    intro i hi
    rw [hlen] at hi
    obtain ⟨b, off, spot⟩ := a
    have hc0 := hcell 0 (by omega)
    have hspot : spot = none := by simpa [Addr.add] using World.cell?_spot hc0
    subst hspot
    have hc := hcell i (by omega)
    refine ⟨b, off, rfl, ?_⟩
    have e : (zs.take len).getD i 0 = zs.getD i 0 := by simp [List.getD, hi]
    rw [e, ← addr_add]
    exact hc
theorem isB_of {ws : List Int} (h : ∀ z ∈ ws, (Lit.int .u8 z).wf = true) : IsB ws := fun z hz => by
  have := h z hz
  simp [Lit.wf, IntKind.min, IntKind.max, IntKind.signed, IntKind.bits] at this
  omega
theorem weights_mem_all {H : Type} {P : Program} {e : TypeId} : ∀ {ds : List (DataW H)} {d : DataW H}, d ∈ ds → ∀ n ∈ d.weights P e, n ∈ DataW.weightsAll P e ds
  | [], _, h, _, _ => by simp at h
  | x :: r, d, h, n, hn => by
    simp only [DataW.weightsAll, List.mem_append]
    rcases List.mem_cons.1 h with h | h
    · subst h; exact Or.inl hn
    · exact Or.inr (weights_mem_all h n hn)
theorem rowI_open_sized {H : Type} {enc : TypeId × Value → H} {w : World} {fuel : Nat} {v : Value} {x : DataW H × List MemPlace} (h : DataW.trod enc Tryd.prog w 0 (fun _ => true) true fuel 37 [v] = some x)
    (hs : ∀ n ∈ x.1.weights Tryd.prog 37, n ≤ reachBytes) : ∃ ai ws ci, v = .slice ai ws.length ci ∧ RowK .i64 w ai ws ∧ ws.length ≤ ci ∧ ws.length ≤ 17592186044416 := by
  obtain ⟨ai, ws, ci, hv, hr, _, hc⟩ := rowK_open Tryd.underlying37 Tryd.underlying3 (by kernel_rfl) h
  refine ⟨ai, ws, ci, hv, hr, hc, ?_⟩
  rcases open_ints Tryd.underlying37 Tryd.underlying3 (by kernel_rfl) h with ⟨hcs, _⟩ | ⟨a, len, cap, zs, hcs, _, hl, hm, hz, hx, _, _⟩
  · simp only [List.cons.injEq, and_true] at hcs
    rw [hv] at hcs
    simp only [Value.slice.injEq] at hcs
    omega
  · simp only [List.cons.injEq, and_true] at hcs
    rw [hv] at hcs
    simp only [Value.slice.injEq] at hcs
    have h1 := hs (((lits .i64 (zs.take len) : List (DataW H)).length + (lits .i64 (zs.drop len) : List (DataW H)).length) * Tryd.prog.bytesOf 3) (by
      rw [hx]
      simp [DataW.weights, Tryd.underlying37])
    rw [show Tryd.prog.bytesOf 3 = 8 from by kernel_rfl] at h1
    simp only [if_true] at hz
    simp only [lits, List.length_map, List.length_take, List.length_drop, reachBytes] at h1
    omega
theorem stamp_open {H : Type} {enc : TypeId × Value → H} {w : World} {fuel : Nat} {d0 d1 : Value} {x : DataW H × List MemPlace} (h : DataW.trod enc Tryd.prog w 0 (fun _ => true) true fuel 36 [d0, d1] = some x) : ∃ t r, d0 = .int .i64 t ∧ d1 = .int .i64 r := by
  obtain ⟨ys, n', _, _, _, hyl, hf'⟩ := DataW.trod_struct Tryd.underlying36 h
  have f0 : DataW.trod enc Tryd.prog w 0 (fun _ => true) true n' 3 (([d0, d1].drop 0).take (Tryd.prog.cellsOf 3)) = ys[0]? := hf' 0 _ rfl
  have f1 : DataW.trod enc Tryd.prog w 0 (fun _ => true) true n' 3 (([d0, d1].drop 1).take (Tryd.prog.cellsOf 3)) = ys[1]? := hf' 1 _ rfl
  rw [show Tryd.prog.cellsOf 3 = 1 from by kernel_rfl] at f0 f1
  have hy0 : ys[0]? = some (ys[0]'(by simp at hyl; omega)) := List.getElem?_eq_getElem _
  have hy1 : ys[1]? = some (ys[1]'(by simp at hyl; omega)) := List.getElem?_eq_getElem _
  rw [hy0] at f0
  rw [hy1] at f1
  simp only [List.drop_zero, List.drop_succ_cons, List.take_succ_cons, List.take_zero] at f0 f1
  obtain ⟨t, ht0, _, _⟩ := DataW.trod_int Tryd.underlying3 f0
  obtain ⟨r, hr0, _, _⟩ := DataW.trod_int Tryd.underlying3 f1
  simp only [List.cons.injEq, and_true] at ht0 hr0
  exact ⟨t, r, ht0, hr0⟩
set_option maxHeartbeats 1000000 in
theorem op_open {H : Type} {enc : TypeId × Value → H} {w : World} {fuel : Nat} {d0 d1 d2 d3 d4 d5 d6 d7 d8 d9 d10 d11 : Value} {x : DataW H × List MemPlace} (h : DataW.trod enc Tryd.prog w 0 (fun _ => true) true fuel 39 [d0, d1, d2, d3, d4, d5, d6, d7, d8, d9, d10, d11] = some x)
    (hs : ∀ n ∈ x.1.weights Tryd.prog 39, n ≤ reachBytes) : ∃ t r q da ds dc k nt nr pt pr s p v, [d0, d1, d2, d3, d4, d5, d6, d7, d8, d9, d10, d11] = [.int .i64 t, .int .i64 r, .int .i64 q, .slice da (List.length ds) dc, .int .i64 k, .int .i64 nt, .int .i64 nr, .int .i64 pt, .int .i64 pr, .string s, .int .i64 p, .int .i64 v] ∧ RowK .i64 w da ds ∧ ds.length ≤ dc ∧ ds.length ≤ 17592186044416 := by
  obtain ⟨ys, n', _, hD, _, hyl, hf'⟩ := DataW.trod_struct Tryd.underlying39 h
  have f0 : DataW.trod enc Tryd.prog w 0 (fun _ => true) true n' 36 (([d0, d1, d2, d3, d4, d5, d6, d7, d8, d9, d10, d11].drop 0).take (Tryd.prog.cellsOf 36)) = ys[0]? := hf' 0 _ rfl
  have f1 : DataW.trod enc Tryd.prog w 0 (fun _ => true) true n' 3 (([d0, d1, d2, d3, d4, d5, d6, d7, d8, d9, d10, d11].drop 2).take (Tryd.prog.cellsOf 3)) = ys[1]? := hf' 1 _ rfl
  have f2 : DataW.trod enc Tryd.prog w 0 (fun _ => true) true n' 37 (([d0, d1, d2, d3, d4, d5, d6, d7, d8, d9, d10, d11].drop 3).take (Tryd.prog.cellsOf 37)) = ys[2]? := hf' 2 _ rfl
  have f3 : DataW.trod enc Tryd.prog w 0 (fun _ => true) true n' 3 (([d0, d1, d2, d3, d4, d5, d6, d7, d8, d9, d10, d11].drop 4).take (Tryd.prog.cellsOf 3)) = ys[3]? := hf' 3 _ rfl
  have f4 : DataW.trod enc Tryd.prog w 0 (fun _ => true) true n' 36 (([d0, d1, d2, d3, d4, d5, d6, d7, d8, d9, d10, d11].drop 5).take (Tryd.prog.cellsOf 36)) = ys[4]? := hf' 4 _ rfl
  have f5 : DataW.trod enc Tryd.prog w 0 (fun _ => true) true n' 36 (([d0, d1, d2, d3, d4, d5, d6, d7, d8, d9, d10, d11].drop 7).take (Tryd.prog.cellsOf 36)) = ys[5]? := hf' 5 _ rfl
  have f6 : DataW.trod enc Tryd.prog w 0 (fun _ => true) true n' 9 (([d0, d1, d2, d3, d4, d5, d6, d7, d8, d9, d10, d11].drop 9).take (Tryd.prog.cellsOf 9)) = ys[6]? := hf' 6 _ rfl
  have f7 : DataW.trod enc Tryd.prog w 0 (fun _ => true) true n' 3 (([d0, d1, d2, d3, d4, d5, d6, d7, d8, d9, d10, d11].drop 10).take (Tryd.prog.cellsOf 3)) = ys[7]? := hf' 7 _ rfl
  have f8 : DataW.trod enc Tryd.prog w 0 (fun _ => true) true n' 3 (([d0, d1, d2, d3, d4, d5, d6, d7, d8, d9, d10, d11].drop 11).take (Tryd.prog.cellsOf 3)) = ys[8]? := hf' 8 _ rfl
  rw [show Tryd.prog.cellsOf 36 = 2 from by kernel_rfl] at f0 f4 f5
  rw [show Tryd.prog.cellsOf 3 = 1 from by kernel_rfl] at f1 f3 f7 f8
  rw [show Tryd.prog.cellsOf 37 = 1 from by kernel_rfl] at f2
  rw [show Tryd.prog.cellsOf 9 = 1 from by kernel_rfl] at f6
  have hy0 : ys[0]? = some (ys[0]'(by simp at hyl; omega)) := List.getElem?_eq_getElem _
  rw [hy0] at f0
  have hy1 : ys[1]? = some (ys[1]'(by simp at hyl; omega)) := List.getElem?_eq_getElem _
  rw [hy1] at f1
  have hy2 : ys[2]? = some (ys[2]'(by simp at hyl; omega)) := List.getElem?_eq_getElem _
  rw [hy2] at f2
  have hy3 : ys[3]? = some (ys[3]'(by simp at hyl; omega)) := List.getElem?_eq_getElem _
  rw [hy3] at f3
  have hy4 : ys[4]? = some (ys[4]'(by simp at hyl; omega)) := List.getElem?_eq_getElem _
  rw [hy4] at f4
  have hy5 : ys[5]? = some (ys[5]'(by simp at hyl; omega)) := List.getElem?_eq_getElem _
  rw [hy5] at f5
  have hy6 : ys[6]? = some (ys[6]'(by simp at hyl; omega)) := List.getElem?_eq_getElem _
  rw [hy6] at f6
  have hy7 : ys[7]? = some (ys[7]'(by simp at hyl; omega)) := List.getElem?_eq_getElem _
  rw [hy7] at f7
  have hy8 : ys[8]? = some (ys[8]'(by simp at hyl; omega)) := List.getElem?_eq_getElem _
  rw [hy8] at f8
  simp only [List.drop_zero, List.drop_succ_cons, List.take_succ_cons, List.take_zero] at f0 f1 f2 f3 f4 f5 f6 f7 f8
  have hxd : x.1 = .agg (ys.map (·.1)) := by rw [hD]
  have hw2 : ∀ n ∈ (ys[2]'(by simp at hyl; omega)).1.weights Tryd.prog 37, n ≤ reachBytes := by
    intro n hn
    apply hs
    rw [hxd]
    simp only [DataW.weights, Tryd.underlying39]
    exact DataW.weights_mem_each (j := 2) (t := 37) (d := (ys[2]'(by simp at hyl; omega)).1) rfl (by rw [List.getElem?_map, hy2]; rfl) n hn
  obtain ⟨t, r, h0, h1⟩ := stamp_open f0
  obtain ⟨q, h2, _, _⟩ := DataW.trod_int Tryd.underlying3 f1
  obtain ⟨da, ds, dc, h3, hr, hc, hl⟩ := rowI_open_sized f2 hw2
  obtain ⟨k, h4, _, _⟩ := DataW.trod_int Tryd.underlying3 f3
  obtain ⟨nt, nr, h5, h6⟩ := stamp_open f4
  obtain ⟨pt, pr, h7, h8⟩ := stamp_open f5
  obtain ⟨s, h9, _, _⟩ := DataW.trod_string Tryd.underlying9 f6
  obtain ⟨p, h10, _, _⟩ := DataW.trod_int Tryd.underlying3 f7
  obtain ⟨v, h11, _, _⟩ := DataW.trod_int Tryd.underlying3 f8
  simp only [List.cons.injEq, and_true] at h2 h4 h9 h10 h11
  subst h0 h1 h2 h3 h4 h5 h6 h7 h8 h9 h10 h11
  exact ⟨t, r, q, da, ds, dc, k, nt, nr, pt, pr, s, p, v, rfl, hr, hc, hl⟩

/-- an ask at a place -/
structure AskAt (w : World) (b o : Nat) (t r q : Int) (da : Option Addr) (dn dc : Nat) (k nt nr pt pr : Int) (s : ByteArray) (p v : Int) (ax : Option Addr) (nx cx : Nat) : Prop where
  o_ : OpAt w b o t r q da dn dc k nt nr pt pr s p v
  x_ : w.cell? ⟨b, o + 12, none⟩ = some (.slice ax nx cx)
theorem AskAt.below {w w' : World} {b o B : Nat} {t r q : Int} {da : Option Addr} {dn dc : Nat} {k nt nr pt pr : Int} {s : ByteArray} {p v : Int} {ax : Option Addr} {nx cx : Nat} (h : AskAt w b o t r q da dn dc k nt nr pt pr s p v ax nx cx) (hb : Below B w w') (hB : b < B) : AskAt w' b o t r q da dn dc k nt nr pt pr s p v ax nx cx := ⟨h.o_.below hb hB, (hb.cell (p := ⟨b, o + 12, none⟩) hB).trans h.x_⟩
/-- what is told of an ask's rows -/
structure AskRows (w : World) (da : Option Addr) (ds : List Int) (dn : Nat) (ax : Option Addr) (xs : List Int) (nx cx : Nat) : Prop where
  rd : RowK .i64 w da ds
  dl : dn = ds.length
  dm : ds.length ≤ 17592186044416
  rx : RowK .u8 w ax xs
  xl : nx = xs.length
  xc : xs.length ≤ cx
  isB : IsB xs
theorem AskRows.below {w w' : World} {da : Option Addr} {ds : List Int} {dn : Nat} {ax : Option Addr} {xs : List Int} {nx cx : Nat} (h : AskRows w da ds dn ax xs nx cx) (hb : Below w.heap.size w w') : AskRows w' da ds dn ax xs nx cx :=
  ⟨h.rd.below hb (Nat.le_refl _), h.dl, h.dm, h.rx.below hb (Nat.le_refl _), h.xl, h.xc, h.isB⟩
def AsksIs (w : World) (a : Option Addr) (len : Nat) : Prop :=
  ∀ i, i < len → ∃ b off t r q da ds dn dc k nt nr pt pr s p v ax xs nx cx, a = some ⟨b, off, none⟩ ∧ AskAt w b (off + i * 13) t r q da dn dc k nt nr pt pr s p v ax nx cx ∧ AskRows w da ds dn ax xs nx cx

/-- what is held of an ask -/
structure PA (w W : World) (b o : Nat) (t r q : Int) (da : Option Addr) (ds : List Int) (dn dc : Nat) (k nt nr pt pr : Int) (s : ByteArray) (p v : Int) (ax : Option Addr) (xs : List Int) (nx cx : Nat) : Prop where
  ask : AskAt W b o t r q da dn dc k nt nr pt pr s p v ax nx cx
  rows : AskRows W da ds dn ax xs nx cx
  bel : Below w.heap.size w W
  tab : Pr.Tab W
  lt : b < w.heap.size
section
variable {w W W' : World} {b o : Nat} {t r q : Int} {da : Option Addr} {ds : List Int} {dn dc : Nat} {k nt nr pt pr : Int} {s : ByteArray} {p v : Int} {ax : Option Addr} {xs : List Int} {nx cx : Nat}
theorem PA.next (h : PA w W b o t r q da ds dn dc k nt nr pt pr s p v ax xs nx cx) (hb : Below W.heap.size W W') : PA w W' b o t r q da ds dn dc k nt nr pt pr s p v ax xs nx cx :=
  ⟨h.ask.below hb h.ask.o_.lt, h.rows.below hb, h.bel.trans (hb.mono h.bel.size), h.tab.below hb h.tab.lt, h.lt⟩
theorem PA.drew (h : PA w W b o t r q da ds dn dc k nt nr pt pr s p v ax xs nx cx) : PA w W.drew b o t r q da ds dn dc k nt nr pt pr s p v ax xs nx cx := h.next (Below.refl _ W).drew
theorem PA.drewN (h : PA w W b o t r q da ds dn dc k nt nr pt pr s p v ax xs nx cx) (m : Nat) : PA w (W.drewN m) b o t r q da ds dn dc k nt nr pt pr s p v ax xs nx cx := h.next (below_drewN (Below.refl _ W) m)
theorem PA.box (h : PA w W b o t r q da ds dn dc k nt nr pt pr s p v ax xs nx cx) (ob : Obj) : PA w (W.alloc ob) b o t r q da ds dn dc k nt nr pt pr s p v ax xs nx cx := h.next (box_bel W ob)
end
theorem regrown_at {W : World} {f : FuncId} {args : Array Value} {v : Value} (h : ∀ W', Below W.heap.size W W' → Calls Tryd.prog f args W' fun e w' => e = .returned v ∧ Below W'.heap.size W' w') : St.RegrownTo W f args v := fun d os => Calls.regrown_of (h _ (below_regrown W d os))
theorem eqOp_bel (t r q : Int) (da : Option Addr) (ds : List Int) (dn dc : Nat) (k nt nr pt pr : Int) (s : ByteArray) (p v : Int) (da' : Option Addr) (dn' dc' : Nat) (w : World) (hr : RowK .i64 w da ds) (hn : dn = ds.length) (hl : ds.length ≤ 140737488355328) (hr' : RowK .i64 w da' ds) (hn' : dn' = ds.length) : Calls Tryd.prog 61 #[.agg #[.int .i64 t, .int .i64 r, .int .i64 q, .slice da dn dc, .int .i64 k, .int .i64 nt, .int .i64 nr, .int .i64 pt, .int .i64 pr, .string s, .int .i64 p, .int .i64 v], .agg #[.int .i64 t, .int .i64 r, .int .i64 q, .slice da' dn' dc', .int .i64 k, .int .i64 nt, .int .i64 nr, .int .i64 pt, .int .i64 pr, .string s, .int .i64 p, .int .i64 v]] w fun e w' => e = .returned (.bool true) ∧ Below w.heap.size w w' := by
  have := eqOp_any t r q da ds dn dc k nt nr pt pr s p v pt pr s p v da' dn' dc' w hr hn hl hr' hn'
  rw [eqOB_same] at this
  exact this
theorem tkO_ds {bs : List Int} (hb : IsB bs) : (tkO bs).1.ds.length ≤ 16 := by
  by_cases h : (tkO bs).2.2.2 = 0
  · have := Hv.vecB_len (cntB_parts (opB_parts (tkO_back hb h).1).2.2.1).1
    omega
  · by_cases h0 : (runR bs 6).2.2 = 0
    · cases h2 : (runR bs 6).1.ok (seqR (runR bs 6).1)
      · rw [tkO_no h0 h2]; simp [zR]
      · rw [tkO_yes h0 h2] at h; simp at h
    · rw [tkO_err h0]; simp [zR]
end Go.Proofs.YtjlbpmmckgjajaaDoor
