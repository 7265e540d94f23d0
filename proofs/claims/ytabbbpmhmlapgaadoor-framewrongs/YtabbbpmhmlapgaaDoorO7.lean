/- Which operation bytes begin with: mathematics. -/
import Derived.Test.YtabbbpmhmlapgaaDoorO5
import Derived.Test.YtabbbpmhmlapgaaDoorOM
namespace Go.Proofs.YtabbbpmhmlapgaaDoor
open Go.RowKit Go.Lib
set_option linter.unusedVariables false

/-- an operation's fields, but for its Seq -/
structure OpR where
  t : Int
  r : Int
  ds : List Int
  k : Int
  nt : Int
  nr : Int
  pt : Int
  pr : Int
  s : ByteArray
  p : Int
  v : Int
def zR : OpR := ⟨0, 0, [], 0, 0, 0, 0, 0, ⟨#[]⟩, 0, 0⟩
def OpR.prt (R : OpR) (i : Nat) : List Int := prtE i R.t R.r R.ds R.k R.nt R.nr R.pt R.pr R.s R.p R.v
def OpR.pre (R : OpR) (n : Nat) : List Int := preE n R.t R.r R.ds R.k R.nt R.nr R.pt R.pr R.s R.p R.v
theorem OpR.pre_succ (R : OpR) (n : Nat) : R.pre (n + 1) = R.pre n ++ R.prt n := preE_succ ..
def OpR.ok (R : OpR) (q : Int) : Bool := opB R.t R.r q R.ds R.k R.nt R.nr R.pt R.pr R.s R.p R.v
/-- the kind that bytes begin with -/
def tkK (bs : List Int) : Int × Nat × Int := if (tkN bs).2.2 ≠ 0 then (0, 0, (tkN bs).2.2) else if (tkN bs).1 = 1 ∨ (tkN bs).1 = 2 then tkN bs else (0, 0, 1)
/-- one field taken -/
def updF (f : Nat) (bs : List Int) (R : OpR) : OpR × Nat × Int :=
  match f with
  | 0 => ({ R with t := (St.tkSt bs).1, r := (St.tkSt bs).2.1 }, (St.tkSt bs).2.2.1, (St.tkSt bs).2.2.2)
  | 1 => ({ R with ds := (Hv.tkV bs).1 }, (Hv.tkV bs).2.1, (Hv.tkV bs).2.2)
  | 2 => ({ R with k := (tkK bs).1 }, (tkK bs).2.1, (tkK bs).2.2)
  | 3 => ({ R with nt := (St.tkSt bs).1, nr := (St.tkSt bs).2.1 }, (St.tkSt bs).2.2.1, (St.tkSt bs).2.2.2)
  | 4 => ({ R with pt := (St.tkSt bs).1, pr := (St.tkSt bs).2.1 }, (St.tkSt bs).2.2.1, (St.tkSt bs).2.2.2)
  | 5 => ({ R with s := (tkS bs).1 }, (tkS bs).2.1, (tkS bs).2.2)
  | 6 => ({ R with p := (tkN bs).1 }, (tkN bs).2.1, (tkN bs).2.2)
  | _ => ({ R with v := (tkN bs).1 - 1 }, (tkN bs).2.1, (tkN bs).2.2)
def stepR (bs : List Int) (i : Nat) (X : OpR × Nat × Int) : OpR × Nat × Int := updF (fAt i X.1.k) (bs.drop X.2.1) X.1
def runR (bs : List Int) : Nat → OpR × Nat × Int
  | 0 => (zR, 0, 0)
  | i + 1 => if (runR bs i).2.2 ≠ 0 then runR bs i else if (stepR bs i (runR bs i)).2.2 ≠ 0 then (zR, 0, (stepR bs i (runR bs i)).2.2) else ((stepR bs i (runR bs i)).1, (runR bs i).2.1 + (stepR bs i (runR bs i)).2.1, 0)
theorem runR_stay {bs : List Int} {i : Nat} (h : (runR bs i).2.2 ≠ 0) : runR bs (i + 1) = runR bs i := by rw [runR, if_pos h]
theorem runR_err {bs : List Int} {i : Nat} (h : (runR bs i).2.2 = 0) (h2 : (stepR bs i (runR bs i)).2.2 ≠ 0) : runR bs (i + 1) = (zR, 0, (stepR bs i (runR bs i)).2.2) := by rw [runR, if_neg (by simp [h]), if_pos h2]
theorem runR_ok {bs : List Int} {i : Nat} (h : (runR bs i).2.2 = 0) (h2 : (stepR bs i (runR bs i)).2.2 = 0) : runR bs (i + 1) = ((stepR bs i (runR bs i)).1, (runR bs i).2.1 + (stepR bs i (runR bs i)).2.1, 0) := by rw [runR, if_neg (by simp [h]), if_neg (by simp [h2])]
theorem runR_off {bs : List Int} {i j : Nat} (hij : i ≤ j) (h : (runR bs i).2.2 ≠ 0) : runR bs j = runR bs i := by
  induction hij with
  | refl => rfl
  | step _ ih => rw [runR_stay (by rw [ih]; exact h), ih]
def seqR (R : OpR) : Int := if R.r < R.ds.length then R.ds.getD R.r.toNat 0 + 1 else 0
/-- the operation that bytes begin with, its Seq, how many bytes, the error -/
def tkO (bs : List Int) : OpR × Int × Nat × Int :=
  if (runR bs 6).2.2 ≠ 0 then (zR, 0, 0, (runR bs 6).2.2) else if (runR bs 6).1.ok (seqR (runR bs 6).1) then ((runR bs 6).1, seqR (runR bs 6).1, (runR bs 6).2.1, 0) else (zR, 0, 0, 1)
theorem tkO_err {bs : List Int} (h : (runR bs 6).2.2 ≠ 0) : tkO bs = (zR, 0, 0, (runR bs 6).2.2) := by rw [tkO, if_pos h]
theorem tkO_no {bs : List Int} (h : (runR bs 6).2.2 = 0) (h2 : (runR bs 6).1.ok (seqR (runR bs 6).1) = false) : tkO bs = (zR, 0, 0, 1) := by rw [tkO, if_neg (by simp [h]), h2]; rfl
theorem tkO_yes {bs : List Int} (h : (runR bs 6).2.2 = 0) (h2 : (runR bs 6).1.ok (seqR (runR bs 6).1) = true) : tkO bs = ((runR bs 6).1, seqR (runR bs 6).1, (runR bs 6).2.1, 0) := by rw [tkO, if_neg (by simp [h]), h2]; rfl

/-- what is there when some parts are taken -/
def recI (i : Nat) (R : OpR) : OpR :=
  ⟨if 0 < i then R.t else 0, if 0 < i then R.r else 0, if 1 < i then R.ds else [], if 2 < i then R.k else 0, if 3 < i then R.nt else 0, if 3 < i then R.nr else 0,
   if 4 < i ∧ R.k = 1 then R.pt else 0, if 4 < i ∧ R.k = 1 then R.pr else 0, if 5 < i ∧ R.k = 1 then R.s else ⟨#[]⟩, if 4 < i ∧ R.k = 2 then R.p else 0, if 5 < i ∧ R.k = 2 then R.v else 0⟩
theorem tkK_enc {k : Int} (hk : k = 1 ∨ k = 2) (y : List Int) : tkK (enc k.toNat ++ y) = (k, (enc k.toNat).length, 0) := by
  have e := tkN_enc (n := k.toNat) (by omega) y
  unfold tkK
  rw [e]
  simp only
  rw [if_neg (by simp), if_pos (by omega), show ((k.toNat : Nat) : Int) = k by omega]
theorem tkK_cut {k : Int} (hk : k = 1 ∨ k = 2) {j : Nat} (hj : j < (enc k.toNat).length) : tkK ((enc k.toNat).take j) = (0, 0, 7) := by
  have e := tkN_cut (n := k.toNat) (by omega) hj
  unfold tkK
  rw [e]
  simp
theorem tkZ_enc {z : Int} (h : numB z = true) (y : List Int) : tkN (enc z.toNat ++ y) = (z, (enc z.toNat).length, 0) := by
  simp [numB] at h
  rw [tkN_enc (by omega), show ((z.toNat : Nat) : Int) = z by omega]
theorem tkZ_cut {z : Int} (h : numB z = true) {j : Nat} (hj : j < (enc z.toNat).length) : tkN ((enc z.toNat).take j) = (0, 0, 7) := by
  simp [numB] at h
  exact tkN_cut (by omega) hj

theorem upd_enc {R : OpR} {q : Int} (h : R.ok q = true) (i : Nat) (hi : i < 6) (y : List Int) : updF (fAt i (recI i R).k) (R.prt i ++ y) (recI i R) = (recI (i + 1) R, (R.prt i).length, 0) := by
  obtain ⟨t, r, ds, k, nt, nr, pt, pr, s, p, v⟩ := R
  obtain ⟨h1, h2, h3, h4⟩ := opB_parts h
  simp only at h1 h2 h3 h4
  obtain ⟨g1, g2, g3, g4, g5⟩ := cntB_parts h3
  match i, hi with
  | 0, _ =>
    have e := St.tkSt_enc (st_pl h1) y
    simp [recI, OpR.prt, prtE, fAt, fldE, updF, e]
  | 1, _ =>
    have e := Hv.tkV_enc g1 y
    simp [recI, OpR.prt, prtE, fAt, fldE, updF, e]
  | 2, _ =>
    have e := tkK_enc (k := k) (by rcases kndB_parts h4 with ⟨rfl, _⟩ | ⟨rfl, _⟩ <;> simp) y
    simp [recI, OpR.prt, prtE, fAt, fldE, updF, e]
  | 3, _ =>
    have e := St.tkSt_enc (st_pl h2) y
    simp [recI, OpR.prt, prtE, fAt, fldE, updF, e]
  | 4, _ =>
    rcases kndB_parts h4 with ⟨rfl, k1, k2, k3, k4⟩ | ⟨rfl, k1, k2, k3, k4⟩
    · have e := St.tkSt_enc k1 y
      simp [recI, OpR.prt, prtE, fAt, fldE, updF, e]
    · have := errP_bd k1
      have e := tkZ_enc (z := p) (by simp [numB]; omega) y
      simp [recI, OpR.prt, prtE, fAt, fldE, updF, e]
  | 5, _ =>
    rcases kndB_parts h4 with ⟨rfl, k1, k2, k3, k4⟩ | ⟨rfl, k1, k2, k3, k4⟩
    · have e := tkS_enc s (by have := keyB_len k2; omega) y
      rw [List.append_assoc] at e
      simp [recI, OpR.prt, prtE, fAt, fldE, updF, e]
    · have := errP_bd k1
      have e := tkZ_enc (z := v + 1) (by simp [numB]; omega) y
      simp [recI, OpR.prt, prtE, fAt, fldE, updF, e]
theorem upd_cut {R : OpR} {q : Int} (h : R.ok q = true) (i : Nat) (hi : i < 6) {j : Nat} (hj : j < (R.prt i).length) : (updF (fAt i (recI i R).k) ((R.prt i).take j) (recI i R)).2.2 = 7 := by
  obtain ⟨t, r, ds, k, nt, nr, pt, pr, s, p, v⟩ := R
  obtain ⟨h1, h2, h3, h4⟩ := opB_parts h
  simp only at h1 h2 h3 h4
  obtain ⟨g1, g2, g3, g4, g5⟩ := cntB_parts h3
  match i, hi with
  | 0, _ => exact congrArg (fun x => x.2.2.2) (tkSt_cut (st_pl h1) hj)
  | 1, _ => exact congrArg (fun x => x.2.2) (tkV_cut g1 hj)
  | 2, _ => exact congrArg (fun x => x.2.2) (tkK_cut (k := k) (by rcases kndB_parts h4 with ⟨rfl, _⟩ | ⟨rfl, _⟩ <;> simp) hj)
  | 3, _ => exact congrArg (fun x => x.2.2.2) (tkSt_cut (st_pl h2) hj)
  | 4, _ =>
    rcases kndB_parts h4 with ⟨rfl, k1, k2, k3, k4⟩ | ⟨rfl, k1, k2, k3, k4⟩
    · exact congrArg (fun x => x.2.2.2) (tkSt_cut k1 hj)
    · have := errP_bd k1
      exact congrArg (fun x => x.2.2) (tkZ_cut (z := p) (by simp [numB]; omega) hj)
  | 5, _ =>
    rcases kndB_parts h4 with ⟨rfl, k1, k2, k3, k4⟩ | ⟨rfl, k1, k2, k3, k4⟩
    · exact congrArg (fun x => x.2.2) (tkS_cut s (by have := keyB_len k2; omega) hj)
    · have := errP_bd k1
      exact congrArg (fun x => x.2.2) (tkZ_cut (z := v + 1) (by simp [numB]; omega) hj)
theorem run_enc {R : OpR} {q : Int} (h : R.ok q = true) : ∀ (n : Nat) (bs y : List Int), n ≤ 6 → bs = R.pre n ++ y → runR bs n = (recI n R, (R.pre n).length, 0) := by
  intro n
  induction n with
  | zero => intro bs y _ _; simp [runR, recI, OpR.pre, preE, zR]
  | succ n ih =>
    intro bs y hn hb
    rw [OpR.pre_succ, List.append_assoc] at hb
    have e := ih bs _ (by omega) hb
    have es : stepR bs n (runR bs n) = (recI (n + 1) R, (R.prt n).length, 0) := by
      unfold stepR
      rw [e]
      simp only
      rw [hb, List.drop_left]
      exact upd_enc h n (by omega) y
    rw [runR_ok (by rw [e]) (by rw [es]), es, e, OpR.pre_succ, List.length_append]
theorem run_cut {R : OpR} {q : Int} (h : R.ok q = true) : ∀ (n j : Nat) (bs z : List Int), n ≤ 6 → bs = (R.pre n ++ z).take j → j < (R.pre n).length → (runR bs n).2.2 = 7 := by
  intro n
  induction n with
  | zero => intro j bs z _ _ hj; simp [OpR.pre, preE] at hj
  | succ n ih =>
    intro j bs z hn hb hj
    rw [OpR.pre_succ, List.length_append] at hj
    rw [OpR.pre_succ, List.append_assoc] at hb
    by_cases hc : j < (R.pre n).length
    · have e := ih j bs _ (by omega) hb hc
      rw [runR_stay (by rw [e]; decide), e]
    · have e2 : bs = R.pre n ++ (R.prt n).take (j - (R.pre n).length) := by
        rw [hb, List.take_append, List.take_of_length_le (by omega), List.take_append_of_le_length (by omega)]
      have e := run_enc h n bs _ (by omega) e2
      have es : (stepR bs n (runR bs n)).2.2 = 7 := by
        unfold stepR
        rw [e]
        simp only
        rw [e2, List.drop_left]
        exact upd_cut h n (by omega) (by omega)
      rw [runR_err (by rw [e]) (by rw [es]; decide), es]
theorem strN_nil {s : ByteArray} (h : strN s = []) : s = ⟨#[]⟩ := by rw [← strOf_strN s, h]; rfl
theorem rec6 {R : OpR} {q : Int} (h : R.ok q = true) : recI 6 R = R := by
  obtain ⟨t, r, ds, k, nt, nr, pt, pr, s, p, v⟩ := R
  obtain ⟨h1, h2, h3, h4⟩ := opB_parts h
  rcases kndB_parts h4 with ⟨rfl, k1, k2, rfl, rfl⟩ | ⟨rfl, k1, rfl, rfl, k4⟩
  · simp [recI]
  · have e : s = ⟨#[]⟩ := strN_nil k4
    subst e
    simp [recI]
theorem seqR_is {R : OpR} {q : Int} (h : R.ok q = true) : seqR R = q := by
  obtain ⟨h1, h2, h3, h4⟩ := opB_parts h
  obtain ⟨g1, g2, g3, g4, g5⟩ := cntB_parts h3
  rw [seqR, if_pos g2, g5]
theorem tkO_enc {R : OpR} {q : Int} (h : R.ok q = true) (x : List Int) : tkO (R.pre 6 ++ x) = (R, q, (R.pre 6).length, 0) := by
  have e := run_enc h 6 _ x (by omega) rfl
  rw [rec6 h] at e
  rw [tkO_yes (by rw [e]) (by rw [e]; simp only; rw [seqR_is h]; exact h), e]
  simp only
  rw [seqR_is h]
theorem tkO_cut {R : OpR} {q : Int} (h : R.ok q = true) {j : Nat} (hj : j < (R.pre 6).length) : tkO ((R.pre 6).take j) = (zR, 0, 0, 7) := by
  have e := run_cut h 6 j ((R.pre 6).take j) [] (by omega) (by simp) hj
  rw [tkO_err (by rw [e]; decide), e]

theorem tkK_back {bs : List Int} (hb : IsB bs) (h : (tkK bs).2.2 = 0) : ((tkK bs).1 = 1 ∨ (tkK bs).1 = 2) ∧ (tkK bs).2.1 ≤ bs.length ∧ enc (tkK bs).1.toNat = bs.take (tkK bs).2.1 := by
  unfold tkK at h ⊢
  by_cases he : (tkN bs).2.2 = 0
  · rw [if_neg (by simp [he])] at h ⊢
    by_cases h2 : (tkN bs).1 = 1 ∨ (tkN bs).1 = 2
    · rw [if_pos h2]
      obtain ⟨a1, a2, a3, a4, a5⟩ := tkN_back hb he
      exact ⟨h2, a4, a5⟩
    · rw [if_neg h2] at h; simp at h
  · rw [if_pos he] at h
    exact absurd h he
/-- what was taken was written so -/
theorem upd_back {bs : List Int} (hb : IsB bs) (R : OpR) (n : Nat) (hn : n < 6) (h : (updF (fAt n R.k) bs R).2.2 = 0) : (updF (fAt n R.k) bs R).1.pre n = R.pre n ∧ (updF (fAt n R.k) bs R).2.1 ≤ bs.length ∧ (updF (fAt n R.k) bs R).1.prt n = bs.take (updF (fAt n R.k) bs R).2.1 := by
  match n, hn with
  | 0, _ => exact ⟨rfl, (tkSt_back hb h).2⟩
  | 1, _ => exact ⟨by simp [OpR.pre, preE, prtE, fldE, fAt, updF, List.range_succ], (tkV_back hb h).2⟩
  | 2, _ => exact ⟨by simp [OpR.pre, preE, prtE, fldE, fAt, updF, List.range_succ], (tkK_back hb h).2⟩
  | 3, _ => exact ⟨by simp [OpR.pre, preE, prtE, fldE, fAt, updF, List.range_succ], (tkSt_back hb h).2⟩
  | 4, _ =>
    by_cases hk : R.k = 2
    · have e : fAt 4 R.k = 6 := by simp [fAt, hk]
      rw [e] at h ⊢
      obtain ⟨a1, a2, a3, a4, a5⟩ := tkN_back hb h
      refine ⟨by simp [OpR.pre, preE, prtE, fldE, fAt, updF, List.range_succ], a4, ?_⟩
      rw [← show _ = bs.take (updF 6 bs R).2.1 from a5]
      simp [OpR.prt, prtE, fldE, fAt, updF, hk]
    · have e : fAt 4 R.k = 4 := by simp [fAt, hk]
      rw [e] at h ⊢
      obtain ⟨a1, a2, a3⟩ := tkSt_back hb h
      refine ⟨by simp [OpR.pre, preE, prtE, fldE, fAt, updF, List.range_succ], a2, ?_⟩
      rw [← show _ = bs.take (updF 4 bs R).2.1 from a3]
      simp [OpR.prt, prtE, fldE, fAt, updF, hk]
  | 5, _ =>
    by_cases hk : R.k = 2
    · have e : fAt 5 R.k = 7 := by simp [fAt, hk]
      rw [e] at h ⊢
      obtain ⟨a1, a2, a3, a4, a5⟩ := tkN_back hb h
      refine ⟨by simp [OpR.pre, preE, prtE, fldE, fAt, updF, List.range_succ, hk], a4, ?_⟩
      rw [← show _ = bs.take (updF 7 bs R).2.1 from a5]
      simp [OpR.prt, prtE, fldE, fAt, updF, hk]
    · have e : fAt 5 R.k = 5 := by simp [fAt, hk]
      rw [e] at h ⊢
      obtain ⟨a1, a2, a3⟩ := tkS_back hb h
      refine ⟨by simp [OpR.pre, preE, prtE, fldE, fAt, updF, List.range_succ, hk], a2, ?_⟩
      rw [← show _ = bs.take (updF 5 bs R).2.1 from a3]
      simp [OpR.prt, prtE, fldE, fAt, updF, hk]
theorem run_back {bs : List Int} (hb : IsB bs) : ∀ n : Nat, n ≤ 6 → (runR bs n).2.2 = 0 → (runR bs n).2.1 ≤ bs.length ∧ (runR bs n).1.pre n = bs.take (runR bs n).2.1 := by
  intro n
  induction n with
  | zero => intro _ _; simp [runR, OpR.pre, preE]
  | succ n ih =>
    intro hn h
    by_cases h0 : (runR bs n).2.2 = 0
    · by_cases h1 : (stepR bs n (runR bs n)).2.2 = 0
      · obtain ⟨i1, i2⟩ := ih (by omega) h0
        obtain ⟨u1, u2, u3⟩ := upd_back (hb.drop (runR bs n).2.1) (runR bs n).1 n (by omega) h1
        rw [runR_ok h0 h1]
        simp only
        rw [List.length_drop] at u2
        refine ⟨by unfold stepR; omega, ?_⟩
        rw [OpR.pre_succ]
        unfold stepR
        rw [u1, u3, i2, List.take_add]
      · rw [runR_err h0 h1] at h
        exact absurd h h1
    · rw [runR_stay h0] at h
      exact absurd h h0
theorem run_k {bs : List Int} (hb : IsB bs) (n : Nat) (hn : n ≤ 6) (h : (runR bs n).2.2 = 0) : (runR bs n).2.1 ≤ bs.length := (run_back hb n hn h).1
theorem upd_keep {bs : List Int} (hb : IsB bs) (R : OpR) (n : Nat) (hn : n < 6) (h : (updF (fAt n R.k) bs R).2.2 = 0) (h0 : 0 < n → St.plB R.t R.r = true) (h1 : 1 < n → Hv.vecB R.ds = true) : St.plB (updF (fAt n R.k) bs R).1.t (updF (fAt n R.k) bs R).1.r = true ∧ (0 < n → Hv.vecB (updF (fAt n R.k) bs R).1.ds = true) := by
  match n, hn with
  | 0, _ => exact ⟨(tkSt_back hb h).1, fun h => by omega⟩
  | 1, _ => exact ⟨h0 (by omega), fun _ => (tkV_back hb h).1⟩
  | 2, _ => exact ⟨h0 (by omega), fun _ => h1 (by omega)⟩
  | 3, _ => exact ⟨h0 (by omega), fun _ => h1 (by omega)⟩
  | 4, _ =>
    by_cases hk : R.k = 2
    · have e : fAt 4 R.k = 6 := by simp [fAt, hk]
      rw [e]; exact ⟨h0 (by omega), fun _ => h1 (by omega)⟩
    · have e : fAt 4 R.k = 4 := by simp [fAt, hk]
      rw [e]; exact ⟨h0 (by omega), fun _ => h1 (by omega)⟩
  | 5, _ =>
    by_cases hk : R.k = 2
    · have e : fAt 5 R.k = 7 := by simp [fAt, hk]
      rw [e]; exact ⟨h0 (by omega), fun _ => h1 (by omega)⟩
    · have e : fAt 5 R.k = 5 := by simp [fAt, hk]
      rw [e]; exact ⟨h0 (by omega), fun _ => h1 (by omega)⟩
theorem run_keep {bs : List Int} (hb : IsB bs) : ∀ n : Nat, n ≤ 6 → (runR bs n).2.2 = 0 → (0 < n → St.plB (runR bs n).1.t (runR bs n).1.r = true) ∧ (1 < n → Hv.vecB (runR bs n).1.ds = true) := by
  intro n
  induction n with
  | zero => intro _ _; exact ⟨fun h => by omega, fun h => by omega⟩
  | succ n ih =>
    intro hn h
    by_cases h0 : (runR bs n).2.2 = 0
    · by_cases h1 : (stepR bs n (runR bs n)).2.2 = 0
      · obtain ⟨i1, i2⟩ := ih (by omega) h0
        obtain ⟨u1, u2⟩ := upd_keep (hb.drop (runR bs n).2.1) (runR bs n).1 n (by omega) h1 i1 i2
        rw [runR_ok h0 h1]
        exact ⟨fun _ => u1, fun h => u2 (by omega)⟩
      · rw [runR_err h0 h1] at h
        exact absurd h h1
    · rw [runR_stay h0] at h
      exact absurd h h0
theorem tkO_back {bs : List Int} (hb : IsB bs) (h : (tkO bs).2.2.2 = 0) : (tkO bs).1.ok (tkO bs).2.1 = true ∧ (tkO bs).2.2.1 ≤ bs.length ∧ (tkO bs).1.pre 6 = bs.take (tkO bs).2.2.1 := by
  by_cases h0 : (runR bs 6).2.2 = 0
  · cases h2 : (runR bs 6).1.ok (seqR (runR bs 6).1)
    · rw [tkO_no h0 h2] at h; simp at h
    · rw [tkO_yes h0 h2]
      exact ⟨h2, run_back hb 6 (by omega) h0⟩
  · rw [tkO_err h0] at h
    exact absurd h h0
end Go.Proofs.YtabbbpmhmlapgaaDoor
