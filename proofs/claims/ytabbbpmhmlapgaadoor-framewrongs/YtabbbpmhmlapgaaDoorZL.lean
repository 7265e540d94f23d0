/- Joined: G10 G11 G12 G13. -/
import Derived.Test.YtabbbpmhmlapgaaDoorZK
import Derived.Test.YtabbbpmhmlapgaaDoorO18
import Derived.Test.YtabbbpmhmlapgaaDoorO9b

/- Frames taken out of bytes: mathematics. -/
namespace Go.Proofs.YtabbbpmhmlapgaaDoor
open Go.RowKit Go.Lib
set_option linter.unusedVariables false


/-- operations, one behind the other -/
def moreO (bs : List Int) (X : List OpD × Nat × Int) (Y : OpR × Int × Nat × Int) : List OpD × Nat × Int := if Y.2.2.2 ≠ 0 then ([], 0, Y.2.2.2) else (X.1 ++ [(Y.1, Y.2.1)], X.2.1 + Y.2.2.1, 0)
def stepO (bs : List Int) (X : List OpD × Nat × Int) : List OpD × Nat × Int := if X.2.2 ≠ 0 then X else moreO bs X (tkO (bs.drop X.2.1))
def tkOs (bs : List Int) (a0 : Nat) : Nat → List OpD × Nat × Int
  | 0 => ([], a0, 0)
  | i + 1 => stepO bs (tkOs bs a0 i)
theorem tkOs_zero (bs : List Int) (a0 : Nat) : tkOs bs a0 0 = ([], a0, 0) := rfl
theorem tkOs_succ (bs : List Int) (a0 i : Nat) : tkOs bs a0 (i + 1) = stepO bs (tkOs bs a0 i) := rfl
theorem tkOs_stay {bs : List Int} {a0 i : Nat} (h : (tkOs bs a0 i).2.2 ≠ 0) : tkOs bs a0 (i + 1) = tkOs bs a0 i := by rw [tkOs_succ]; generalize tkOs bs a0 i = X at *; unfold stepO; rw [if_pos h]
theorem tkOs_err {bs : List Int} {a0 i : Nat} (h : (tkOs bs a0 i).2.2 = 0) (h2 : (tkO (bs.drop (tkOs bs a0 i).2.1)).2.2.2 ≠ 0) : tkOs bs a0 (i + 1) = ([], 0, (tkO (bs.drop (tkOs bs a0 i).2.1)).2.2.2) := by
  rw [tkOs_succ]
  generalize tkOs bs a0 i = X at *
  unfold stepO
  rw [if_neg (by simp [h])]
  generalize tkO (bs.drop X.2.1) = Y at *
  unfold moreO
  rw [if_pos h2]
theorem tkOs_ok {bs : List Int} {a0 i : Nat} (h : (tkOs bs a0 i).2.2 = 0) (h2 : (tkO (bs.drop (tkOs bs a0 i).2.1)).2.2.2 = 0) : tkOs bs a0 (i + 1) = ((tkOs bs a0 i).1 ++ [((tkO (bs.drop (tkOs bs a0 i).2.1)).1, (tkO (bs.drop (tkOs bs a0 i).2.1)).2.1)], (tkOs bs a0 i).2.1 + (tkO (bs.drop (tkOs bs a0 i).2.1)).2.2.1, 0) := by
  rw [tkOs_succ]
  generalize tkOs bs a0 i = X at *
  unfold stepO
  rw [if_neg (by simp [h])]
  generalize tkO (bs.drop X.2.1) = Y at *
  unfold moreO
  rw [if_neg (by simp [h2])]
theorem tkOs_off {bs : List Int} {a0 i j : Nat} (hij : i ≤ j) (h : (tkOs bs a0 i).2.2 ≠ 0) : tkOs bs a0 j = tkOs bs a0 i := by
  induction hij with
  | refl => rfl
  | step _ ih => rw [tkOs_stay (by rw [ih]; exact h), ih]
/-- as many as one frame may hold, behind their number -/
def tkOps (bs : List Int) : List OpD × Nat × Int :=
  if (tkN bs).2.2 ≠ 0 then ([], 0, (tkN bs).2.2) else if 8 < (tkN bs).1 then ([], 0, 1) else tkOs bs (tkN bs).2.1 (tkN bs).1.toNat
structure FrD where
  fr : Int
  tu : Int
  k : Int
  hs : List Int
  os : List OpD
def zF : FrD := ⟨0, 0, 0, [], []⟩
/-- one field -/
def updB (i : Nat) (bs : List Int) (F : FrD) : FrD × Nat × Int :=
  match i with
  | 0 => ({ F with fr := (tkN bs).1 }, (tkN bs).2.1, (tkN bs).2.2)
  | 1 => ({ F with tu := (tkN bs).1 }, (tkN bs).2.1, (tkN bs).2.2)
  | 2 => ({ F with k := (tkN bs).1 }, (tkN bs).2.1, (tkN bs).2.2)
  | _ => if F.k = 1 then ({ F with hs := (Hv.tkV bs).1 }, (Hv.tkV bs).2.1, (Hv.tkV bs).2.2) else if F.k = 2 then ({ F with os := (tkOps bs).1 }, (tkOps bs).2.1, (tkOps bs).2.2) else (F, 0, 1)
def stepB (bs : List Int) (i : Nat) (X : FrD × Nat × Int) : FrD × Nat × Int := updB i (bs.drop X.2.1) X.1
def runB (bs : List Int) : Nat → FrD × Nat × Int
  | 0 => (zF, 0, 0)
  | i + 1 => if (runB bs i).2.2 ≠ 0 then runB bs i else if (stepB bs i (runB bs i)).2.2 ≠ 0 then (zF, 0, (stepB bs i (runB bs i)).2.2) else ((stepB bs i (runB bs i)).1, (runB bs i).2.1 + (stepB bs i (runB bs i)).2.1, 0)
theorem runB_stay {bs : List Int} {i : Nat} (h : (runB bs i).2.2 ≠ 0) : runB bs (i + 1) = runB bs i := by rw [runB, if_pos h]
theorem runB_err {bs : List Int} {i : Nat} (h : (runB bs i).2.2 = 0) (h2 : (stepB bs i (runB bs i)).2.2 ≠ 0) : runB bs (i + 1) = (zF, 0, (stepB bs i (runB bs i)).2.2) := by rw [runB, if_neg (by simp [h]), if_pos h2]
theorem runB_ok {bs : List Int} {i : Nat} (h : (runB bs i).2.2 = 0) (h2 : (stepB bs i (runB bs i)).2.2 = 0) : runB bs (i + 1) = ((stepB bs i (runB bs i)).1, (runB bs i).2.1 + (stepB bs i (runB bs i)).2.1, 0) := by rw [runB, if_neg (by simp [h]), if_neg (by simp [h2])]
theorem runB_off {bs : List Int} {i j : Nat} (hij : i ≤ j) (h : (runB bs i).2.2 ≠ 0) : runB bs j = runB bs i := by
  induction hij with
  | refl => rfl
  | step _ ih => rw [runB_stay (by rw [ih]; exact h), ih]
def FrD.ok (F : FrD) : Bool := frB F.fr F.tu F.k F.hs F.os
def FrD.enc (F : FrD) : List Int := encF F.fr F.tu F.k F.hs F.os
def FrD.by (F : FrD) : List Int := byF F.fr F.tu F.k F.hs F.os
def FrD.pre (F : FrD) (n : Nat) : List Int := fpre n F.fr F.tu F.k F.hs F.os
def FrD.prt (F : FrD) (n : Nat) : List Int := fprt n F.fr F.tu F.k F.hs F.os
/-- which frame bytes are; the error -/
def prsF (bs : List Int) : FrD × Int :=
  if bs.length < 4 then (zF, 7) else if bs.take 4 ≠ be4 (crc (bs.drop 4)) then (zF, 8)
  else if (runB (bs.drop 4) 4).2.2 ≠ 0 ∨ (runB (bs.drop 4) 4).2.1 < (bs.drop 4).length ∨ (runB (bs.drop 4) 4).1.ok = false then (zF, 1) else ((runB (bs.drop 4) 4).1, 0)

-- what was written is taken
theorem tkOs_enc {bs : List Int} {a0 : Nat} {os : List OpD} {y : List Int} (hok : os.all OpD.ok = true) (hb : bs.drop a0 = encOs os ++ y) (hl : a0 ≤ bs.length) : ∀ i, i ≤ os.length → tkOs bs a0 i = (os.take i, a0 + (encOs (os.take i)).length, 0)
  | 0, _ => by rw [tkOs_zero]; simp [encOs]
  | i + 1, hi => by
    have ih := tkOs_enc hok hb hl i (by omega)
    obtain ⟨x, hx⟩ : ∃ x, os[i]? = some x := ⟨_, List.getElem?_eq_getElem (by omega)⟩
    have hxo : x.1.ok x.2 = true := List.all_eq_true.1 hok x (List.mem_of_getElem? hx)
    have hsp : os = os.take i ++ x :: os.drop (i + 1) := by
      have h1 : os.drop i = x :: os.drop (i + 1) := by
        have := List.getElem?_eq_some_iff.1 hx
        obtain ⟨h1, h2⟩ := this
        rw [List.drop_eq_getElem_cons h1, h2]
      rw [← h1, List.take_append_drop]
    have hd : bs.drop (a0 + (encOs (os.take i)).length) = encR x ++ (encOs (os.drop (i + 1)) ++ y) := by
      rw [← List.drop_drop, hb]
      have : encOs os = encOs (os.take i) ++ (encR x ++ encOs (os.drop (i + 1))) := by
        conv => lhs; rw [hsp]
        simp [encOs]
      rw [this, List.append_assoc, List.drop_left, List.append_assoc]
    have ht := tkO_enc hxo (encOs (os.drop (i + 1)) ++ y)
    have e1 : tkO (bs.drop (tkOs bs a0 i).2.1) = (x.1, x.2, (encR x).length, 0) := by rw [ih, hd]; exact ht
    rw [tkOs_ok (by rw [ih]) (by rw [e1]), e1, ih, List.take_add_one, hx]
    simp [encOs, Nat.add_assoc]
theorem tkOps_enc {os : List OpD} (h : batB os = true) (y : List Int) : tkOps (enc os.length ++ encOs os ++ y) = (os, (enc os.length ++ encOs os).length, 0) := by
  obtain ⟨h1, h2, h3⟩ := batB_parts h
  have e := tkN_enc (n := os.length) (by omega) (encOs os ++ y)
  rw [← List.append_assoc] at e
  unfold tkOps
  rw [e]
  simp only
  rw [if_neg (by simp), if_neg (by omega), Int.toNat_natCast, tkOs_enc h3 (y := y) (by rw [List.append_assoc, List.drop_left]) (by simp) os.length (Nat.le_refl _), List.take_length, List.length_append]
/-- what is there when some fields are taken -/
def recB (i : Nat) (F : FrD) : FrD := ⟨if 0 < i then F.fr else 0, if 1 < i then F.tu else 0, if 2 < i then F.k else 0, if 3 < i ∧ F.k = 1 then F.hs else [], if 3 < i ∧ F.k = 2 then F.os else []⟩
theorem tkNum_enc {z : Int} (h0 : 0 ≤ z) (h1 : z < 16) (y : List Int) : tkN (enc z.toNat ++ y) = (z, (enc z.toNat).length, 0) := by
  rw [tkN_enc (by omega), show ((z.toNat : Nat) : Int) = z by omega]
theorem updB_enc {F : FrD} (h : F.ok = true) (i : Nat) (hi : i < 4) (y : List Int) : updB i (F.prt i ++ y) (recB i F) = (recB (i + 1) F, (F.prt i).length, 0) := by
  obtain ⟨fr, tu, k, hs, os⟩ := F
  obtain ⟨h1, h2, h3, h4⟩ := frB_parts h
  have e1 := repB_num h1
  have e2 := repB_num h2
  have hk : k = 1 ∨ k = 2 := by rcases fkB_parts h4 with h | h <;> simp_all
  match i, hi with
  | 0, _ =>
    have e := tkNum_enc e1.1 e1.2 y
    simp only [updB, FrD.prt, fprt, e, recB]
    simp
  | 1, _ =>
    have e := tkNum_enc e2.1 e2.2 y
    simp only [updB, FrD.prt, fprt, e, recB]
    simp
  | 2, _ =>
    have e := tkNum_enc (z := k) (by omega) (by omega) y
    simp only [updB, FrD.prt, fprt, e, recB]
    simp
  | 3, _ =>
    rcases fkB_parts h4 with ⟨e, g1, g2⟩ | ⟨e, g1, g2⟩
    · simp only at e g1 g2
      subst e; subst g2
      have e := Hv.tkV_enc g1 y
      simp only [updB, FrD.prt, fprt, recB]
      simp [e]
    · simp only at e g1 g2
      subst e; subst g2
      have e := tkOps_enc g1 y
      simp only [updB, FrD.prt, fprt, recB]
      simp [-List.append_assoc, e]
theorem runB_enc {F : FrD} (h : F.ok = true) : ∀ (n : Nat) (bs y : List Int), n ≤ 4 → bs = F.pre n ++ y → runB bs n = (recB n F, (F.pre n).length, 0) := by
  intro n
  induction n with
  | zero => intro bs y _ _; simp [runB, recB, FrD.pre, fpre, zF]
  | succ n ih =>
    intro bs y hn hb
    have hp : F.pre (n + 1) = F.pre n ++ F.prt n := fpre_succ ..
    have e := ih bs (F.prt n ++ y) (by omega) (by rw [hb, hp, List.append_assoc])
    have hs : stepB bs n (runB bs n) = (recB (n + 1) F, (F.prt n).length, 0) := by
      rw [e]
      unfold stepB
      simp only
      rw [hb, hp, List.append_assoc, List.drop_left]
      exact updB_enc h n (by omega) y
    rw [runB_ok (by rw [e]) (by rw [hs]), hs, e, hp, List.length_append]
theorem rec4 {F : FrD} (h : F.ok = true) : recB 4 F = F := by
  obtain ⟨fr, tu, k, hs, os⟩ := F
  obtain ⟨h1, h2, h3, h4⟩ := frB_parts h
  rcases fkB_parts h4 with ⟨e, g1, g2⟩ | ⟨e, g1, g2⟩
  · simp only at e g1 g2
    subst e; subst g2
    simp [recB]
  · simp only at e g1 g2
    subst e; subst g2
    simp [recB]
theorem runB_all {F : FrD} (h : F.ok = true) (y : List Int) : runB (F.enc ++ y) 4 = (F, F.enc.length, 0) := by
  have e := runB_enc h 4 (F.enc ++ y) y (Nat.le_refl _) rfl
  rw [rec4 h] at e
  exact e
theorem prsF_by {F : FrD} (h : F.ok = true) : prsF F.by = (F, 0) := by
  have hd : F.by.drop 4 = F.enc := by unfold FrD.by byF; rw [List.drop_left' (be4_len _)]; rfl
  have ht : F.by.take 4 = be4 (crc F.enc) := by unfold FrD.by byF; rw [List.take_left' (be4_len _)]; rfl
  have e := runB_all h []
  rw [List.append_nil] at e
  unfold prsF
  rw [hd, ht, e, if_neg (by unfold FrD.by byF; rw [List.length_append, be4_len]; omega), if_neg (by simp), if_neg (by simp [h])]

-- what is taken was written so
theorem tkOs_len {bs : List Int} {a0 : Nat} : ∀ i, (tkOs bs a0 i).2.2 = 0 → (tkOs bs a0 i).1.length = i
  | 0, _ => by rw [tkOs_zero]; rfl
  | i + 1, h => by
    by_cases h0 : (tkOs bs a0 i).2.2 = 0
    · by_cases h2 : (tkO (bs.drop (tkOs bs a0 i).2.1)).2.2.2 = 0
      · rw [tkOs_ok h0 h2]
        simp [tkOs_len i h0]
      · rw [tkOs_err h0 h2] at h
        exact absurd h h2
    · rw [tkOs_stay h0] at h
      exact absurd h h0
theorem tkOs_back {bs : List Int} (hb : IsB bs) {a0 : Nat} (ha : a0 ≤ bs.length) : ∀ i, (tkOs bs a0 i).2.2 = 0 → (tkOs bs a0 i).2.1 ≤ bs.length ∧ a0 ≤ (tkOs bs a0 i).2.1 ∧ bs.take a0 ++ encOs (tkOs bs a0 i).1 = bs.take (tkOs bs a0 i).2.1 ∧ (tkOs bs a0 i).1.all OpD.ok = true
  | 0, _ => by rw [tkOs_zero]; exact ⟨ha, Nat.le_refl _, by simp [encOs], by simp⟩
  | i + 1, h => by
    by_cases h0 : (tkOs bs a0 i).2.2 = 0
    · by_cases h2 : (tkO (bs.drop (tkOs bs a0 i).2.1)).2.2.2 = 0
      · obtain ⟨i1, i2, i3, i4⟩ := tkOs_back hb ha i h0
        obtain ⟨b1, b2, b3⟩ := tkO_back (hb.drop _) h2
        rw [List.length_drop] at b2
        rw [tkOs_ok h0 h2]
        refine ⟨by simp only; omega, by simp only; omega, ?_, ?_⟩
        · simp only
          have e : encOs ((tkOs bs a0 i).1 ++ [((tkO (bs.drop (tkOs bs a0 i).2.1)).1, (tkO (bs.drop (tkOs bs a0 i).2.1)).2.1)]) = encOs (tkOs bs a0 i).1 ++ (tkO (bs.drop (tkOs bs a0 i).2.1)).1.pre 6 := by simp [encOs]; rfl
          rw [e, ← List.append_assoc, i3, b3, List.take_add]
        · simp only [List.all_append, i4, List.all_cons, List.all_nil, Bool.true_and]
          show (OpD.ok _ && true) = true
          rw [Bool.and_true]
          exact b1
      · rw [tkOs_err h0 h2] at h
        exact absurd h h2
    · rw [tkOs_stay h0] at h
      exact absurd h h0
theorem tkOps_back {bs : List Int} (hb : IsB bs) (h : (tkOps bs).2.2 = 0) : (tkOps bs).2.1 ≤ bs.length ∧ enc (tkOps bs).1.length ++ encOs (tkOps bs).1 = bs.take (tkOps bs).2.1 ∧ (tkOps bs).1.length ≤ 8 ∧ (tkOps bs).1.all OpD.ok = true := by
  unfold tkOps at h ⊢
  by_cases h0 : (tkN bs).2.2 = 0
  · rw [if_neg (by simp [h0])] at h ⊢
    by_cases h1 : 8 < (tkN bs).1
    · rw [if_pos h1] at h; simp at h
    · rw [if_neg h1] at h ⊢
      obtain ⟨n0, n1, n2, n3, n4⟩ := tkN_back hb h0
      obtain ⟨b1, b2, b3, b4⟩ := tkOs_back hb n3 _ h
      have hl := tkOs_len _ h
      refine ⟨b1, ?_, by omega, b4⟩
      rw [hl, n4]
      exact b3
  · rw [if_pos h0] at h
    exact absurd h h0
theorem updB_back {bs : List Int} (hb : IsB bs) (F : FrD) (n : Nat) (hn : n < 4) (h : (updB n bs F).2.2 = 0) : (updB n bs F).1.pre n = F.pre n ∧ (updB n bs F).2.1 ≤ bs.length ∧ (updB n bs F).1.prt n = bs.take (updB n bs F).2.1 := by
  match n, hn with
  | 0, _ =>
    obtain ⟨n0, n1, n2, n3, n4⟩ := tkN_back hb h
    exact ⟨rfl, n3, n4⟩
  | 1, _ =>
    obtain ⟨n0, n1, n2, n3, n4⟩ := tkN_back hb h
    exact ⟨by simp [FrD.pre, fpre, fprt, updB, List.range_succ], n3, n4⟩
  | 2, _ =>
    obtain ⟨n0, n1, n2, n3, n4⟩ := tkN_back hb h
    exact ⟨by simp [FrD.pre, fpre, fprt, updB, List.range_succ], n3, n4⟩
  | 3, _ =>
    obtain ⟨fr, tu, k, hs, os⟩ := F
    simp only [updB] at h ⊢
    by_cases g1 : k = 1
    · rw [if_pos g1] at h ⊢
      obtain ⟨b1, b2, b3⟩ := tkV_back hb h
      refine ⟨by simp [FrD.pre, fpre, fprt, List.range_succ], b2, ?_⟩
      simp only [FrD.prt, fprt, g1, if_true]
      exact b3
    · rw [if_neg g1] at h ⊢
      by_cases g2 : k = 2
      · rw [if_pos g2] at h ⊢
        obtain ⟨b1, b2, b3, b4⟩ := tkOps_back hb h
        refine ⟨by simp [FrD.pre, fpre, fprt, List.range_succ], b1, ?_⟩
        simp only [FrD.prt, fprt, if_neg g1]
        exact b2
      · rw [if_neg g2] at h
        simp at h
theorem runB_back {bs : List Int} (hb : IsB bs) : ∀ n : Nat, n ≤ 4 → (runB bs n).2.2 = 0 → (runB bs n).2.1 ≤ bs.length ∧ (runB bs n).1.pre n = bs.take (runB bs n).2.1 := by
  intro n
  induction n with
  | zero => intro _ _; simp [runB, FrD.pre, fpre]
  | succ n ih =>
    intro hn h
    by_cases h0 : (runB bs n).2.2 = 0
    · by_cases h2 : (stepB bs n (runB bs n)).2.2 = 0
      · obtain ⟨i1, i2⟩ := ih (by omega) h0
        obtain ⟨u1, u2, u3⟩ := updB_back (hb.drop _) (runB bs n).1 n (by omega) h2
        rw [List.length_drop] at u2
        rw [runB_ok h0 h2]
        refine ⟨by simp only [stepB] at u2 ⊢; omega, ?_⟩
        simp only
        have hp : (stepB bs n (runB bs n)).1.pre (n + 1) = (stepB bs n (runB bs n)).1.pre n ++ (stepB bs n (runB bs n)).1.prt n := fpre_succ ..
        rw [hp]
        unfold stepB
        rw [u1, i2, u3, List.take_add]
      · rw [runB_err h0 h2] at h
        exact absurd h h2
    · rw [runB_stay h0] at h
      exact absurd h h0
theorem runB_k {bs : List Int} (hb : IsB bs) (n : Nat) (hn : n ≤ 4) (h : (runB bs n).2.2 = 0) : (runB bs n).2.1 ≤ bs.length := (runB_back hb n hn h).1
theorem prsF_back {bs : List Int} (hb : IsB bs) (h : (prsF bs).2 = 0) : (prsF bs).1.ok = true ∧ bs = (prsF bs).1.by := by
  unfold prsF at h ⊢
  by_cases h1 : bs.length < 4
  · rw [if_pos h1] at h; simp at h
  · rw [if_neg h1] at h ⊢
    by_cases h2 : bs.take 4 ≠ be4 (crc (bs.drop 4))
    · rw [if_pos h2] at h; simp at h
    · rw [if_neg h2] at h ⊢
      by_cases h3 : (runB (bs.drop 4) 4).2.2 ≠ 0 ∨ (runB (bs.drop 4) 4).2.1 < (bs.drop 4).length ∨ (runB (bs.drop 4) 4).1.ok = false
      · rw [if_pos h3] at h; simp at h
      · rw [if_neg h3]
        simp only [not_or, Decidable.not_not, Bool.not_eq_false] at h3
        obtain ⟨a1, a2, a3⟩ := h3
        refine ⟨a3, ?_⟩
        obtain ⟨b1, b2⟩ := runB_back (hb.drop 4) 4 (Nat.le_refl _) a1
        have e : (runB (bs.drop 4) 4).1.enc = bs.drop 4 := by
          have : (runB (bs.drop 4) 4).2.1 = (bs.drop 4).length := by omega
          rw [this, List.take_length] at b2
          exact b2
        show bs = be4 (crc (runB (bs.drop 4) 4).1.enc) ++ (runB (bs.drop 4) 4).1.enc
        simp only [Decidable.not_not] at h2
        rw [e, ← h2, List.take_append_drop]
/-- no true beginning of a frame's bytes is a frame's bytes -/
theorem by_len (F : FrD) : F.by.length = 4 + F.enc.length := by
  show (be4 _ ++ encF _ _ _ _ _).length = _
  rw [List.length_append, be4_len]
  rfl
theorem by_drop (F : FrD) : F.by.drop 4 = F.enc := by unfold FrD.by byF; rw [List.drop_left' (be4_len _)]; rfl
theorem by_isB (F : FrD) : IsB F.by := byF_isB _ _ _ _ _
theorem by_cut {F : FrD} (h : F.ok = true) {j : Nat} (hj : j < F.by.length) : (prsF (F.by.take j)).2 ≠ 0 := by
  intro e
  have hb : IsB (F.by.take j) := fun z hz => by_isB F z (List.mem_of_mem_take hz)
  obtain ⟨h1, h2⟩ := prsF_back hb e
  generalize (prsF (F.by.take j)).1 = G at h1 h2
  have hl : G.by.length = j := by rw [← h2, List.length_take]; omega
  have hsp : F.by = G.by ++ F.by.drop j := by rw [← h2, List.take_append_drop]
  have hl4 := by_len G
  have hd : F.enc = G.enc ++ F.by.drop j := by
    rw [← by_drop F, ← by_drop G]
    conv => lhs; rw [hsp]
    rw [List.drop_append_of_le_length (by omega)]
  have r1 := runB_all h []
  rw [List.append_nil] at r1
  have r2 := runB_all h1 (F.by.drop j)
  rw [← hd, r1] at r2
  have r3 := congrArg (fun x => x.2.1) r2
  simp only at r3
  have := by_len F
  omega
theorem by_more {F : FrD} (h : F.ok = true) {z : Int} (h0 : 0 ≤ z) (h1 : z < 256) : (prsF (F.by ++ [z])).2 ≠ 0 := by
  intro e
  have hb : IsB (F.by ++ [z]) := (by_isB F).app (fun x hx => by simp only [List.mem_singleton] at hx; subst hx; exact ⟨h0, h1⟩)
  obtain ⟨g1, g2⟩ := prsF_back hb e
  generalize (prsF (F.by ++ [z])).1 = G at g1 g2
  have hd : F.enc ++ [z] = G.enc := by
    rw [← by_drop F, ← by_drop G, ← g2, List.drop_append_of_le_length (by rw [by_len]; omega)]
  have r1 := runB_all g1 []
  rw [List.append_nil] at r1
  have r2 := runB_all h [z]
  rw [hd, r1] at r2
  have r3 := congrArg (fun x => x.2.1) r2
  simp only at r3
  have := congrArg List.length hd
  rw [List.length_append, List.length_singleton] at this
  omega
theorem by_turned {F : FrD} (h : F.ok = true) {j : Nat} (hj : j < F.by.length) {z : Int} (h0 : 0 ≤ z) (h1 : z < 256) (hne : z ≠ F.by.getD j 0) : (prsF (F.by.set j z)).2 = 8 := by
  have hl := by_len F
  have key : (F.by.set j z).take 4 ≠ be4 (crc ((F.by.set j z).drop 4)) := by
    by_cases h4 : j < 4
    · intro e
      rw [List.drop_set_of_lt h4, by_drop] at e
      have e2 : F.by.take 4 = be4 (crc F.enc) := by unfold FrD.by byF; rw [List.take_left' (be4_len _)]; rfl
      rw [← e2] at e
      have e3 := congrArg (fun l => l.getD j 0) e
      simp only [List.getD_eq_getElem?_getD, List.getElem?_take, if_pos h4, List.getElem?_set_self hj] at e3
      simp only [List.getD_eq_getElem?_getD] at hne
      simp at e3
      exact hne e3
    · intro e
      have e2 : F.by.take 4 = be4 (crc F.enc) := by unfold FrD.by byF; rw [List.take_left' (be4_len _)]; rfl
      rw [List.take_set_of_le (by omega), e2] at e
      have e3 := be4_inj e
      have e4 : (F.by.set j z).drop 4 = F.enc.set (j - 4) z := by
        rw [List.drop_set, if_neg h4, by_drop]
      rw [e4] at e3
      have hj' : j - 4 < F.enc.length := by omega
      have hsp : F.enc = F.enc.take (j - 4) ++ F.enc.getD (j - 4) 0 :: F.enc.drop (j - 4 + 1) := by
        rw [List.getD_eq_getElem?_getD, List.getElem?_eq_getElem hj', Option.getD_some, ← List.drop_eq_getElem_cons hj', List.take_append_drop]
      have hst : F.enc.set (j - 4) z = F.enc.take (j - 4) ++ z :: F.enc.drop (j - 4 + 1) := List.set_eq_take_append_cons_drop .. |>.trans (by rw [if_pos hj'])
      have hB : IsB F.enc := encF_isB _ _ _ _ _
      have hx : 0 ≤ F.enc.getD (j - 4) 0 ∧ F.enc.getD (j - 4) 0 < 256 := hB _ (by rw [List.getD_eq_getElem?_getD, List.getElem?_eq_getElem hj']; simp)
      have hgd : F.by.getD j 0 = F.enc.getD (j - 4) 0 := by
        rw [← by_drop F, List.getD_eq_getElem?_getD, List.getD_eq_getElem?_getD, List.getElem?_drop, show 4 + (j - 4) = j by omega]
      rw [hst] at e3
      have e5 : crc (F.enc.take (j - 4) ++ F.enc.getD (j - 4) 0 :: F.enc.drop (j - 4 + 1)) = crc (F.enc.take (j - 4) ++ z :: F.enc.drop (j - 4 + 1)) := by rw [← hsp]; exact e3
      exact crc_flip (fun x hx => hB x (List.mem_of_mem_take hx)) (fun x hx => hB x (List.mem_of_mem_drop hx)) hx ⟨h0, h1⟩ (by rw [← hgd]; exact fun h => hne h.symm) e5
  unfold prsF
  rw [if_neg (by rw [List.length_set]; omega), if_pos key]
end Go.Proofs.YtabbbpmhmlapgaaDoor

/- Operations taken out of bytes, as many as one frame holds: the program's. -/
namespace Go.Proofs.YtabbbpmhmlapgaaDoor
open Go.RowKit Go.Lib
set_option linter.unusedVariables false


def OpsT (X : List OpD × Nat × Int) (w : World) (e : Ending) (w' : World) : Prop := ∃ v dl, e = .returned (.tuple #[v, .int .i64 (X.2.1 : Int), .int .i64 X.2.2]) ∧ OwnO w' w.heap.size v X.1 dl ∧ DepsO w' w.heap.size X.1 dl ∧ Below w.heap.size w w'
structure TkI (w w' : World) (bs : List Int) (a0 i : Nat) (os : List OpD) (kk : Nat) (v : Value) (dl : List Value) : Prop where
  run : tkOs bs a0 i = (os, kk, 0)
  len : os.length = i
  own : OwnO w' w.heap.size v os dl
  dep : DepsO w' w.heap.size os dl
  bel : Below w.heap.size w w'
def TkJ (w : World) (a : Option Addr) (bs : List Int) (n cap a0 cnt : Nat) (act : Act) (w' : World) : Prop :=
  ∃ (i kk : Nat) (os : List OpD) (v2 : Value) (dl : List Value) (u1 u4 u6 u7 u8 u9 u10 u11 u12 u13 u14 u15 u16 u17 u18 u19 u20 u21 u22 u23 u24 u25 u26 u27 u28 u29 u30 u31 u32 u33 u34 u35 u36 u37 u38 u39 u40 u41 u42 : Value), act = { tmps := #[.slice a n cap, u1, v2, .int .i64 (kk : Int), u4, .int .i64 (cnt : Int), u6, u7, u8, u9, u10, u11, u12, u13, u14, u15, u16, u17, u18, u19, u20, u21, u22, u23, u24, u25, u26, u27, u28, u29, u30, u31, u32, u33, u34, u35, u36, u37, u38, u39, u40, u41, u42], defers := [] } ∧ i ≤ cnt ∧ TkI w w' bs a0 i os kk v2 dl
theorem tkOps_e {bs : List Int} {c : Int} {a0 : Nat} {x : Int} (h : tkN bs = (c, a0, x)) (hx : x ≠ 0) : tkOps bs = ([], 0, x) := by unfold tkOps; rw [h, if_pos hx]
theorem tkOps_big {bs : List Int} {c : Int} {a0 : Nat} (h : tkN bs = (c, a0, 0)) (hx : 8 < c) : tkOps bs = ([], 0, 1) := by unfold tkOps; rw [h, if_neg (by simp), if_pos hx]
theorem tkOps_run {bs : List Int} {c a0 : Nat} (h : tkN bs = ((c : Int), a0, 0)) (hx : c ≤ 8) : tkOps bs = tkOs bs a0 c := by
  unfold tkOps
  rw [h, if_neg (by simp), if_neg (by simp only; omega)]
  simp only [Int.toNat_natCast]
theorem tkOs_next {bs : List Int} {a0 i kk k' : Nat} {os : List OpD} {R : OpR} {q : Int} (h : tkOs bs a0 i = (os, kk, 0)) (hk : tkO (bs.drop kk) = (R, q, k', 0)) : tkOs bs a0 (i + 1) = (os ++ [(R, q)], kk + k', 0) := by
  have e : tkO (bs.drop (tkOs bs a0 i).2.1) = (R, q, k', 0) := by rw [h]; exact hk
  rw [tkOs_ok (by rw [h]) (by rw [e]), e, h]
theorem tkOs_bad {bs : List Int} {a0 i j kk k' : Nat} {os : List OpD} {R : OpR} {q x : Int} (h : tkOs bs a0 i = (os, kk, 0)) (hk : tkO (bs.drop kk) = (R, q, k', x)) (hx : x ≠ 0) (hij : i < j) : tkOs bs a0 j = ([], 0, x) := by
  have e : tkO (bs.drop (tkOs bs a0 i).2.1) = (R, q, k', x) := by rw [h]; exact hk
  have e1 : tkOs bs a0 (i + 1) = ([], 0, x) := by rw [tkOs_err (by rw [h]) (by rw [e]; exact hx), e]
  rw [tkOs_off (i := i + 1) (by omega) (by rw [e1]; exact hx), e1]
theorem TkI.push {w w' w1 w2 : World} {bs : List Int} {a0 i kk k' : Nat} {os : List OpD} {v v2 : Value} {dl : List Value} {t r q : Int} {da : Option Addr} {ds : List Int} {dn dc : Nat} {kd nt nr pt pr : Int} {s : ByteArray} {p vv : Int} {o : Obj} (h : TkI w w' bs a0 i os kk v dl) (hk : tkO (bs.drop kk) = (⟨t, r, ds, kd, nt, nr, pt, pr, s, p, vv⟩, q, k', 0)) (hl : ds.length ≤ 65536)
    (hb : Below w'.heap.size w' w1) (hd : OwnK .i64 3 w1 w'.heap.size (.slice da dn dc) ds) (hg : GrewO w.heap.size (w1.alloc o) v os dl (⟨t, r, ds, kd, nt, nr, pt, pr, s, p, vv⟩, q) (.slice da dn dc) v2 w2) : TkI w w2 bs a0 (i + 1) (os ++ [(⟨t, r, ds, kd, nt, nr, pt, pr, s, p, vv⟩, q)]) (kk + k') v2 (dl ++ [.slice da dn dc]) := by
  have hs := h.bel.size
  have hb2 : Below w'.heap.size w' (w1.alloc o) := hb.alloc hb.size o
  refine ⟨tkOs_next h.run hk, by simp [h.len], hg.own, ?_, ?_⟩
  · have d1 := h.dep.below hb2
    have k1 : OwnK .i64 3 (w1.alloc o) w.heap.size (.slice da dn dc) ds := (hd.alloc o).mono hs
    exact DepsO.push h.dep h.own.len (hg.deps d1) (hg.row k1) (by show ds.length ≤ _; omega) (fun g hgg => (hd.lt hgg).1)
  · exact hg.bel (h.bel.trans (hb2.mono hs)) (Nat.le_refl _) (by have := hb.size; rw [World.size_alloc]; omega)
theorem opsT_of {bs : List Int} {X : List OpD × Nat × Int} (h : tkOps bs = X) {w w' : World} {e : Ending} (k : OpsT X w e w') : OpsT (tkOps bs) w e w' := by rw [h]; exact k
theorem own_nilE {w w' : World} {x : Int} (h : Below w.heap.size w w') : OpsT ([], 0, x) w (.returned (.tuple #[.slice none 0 0, .int .i64 0, .int .i64 x])) w' := ⟨_, [], rfl, OwnO.nil _ _, DepsO.nil _ _, h⟩

set_option maxHeartbeats 4000000 in
set_option maxRecDepth 100000 in
theorem takeOps_any (a : Option Addr) (bs : List Int) (n cap : Nat) (w : World) (ht : Pr.Tab w) (hn : n = bs.length) (hr : RowK .u8 w a bs) (hb : IsB bs) (hcap : bs.length ≤ cap) (hlen : bs.length ≤ 140737488355328) : Calls Tryd.prog 62 #[.slice a n cap] w (OpsT (tkOps bs) w) := by
  have HT := Lib.hid ht
  have HN := Lib.hid hn
  have HR := Lib.hid hr
  have HB := Lib.hid hb
  have HCAP := Lib.hid hcap
  have HLEN := Lib.hid hlen
  have C0 := Lib.hid (takeNum_n a bs n cap w hn hr hb)
  unfold TakePost at C0
  obtain ⟨⟨c0, a0, x0⟩, hN⟩ : ∃ Z, tkN bs = Z := ⟨_, rfl⟩
  rw [hN] at C0
  have hk := tkN_k bs hb
  have HNK := Lib.hid hN
  rw [hN] at hk
  simp only at hk
  obtain ⟨hk1, hk2, hk3⟩ := hk
  have HA0 := Lib.hid hk1
  clear ht hn hr hb hcap hN hk3
  by_cases hx0 : x0 = 0
  · subst hx0
    obtain ⟨cnt, rfl⟩ : ∃ c : Nat, c0 = c := ⟨c0.toNat, by omega⟩
    by_cases h8 : cnt ≤ 8
    · have hd8 : ¬ (8 : Int) < (cnt : Int) := by omega
      have hd8' : decide ((8 : Int) < (cnt : Int)) = false := decide_eq_false hd8
      have HC8 := Lib.hid h8
      have HI0 : Hid (TkI w w bs a0 0 [] a0 (.slice none 0 0) []) := ⟨rfl, rfl, OwnO.nil _ _, DepsO.nil _ _, Below.refl _ _⟩
      go_enter Tryd.func62, Tryd.ntmps62
      go_wp2
      refine wp_scope_jumps 0 (TkJ w a bs n cap a0 cnt) (fun a' _ => cnt - lenV (a'.tmps.getD 2 undef)) rfl ?_ ?_
      · go_wp2_with fail
        refine (C0.out).mono ?_
        rintro e w0 ⟨rfl, rfl⟩
        go_wp2_with fail
        by_cases hc0 : cnt = 0
        · -- MA
          subst hc0
          have HE : Hid (tkOps bs = ([], a0, 0)) := by show tkOps bs = _; rw [tkOps_run HNK.out HC8.out]; rfl
          go_step3
          go_wp2
          simp only [Exit.jump]
          go_ret3
          exact opsT_of HE.out ⟨_, [], rfl, OwnO.nil _ _, DepsO.nil _ _, Below.refl _ _⟩
        · have hc0z : ¬ (0 : Int) = (cnt : Int) := by omega
          have hc0y : ((0 : Int) == (cnt : Int)) = false := by simpa using hc0z
          have HI := HI0
          obtain ⟨os, hos⟩ : ∃ l : List OpD, l = [] := ⟨_, rfl⟩
          obtain ⟨dl, hdl⟩ : ∃ l : List Value, l = [] := ⟨_, rfl⟩
          obtain ⟨kk, hkk0⟩ : ∃ l : Nat, l = a0 := ⟨_, rfl⟩
          subst hos; subst hdl; subst hkk0
          clear HI0
          have hkk : kk ≤ bs.length := by have := (tkOs_back HB.out HA0.out _ (by rw [HI.out.run])).1; rw [HI.out.run] at this; exact this
          have hsl := fun W => slice_l W a n cap kk (kk : Int) rfl (by rw [HN.out]; exact hkk)
          obtain ⟨⟨⟨t, r, ds, kd, nt, nr, pt, pr, s, p, v⟩, q, k', x⟩, hx⟩ : ∃ Z, tkO (bs.drop kk) = Z := ⟨_, rfl⟩
          have HX := Lib.hid hx
          have C := Lib.hid (opTake_any (partA a kk cap) (bs.drop kk) (n - kk) (cap - kk) w (HT.out.below HI.out.bel HT.out.lt) (by rw [List.length_drop, HN.out]) ((HR.out.below HI.out.bel (Nat.le_refl _)).rest kk cap HCAP.out) (HB.out.drop kk) (by have := HCAP.out; rw [List.length_drop]; omega) (by have := HLEN.out; rw [List.length_drop]; omega))
          rw [hx] at C
          have HDL : Hid (ds.length ≤ 65536) := by have := tkO_ds (HB.out.drop kk); rw [hx] at this; show ds.length ≤ 65536; simp only at this; omega
          have hkb : x = 0 → (kk : Int) + (k' : Int) ≤ 140737488355328 := fun h0 => by
            have h1 := (tkO_back (HB.out.drop kk) (by rw [hx]; exact h0)).2.1
            rw [hx, List.length_drop] at h1
            have h2 := HLEN.out
            simp only at h1
            omega
          clear hx hkk
          by_cases hx0 : x = 0
          · -- MF1
            subst hx0
            have hkb2 := hkb rfl
            clear hkb
            go_wp2_with fail
            go_step3
            go_wp2_with fail
            refine (C.out).mono ?_
            rintro e w1 ⟨da, dn, dc, rfl, ho1, hb1⟩
            have HO1 := Lib.hid ho1
            have HB1 := Lib.hid hb1
            simp only at HO1
            clear ho1 hb1 C
            simp only
            go_wp2_with (at_builtin
                         refine wpO_one rfl _ _ rfl w.heap.size (w1.alloc (.cells #[.int .i64 t, .int .i64 r, .int .i64 q, .slice da dn dc, .int .i64 kd, .int .i64 nt, .int .i64 nr, .int .i64 pt, .int .i64 pr, .string s, .int .i64 p, .int .i64 v] 27)) (.slice none 0 0) [] [] t r q da ds dn dc kd nt nr pt pr s p v rfl ((HI.out.own.below HB1.out).below (box_bel _ _)) _ rfl (by rw [World.size_alloc]) (by have := HI.out.len; omega) (by have h1 := HI.out.bel.size; have h2 := HB1.out.size; rw [World.size_alloc]; omega) ?_
                         intro v6 w6 hp6
                         have HQ := Lib.hid (HI.out.push HX.out HDL.out HB1.out HO1.out hp6)
                         clear hp6)
            go_step3
            exact ⟨rfl, 1, kk + k', [] ++ [(⟨t, r, ds, kd, nt, nr, pt, pr, s, p, v⟩, q)], v6, [] ++ [.slice da dn dc], _, _, _, _, _, _, _, _, _, _, _, _, _, _, _, _, _, _, _, _, _, _, _, _, _, _, _, _, _, _, _, _, _, _, _, _, _, _, _, rfl, by omega, HQ.out⟩
          · -- MF2
            have hxz : (x == 0) = false := by simpa using hx0
            have HE : Hid (tkOps bs = ([], 0, x)) := by show tkOps bs = _; rw [tkOps_run HNK.out HC8.out]; exact tkOs_bad HI.out.run HX.out hx0 (by omega)
            clear hkb
            go_wp2_with fail
            go_step3
            go_wp2_with fail
            refine (C.out).mono ?_
            rintro e w1 ⟨da, dn, dc, rfl, ho1, hb1⟩
            have HB1 := Lib.hid (HI.out.bel.trans (hb1.mono HI.out.bel.size))
            clear ho1 hb1 C
            simp only
            have HB2 := Lib.hid (HB1.out.alloc HB1.out.size (.cells #[.int .i64 t, .int .i64 r, .int .i64 q, .slice da dn dc, .int .i64 kd, .int .i64 nt, .int .i64 nr, .int .i64 pt, .int .i64 pr, .string s, .int .i64 p, .int .i64 v] 27))
            go_wp2
            simp only [Exit.jump]
            go_ret3
            exact opsT_of HE.out (own_nilE HB2.out)
      · rintro a' WX ⟨i, kk, os, v2, dl, u1, u4, u6, u7, u8, u9, u10, u11, u12, u13, u14, u15, u16, u17, u18, u19, u20, u21, u22, u23, u24, u25, u26, u27, u28, u29, u30, u31, u32, u33, u34, u35, u36, u37, u38, u39, u40, u41, u42, rfl, hic, hI⟩
        have HI := Lib.hid hI
        obtain ⟨a2, n2, c2, rfl, hn2, -, -⟩ := hI.own.form
        rw [hI.len] at hn2
        have HN2 := Lib.hid hn2
        clear hI HI0
        by_cases hlast : i = cnt
        · -- MB
          subst hlast
          subst hn2
          have HE : Hid (tkOps bs = (os, kk, 0)) := by show tkOps bs = _; rw [tkOps_run HNK.out HC8.out]; exact HI.out.run
          go_wp2
          simp only [Exit.jump]
          go_ret3
          exact opsT_of HE.out ⟨_, dl, rfl, HI.out.own, HI.out.dep, HI.out.bel⟩
        · have hnc : ¬ (n2 : Int) = (cnt : Int) := by omega
          have hncy : ((n2 : Int) == (cnt : Int)) = false := by simpa using hnc
          have hic2 : i < cnt := by omega
          clear hn2 hic hlast
          have hkk : kk ≤ bs.length := by have := (tkOs_back HB.out HA0.out _ (by rw [HI.out.run])).1; rw [HI.out.run] at this; exact this
          have hsl := fun W => slice_l W a n cap kk (kk : Int) rfl (by rw [HN.out]; exact hkk)
          obtain ⟨⟨⟨t, r, ds, kd, nt, nr, pt, pr, s, p, v⟩, q, k', x⟩, hx⟩ : ∃ Z, tkO (bs.drop kk) = Z := ⟨_, rfl⟩
          have HX := Lib.hid hx
          have C := Lib.hid (opTake_any (partA a kk cap) (bs.drop kk) (n - kk) (cap - kk) WX (HT.out.below HI.out.bel HT.out.lt) (by rw [List.length_drop, HN.out]) ((HR.out.below HI.out.bel (Nat.le_refl _)).rest kk cap HCAP.out) (HB.out.drop kk) (by have := HCAP.out; rw [List.length_drop]; omega) (by have := HLEN.out; rw [List.length_drop]; omega))
          rw [hx] at C
          have HDL : Hid (ds.length ≤ 65536) := by have := tkO_ds (HB.out.drop kk); rw [hx] at this; show ds.length ≤ 65536; simp only at this; omega
          have hkb : x = 0 → (kk : Int) + (k' : Int) ≤ 140737488355328 := fun h0 => by
            have h1 := (tkO_back (HB.out.drop kk) (by rw [hx]; exact h0)).2.1
            rw [hx, List.length_drop] at h1
            have h2 := HLEN.out
            simp only at h1
            omega
          clear hx hkk
          by_cases hx0 : x = 0
          · -- MN1
            subst hx0
            have hkb2 := hkb rfl
            clear hkb
            go_wp2_with fail
            refine (C.out).mono ?_
            rintro e w1 ⟨da, dn, dc, rfl, ho1, hb1⟩
            have HO1 := Lib.hid ho1
            have HB1 := Lib.hid hb1
            simp only at HO1
            clear ho1 hb1 C
            simp only
            go_wp2_with (at_builtin
                         refine wpO_one rfl _ _ rfl w.heap.size (w1.alloc (.cells #[.int .i64 t, .int .i64 r, .int .i64 q, .slice da dn dc, .int .i64 kd, .int .i64 nt, .int .i64 nr, .int .i64 pt, .int .i64 pr, .string s, .int .i64 p, .int .i64 v] 27)) (.slice a2 n2 c2) os dl t r q da ds dn dc kd nt nr pt pr s p v rfl ((HI.out.own.below HB1.out).below (box_bel _ _)) _ rfl (by rw [World.size_alloc]) (by have := HI.out.len; omega) (by have h1 := HI.out.bel.size; have h2 := HB1.out.size; rw [World.size_alloc]; omega) ?_
                         intro v6 w6 hp6
                         have HQ := Lib.hid (HI.out.push HX.out HDL.out HB1.out HO1.out hp6)
                         clear hp6)
            go_step3
            refine ⟨rfl, ⟨i + 1, kk + k', os ++ [(⟨t, r, ds, kd, nt, nr, pt, pr, s, p, v⟩, q)], v6, dl ++ [.slice da dn dc], _, _, _, _, _, _, _, _, _, _, _, _, _, _, _, _, _, _, _, _, _, _, _, _, _, _, _, _, _, _, _, _, _, _, _, _, _, _, _, rfl, by omega, HQ.out⟩, ?_⟩
            obtain ⟨a7, n7, c7, e7, hn7, _⟩ := HQ.out.own.form
            subst e7
            have h8 := HI.out.len
            rw [List.length_append, List.length_singleton] at hn7
            show cnt - n7 < cnt - n2
            have := HN2.out
            omega
          · -- MN2
            have hxz : (x == 0) = false := by simpa using hx0
            have HE : Hid (tkOps bs = ([], 0, x)) := by show tkOps bs = _; rw [tkOps_run HNK.out HC8.out]; exact tkOs_bad HI.out.run HX.out hx0 (by omega)
            clear hkb
            go_wp2_with fail
            refine (C.out).mono ?_
            rintro e w1 ⟨da, dn, dc, rfl, ho1, hb1⟩
            have HB1 := Lib.hid (HI.out.bel.trans (hb1.mono HI.out.bel.size))
            clear ho1 hb1 C
            simp only
            have HB2 := Lib.hid (HB1.out.alloc HB1.out.size (.cells #[.int .i64 t, .int .i64 r, .int .i64 q, .slice da dn dc, .int .i64 kd, .int .i64 nt, .int .i64 nr, .int .i64 pt, .int .i64 pr, .string s, .int .i64 p, .int .i64 v] 27))
            go_wp2
            simp only [Exit.jump]
            go_ret3
            exact opsT_of HE.out (own_nilE HB2.out)
    · -- MC
      have hd8 : (8 : Int) < (cnt : Int) := by omega
      have hd8' : decide ((8 : Int) < (cnt : Int)) = true := decide_eq_true hd8
      have HE : Hid (tkOps bs = ([], 0, 1)) := tkOps_big HNK.out hd8
      rw [HE.out]
      go_enter Tryd.func62, Tryd.ntmps62
      go_wp2
      refine wp_scope_jumps 0 (fun _ _ => False) (fun _ _ => 0) rfl ?_ ?_
      · go_wp2_with fail
        refine (C0.out).mono ?_
        rintro e w0 ⟨rfl, rfl⟩
        go_wp2
        simp only [Exit.jump]
        go_ret3
        exact own_nilE (Below.refl _ _)
      · intro _ _ h
        exact h.elim
  · -- MD
    have hx0z : (x0 == 0) = false := by simpa using hx0
    have HE : Hid (tkOps bs = ([], 0, x0)) := tkOps_e HNK.out hx0
    rw [HE.out]
    go_enter Tryd.func62, Tryd.ntmps62
    go_wp2
    refine wp_scope_jumps 0 (fun _ _ => False) (fun _ _ => 0) rfl ?_ ?_
    · go_wp2_with fail
      refine (C0.out).mono ?_
      rintro e w0 ⟨rfl, rfl⟩
      go_wp2
      simp only [Exit.jump]
      go_ret3
      exact own_nilE (Below.refl _ _)
    · intro _ _ h
      exact h.elim
end Go.Proofs.YtabbbpmhmlapgaaDoor

/- A frame's fields taken out of bytes: the program's. -/
namespace Go.Proofs.YtabbbpmhmlapgaaDoor
open Go.RowKit Go.Lib
set_option linter.unusedVariables false


def FrD.cells (F : FrD) (h o : Value) : List Value := [.int .i64 F.fr, .int .i64 F.tu, .int .i64 F.k, h, o]
/-- what a frame that is the call's own holds -/
structure FrO (w : World) (base : Nat) (F : FrD) (h o : Value) (dl : List Value) : Prop where
  hv : OwnK .i64 3 w base h F.hs
  hl : F.hs.length ≤ 16
  ov : OwnO w base o F.os dl
  dv : DepsO w base F.os dl
  ol : F.os.length ≤ 8
theorem OwnO.far {w : World} {base g : Nat} {v : Value} {os : List OpD} {dl : List Value} (h : OwnO w base v os dl) (hg : g < base) (i : Nat) (u : Value) : OwnO (w.setCell ⟨g, i, none⟩ u) base v os dl := by
  refine h.grown (grown_setCell w ⟨g, i, none⟩ u) ?_
  by_cases hn : v.ownBlock = some g
  · have := (h.lt hn).1
    omega
  · exact .inr hn
theorem DepsO.far {w : World} {base g : Nat} {os : List OpD} {dl : List Value} (h : DepsO w base os dl) (hg : g < base) (i : Nat) (u : Value) : DepsO (w.setCell ⟨g, i, none⟩ u) base os dl := ⟨fun j x d hj hd => ⟨(h.own j x d hj hd).1.far hg i u, (h.own j x d hj hd).2⟩, h.apart⟩
theorem FrO.far {w : World} {base g : Nat} {F : FrD} {h o : Value} {dl : List Value} (k : FrO w base F h o dl) (hg : g < base) (i : Nat) (u : Value) : FrO (w.setCell ⟨g, i, none⟩ u) base F h o dl := ⟨k.hv.far hg i u, k.hl, k.ov.far hg i u, k.dv.far hg i u, k.ol⟩
theorem FrO.below {w w' : World} {base : Nat} {F : FrD} {h o : Value} {dl : List Value} (k : FrO w base F h o dl) (hb : Below w.heap.size w w') : FrO w' base F h o dl := ⟨k.hv.below hb, k.hl, k.ov.below hb, k.dv.below hb, k.ol⟩
theorem FrO.mono {w : World} {base base' : Nat} {F : FrD} {h o : Value} {dl : List Value} (k : FrO w base F h o dl) (hb : base' ≤ base) : FrO w base' F h o dl := ⟨k.hv.mono hb, k.hl, k.ov.mono hb, k.dv.mono hb, k.ol⟩
theorem FrO.as {w : World} {base : Nat} {F G : FrD} {h o : Value} {dl : List Value} (k : FrO w base F h o dl) (e1 : F.hs = G.hs) (e2 : F.os = G.os) : FrO w base G h o dl := by
  obtain ⟨a1, a2, a3, a4, a5⟩ := k
  rw [e1] at a1 a2
  rw [e2] at a3 a4 a5
  exact ⟨a1, a2, a3, a4, a5⟩
theorem FrO.zero (w : World) (base : Nat) : FrO w base zF (.slice none 0 0) (.slice none 0 0) [] := ⟨OwnK.nil _ _ _ _, by decide, OwnO.nil _ _, DepsO.nil _ _, by decide⟩
def FPost (g i : Nat) (X : FrD × Nat × Int) (w : World) (e : Ending) (w' : World) : Prop := ∃ h o dl, e = .returned (.tuple #[.int .i64 (X.2.1 : Int), .int .i64 X.2.2]) ∧ Blk w' g (X.1.cells h o) ∧ FrO w' (g + 1) X.1 h o dl ∧ Below g w w' ∧ (h = .slice none 0 0 ∨ i = 3 ∧ X.1.k = 1)
theorem tkV_len (bs : List Int) : (Hv.tkV bs).1.length ≤ 16 := by
  unfold Hv.tkV
  split
  · simp
  · split
    · rename_i h
      exact (Hv.vecB_len h).2
    · simp
theorem tkOps_len {bs : List Int} (hb : IsB bs) : (tkOps bs).1.length ≤ 8 := by
  by_cases h : (tkOps bs).2.2 = 0
  · exact (tkOps_back hb h).2.2.1
  · have hz : (tkOps bs).1 = [] := by
      unfold tkOps at h ⊢
      by_cases h0 : (tkN bs).2.2 = 0
      · rw [if_neg (by simp [h0])] at h ⊢
        by_cases h1 : 8 < (tkN bs).1
        · rw [if_pos h1]
        · rw [if_neg h1] at h ⊢
          generalize (tkN bs).1.toNat = m at *
          induction m with
          | zero => rfl
          | succ m ih =>
            by_cases g0 : (tkOs bs (tkN bs).2.1 m).2.2 = 0
            · by_cases g2 : (tkO (bs.drop (tkOs bs (tkN bs).2.1 m).2.1)).2.2.2 = 0
              · rw [tkOs_ok g0 g2] at h
                exact absurd rfl h
              · rw [tkOs_err g0 g2]
            · rw [tkOs_stay g0]
              exact ih g0
      · rw [if_pos h0]
    rw [hz]
    decide

set_option maxHeartbeats 1000000 in
set_option maxRecDepth 100000 in
theorem takeNamed_any (g : Nat) (F : FrD) (o : Value) (dl : List Value) (a : Option Addr) (bs : List Int) (n cap : Nat) (w : World) (ht : Pr.Tab w) (hB : Blk w g (F.cells (.slice none 0 0) o)) (hO : FrO w (g + 1) F (.slice none 0 0) o dl) (hn : n = bs.length) (hr : RowK .u8 w a bs) (hb : IsB bs) (hcap : bs.length ≤ cap) (hlen : bs.length ≤ 140737488355328) : Calls Tryd.prog 61 #[.pointer (some ⟨g, 0, none⟩), .slice a n cap] w (FPost g 3 (updB 3 bs F) w) := by
  have hlt := hB.lt
  obtain ⟨fr, tu, k, hs, os⟩ := F
  have e2 : w.cell? ⟨g, 2, none⟩ = some (.int .i64 k) := hB.cell 2 _ rfl
  by_cases g1 : k = 1
  · subst g1
    obtain ⟨⟨x1, x2, x3⟩, hx⟩ : ∃ Z, Hv.tkV bs = Z := ⟨_, rfl⟩
    have C := Lib.hid (Hv.take_is a bs n cap w hn hr hb hcap hlen hx)
    have HL : Hid (x1.length ≤ 16) := by have := tkV_len bs; rw [hx] at this; exact this
    rw [show updB 3 bs ⟨fr, tu, 1, hs, os⟩ = (⟨fr, tu, 1, x1, os⟩, x2, x3) by simp only [updB, hx, if_true]]
    clear hn hr hb hcap hlen hx ht
    go_enter Tryd.func61, Tryd.ntmps61
    go_wp2_with fail
    refine (C.out).mono ?_
    rintro e w1 ⟨v1, rfl, ho1, hb1⟩
    have hB1 := hB.next hb1
    have HB1 := Lib.hid hB1
    have HO1 := Lib.hid (ho1.mono (show g + 1 ≤ w.heap.size from hlt))
    have HF1 := Lib.hid (hO.below hb1)
    have HL1 := Lib.hid (hb1.mono (Nat.le_of_lt hlt))
    have e3 := hB1.cell 3 _ rfl
    have f3 := hB1.free 3 _ rfl
    obtain ⟨a9, n9, c9, rfl, hn9, hr9, hc9⟩ := ho1.form'
    clear hB1 hb1 hO hB hlt ho1 hn9 hr9 hc9 e2
    go_wp2
    go_ret2
    exact ⟨_, o, dl, rfl, HB1.out.set 3 _, ⟨HO1.out.far (Nat.lt_succ_self g) _ _, HL.out, HF1.out.ov.far (Nat.lt_succ_self g) _ _, HF1.out.dv.far (Nat.lt_succ_self g) _ _, HF1.out.ol⟩, HL1.out.setCell (p := ⟨g, 3, none⟩) (Nat.le_refl _) _, .inr ⟨rfl, rfl⟩⟩
  · have g1z : (k == 1) = false := by simpa using g1
    by_cases g2 : k = 2
    · subst g2
      have C := Lib.hid (takeOps_any a bs n cap w ht hn hr hb hcap hlen)
      have HL := Lib.hid (tkOps_len hb)
      rw [show updB 3 bs ⟨fr, tu, 2, hs, os⟩ = (⟨fr, tu, 2, hs, (tkOps bs).1⟩, (tkOps bs).2.1, (tkOps bs).2.2) by simp [updB]]
      obtain ⟨⟨x1, x2, x3⟩, hx⟩ : ∃ Z, tkOps bs = Z := ⟨_, rfl⟩
      rw [hx] at C HL ⊢
      clear hn hr hb hcap hlen hx ht
      go_enter Tryd.func61, Tryd.ntmps61
      go_wp2_with fail
      refine (C.out).mono ?_
      rintro e w1 ⟨v1, dl1, rfl, ho1, hd1, hb1⟩
      have hB1 := hB.next hb1
      have HB1 := Lib.hid hB1
      have HO1 := Lib.hid (ho1.mono (show g + 1 ≤ w.heap.size from hlt))
      have HD1 := Lib.hid (hd1.mono (show g + 1 ≤ w.heap.size from hlt))
      have HF1 := Lib.hid (hO.below hb1)
      have HL1 := Lib.hid (hb1.mono (Nat.le_of_lt hlt))
      have e3 := hB1.cell 4 _ rfl
      have f3 := hB1.free 4 _ rfl
      obtain ⟨a9, n9, c9, rfl, hn9, hc9, -⟩ := ho1.form
      clear hB1 hb1 hO hB hlt ho1 hd1 hn9 hc9 e2
      go_wp2
      go_ret2
      exact ⟨_, _, dl1, rfl, HB1.out.set 4 _, ⟨HF1.out.hv.far (Nat.lt_succ_self g) _ _, HF1.out.hl, HO1.out.far (Nat.lt_succ_self g) _ _, HD1.out.far (Nat.lt_succ_self g) _ _, HL.out⟩, HL1.out.setCell (p := ⟨g, 4, none⟩) (Nat.le_refl _) _, .inl rfl⟩
    · have g2z : (k == 2) = false := by simpa using g2
      rw [show updB 3 bs ⟨fr, tu, k, hs, os⟩ = (⟨fr, tu, k, hs, os⟩, 0, 1) by simp [updB, g1, g2]]
      have HB1 := Lib.hid hB
      have HO1 := Lib.hid hO
      clear hn hr hb hcap hlen ht hB hO hlt
      go_enter Tryd.func61, Tryd.ntmps61
      go_wp2
      go_ret2
      exact ⟨_, o, dl, rfl, HB1.out, HO1.out, Below.refl _ _, .inl rfl⟩

set_option maxHeartbeats 1000000 in
set_option maxRecDepth 100000 in
theorem takeB0 (g : Nat) (F : FrD) (o : Value) (dl : List Value) (a : Option Addr) (bs : List Int) (n cap : Nat) (w : World) (hB : Blk w g (F.cells (.slice none 0 0) o)) (hO : FrO w (g + 1) F (.slice none 0 0) o dl) (hn : n = bs.length) (hr : RowK .u8 w a bs) (hb : IsB bs) (hcap : bs.length ≤ cap) (hlen : bs.length ≤ 140737488355328) : Calls Tryd.prog 56 #[.pointer (some ⟨g, 0, none⟩), .int .i64 0, .slice a n cap] w (FPost g 0 (updB 0 bs F) w) := by
  have hlt := hB.lt
  obtain ⟨⟨x1, x2, x3⟩, hx⟩ : ∃ Z, tkN bs = Z := ⟨_, rfl⟩
  have C := Lib.hid (takeNum_n a bs n cap w hn hr hb)
  unfold TakePost at C
  rw [hx] at C
  rw [show updB 0 bs F = ({ F with fr := x1 }, x2, x3) by simp only [updB, hx]]
  clear hn hr hb hcap hlen hx
  go_enter Tryd.func56, Tryd.ntmps56
  go_wp2_with fail
  refine (C.out).mono ?_
  rintro e w1 ⟨rfl, rfl⟩
  have HB1 := Lib.hid hB
  have HO1 := Lib.hid hO
  have HL1 := Lib.hid (Below.refl g w)
  have e0 := hB.cell 0 _ rfl
  have f0 := hB.free 0 _ rfl
  clear hO hB hlt
  go_wp2
  go_ret2
  exact ⟨_, o, dl, rfl, HB1.out.set 0 _, (HO1.out.far (Nat.lt_succ_self g) _ _).as rfl rfl, HL1.out.setCell (p := ⟨g, 0, none⟩) (Nat.le_refl _) _, .inl rfl⟩

set_option maxHeartbeats 1000000 in
set_option maxRecDepth 100000 in
theorem takeB1 (g : Nat) (F : FrD) (o : Value) (dl : List Value) (a : Option Addr) (bs : List Int) (n cap : Nat) (w : World) (hB : Blk w g (F.cells (.slice none 0 0) o)) (hO : FrO w (g + 1) F (.slice none 0 0) o dl) (hn : n = bs.length) (hr : RowK .u8 w a bs) (hb : IsB bs) (hcap : bs.length ≤ cap) (hlen : bs.length ≤ 140737488355328) : Calls Tryd.prog 56 #[.pointer (some ⟨g, 0, none⟩), .int .i64 1, .slice a n cap] w (FPost g 1 (updB 1 bs F) w) := by
  have hlt := hB.lt
  obtain ⟨⟨x1, x2, x3⟩, hx⟩ : ∃ Z, tkN bs = Z := ⟨_, rfl⟩
  have C := Lib.hid (takeNum_n a bs n cap w hn hr hb)
  unfold TakePost at C
  rw [hx] at C
  rw [show updB 1 bs F = ({ F with tu := x1 }, x2, x3) by simp only [updB, hx]]
  clear hn hr hb hcap hlen hx
  go_enter Tryd.func56, Tryd.ntmps56
  go_wp2_with fail
  refine (C.out).mono ?_
  rintro e w1 ⟨rfl, rfl⟩
  have HB1 := Lib.hid hB
  have HO1 := Lib.hid hO
  have HL1 := Lib.hid (Below.refl g w)
  have e0 := hB.cell 1 _ rfl
  have f0 := hB.free 1 _ rfl
  clear hO hB hlt
  go_wp2
  go_ret2
  exact ⟨_, o, dl, rfl, HB1.out.set 1 _, (HO1.out.far (Nat.lt_succ_self g) _ _).as rfl rfl, HL1.out.setCell (p := ⟨g, 1, none⟩) (Nat.le_refl _) _, .inl rfl⟩

set_option maxHeartbeats 1000000 in
set_option maxRecDepth 100000 in
theorem takeB2 (g : Nat) (F : FrD) (o : Value) (dl : List Value) (a : Option Addr) (bs : List Int) (n cap : Nat) (w : World) (hB : Blk w g (F.cells (.slice none 0 0) o)) (hO : FrO w (g + 1) F (.slice none 0 0) o dl) (hn : n = bs.length) (hr : RowK .u8 w a bs) (hb : IsB bs) (hcap : bs.length ≤ cap) (hlen : bs.length ≤ 140737488355328) : Calls Tryd.prog 56 #[.pointer (some ⟨g, 0, none⟩), .int .i64 2, .slice a n cap] w (FPost g 2 (updB 2 bs F) w) := by
  have hlt := hB.lt
  obtain ⟨⟨x1, x2, x3⟩, hx⟩ : ∃ Z, tkN bs = Z := ⟨_, rfl⟩
  have C := Lib.hid (takeNum_n a bs n cap w hn hr hb)
  unfold TakePost at C
  rw [hx] at C
  rw [show updB 2 bs F = ({ F with k := x1 }, x2, x3) by simp only [updB, hx]]
  clear hn hr hb hcap hlen hx
  go_enter Tryd.func56, Tryd.ntmps56
  go_wp2_with fail
  refine (C.out).mono ?_
  rintro e w1 ⟨rfl, rfl⟩
  have HB1 := Lib.hid hB
  have HO1 := Lib.hid hO
  have HL1 := Lib.hid (Below.refl g w)
  have e0 := hB.cell 2 _ rfl
  have f0 := hB.free 2 _ rfl
  clear hO hB hlt
  go_wp2
  go_ret2
  exact ⟨_, o, dl, rfl, HB1.out.set 2 _, (HO1.out.far (Nat.lt_succ_self g) _ _).as rfl rfl, HL1.out.setCell (p := ⟨g, 2, none⟩) (Nat.le_refl _) _, .inl rfl⟩

set_option maxHeartbeats 1000000 in
set_option maxRecDepth 100000 in
theorem takeB3 (g : Nat) (F : FrD) (o : Value) (dl : List Value) (a : Option Addr) (bs : List Int) (n cap : Nat) (w : World) (ht : Pr.Tab w) (hB : Blk w g (F.cells (.slice none 0 0) o)) (hO : FrO w (g + 1) F (.slice none 0 0) o dl) (hn : n = bs.length) (hr : RowK .u8 w a bs) (hb : IsB bs) (hcap : bs.length ≤ cap) (hlen : bs.length ≤ 140737488355328) : Calls Tryd.prog 56 #[.pointer (some ⟨g, 0, none⟩), .int .i64 3, .slice a n cap] w (FPost g 3 (updB 3 bs F) w) := by
  have C := Lib.hid (takeNamed_any g F o dl a bs n cap w ht hB hO hn hr hb hcap hlen)
  generalize updB 3 bs F = X at *
  clear hn hr hb hcap hlen ht hB hO
  go_enter Tryd.func56, Tryd.ntmps56
  go_wp2_with fail
  refine (C.out).mono ?_
  rintro e w1 ⟨h1, o1, dl1, rfl, hb1, hf1, hl1, hn1⟩
  have HB1 := Lib.hid hb1
  have HF1 := Lib.hid hf1
  have HL1 := Lib.hid hl1
  have HN1 := Lib.hid hn1
  clear hb1 hf1 hl1 hn1
  go_wp2
  go_ret2
  exact ⟨h1, o1, dl1, rfl, HB1.out, HF1.out, HL1.out, HN1.out.imp id fun h => ⟨rfl, h.2⟩⟩
theorem takeB_any (i : Nat) (hi : i < 4) (g : Nat) (F : FrD) (o : Value) (dl : List Value) (a : Option Addr) (bs : List Int) (n cap : Nat) (w : World) (ht : Pr.Tab w) (hB : Blk w g (F.cells (.slice none 0 0) o)) (hO : FrO w (g + 1) F (.slice none 0 0) o dl) (hn : n = bs.length) (hr : RowK .u8 w a bs) (hb : IsB bs) (hcap : bs.length ≤ cap) (hlen : bs.length ≤ 140737488355328) : Calls Tryd.prog 56 #[.pointer (some ⟨g, 0, none⟩), .int .i64 (i : Int), .slice a n cap] w (FPost g i (updB i bs F) w) := by
  match i, hi with
  | 0, _ => exact takeB0 g F o dl a bs n cap w hB hO hn hr hb hcap hlen
  | 1, _ => exact takeB1 g F o dl a bs n cap w hB hO hn hr hb hcap hlen
  | 2, _ => exact takeB2 g F o dl a bs n cap w hB hO hn hr hb hcap hlen
  | 3, _ => exact takeB3 g F o dl a bs n cap w ht hB hO hn hr hb hcap hlen
end Go.Proofs.YtabbbpmhmlapgaaDoor

/- A frame's body taken out of bytes: the program's. -/
namespace Go.Proofs.YtabbbpmhmlapgaaDoor
open Go.RowKit Go.Lib
set_option linter.unusedVariables false


theorem fr_build0 (w : World) : (Instr.build 39 #[]).run Tryd.prog w = .ok (.agg #[.int .i64 0, .int .i64 0, .int .i64 0, .slice none 0 0, .slice none 0 0]) w := run_build w 39 _ _ (by kernel_rfl)
theorem fblk_new (w : World) : Blk (w.alloc (.cells #[.int .i64 0, .int .i64 0, .int .i64 0, .slice none 0 0, .slice none 0 0] 39)) w.heap.size (zF.cells (.slice none 0 0) (.slice none 0 0)) := by
  constructor
  · intro i u hi
    match i, hi with
    | 0, hi | 1, hi | 2, hi | 3, hi | 4, hi => simp [FrD.cells, zF] at hi; subst hi; simp
    | _ + 5, hi => simp [FrD.cells] at hi
  · intro i u hi
    match i, hi with
    | 0, hi | 1, hi | 2, hi | 3, hi | 4, hi => simp
    | _ + 5, hi => simp [FrD.cells] at hi
/-- the frame that is told, how many bytes, the error -/
def BodyT (X : FrD × Nat × Int) (w : World) (e : Ending) (w' : World) : Prop := ∃ h o dl, e = .returned (.tuple #[.agg #[.int .i64 X.1.fr, .int .i64 X.1.tu, .int .i64 X.1.k, h, o], .int .i64 (X.2.1 : Int), .int .i64 X.2.2]) ∧ FrO w' w.heap.size X.1 h o dl ∧ Below w.heap.size w w' ∧ (h = .slice none 0 0 ∨ X.1.k = 1)
structure TbI (w w' : World) (g : Nat) (F : FrD) (h o : Value) (dl : List Value) : Prop where
  blk : Blk w' g (F.cells h o)
  own : FrO w' (g + 1) F h o dl
  bel : Below g w w'
def TbJ (w : World) (g : Nat) (a : Option Addr) (bs : List Int) (n cap : Nat) (act : Act) (w' : World) : Prop :=
  ∃ (F : FrD) (kk i : Nat) (o : Value) (dl : List Value) (u1 u4 u6 u7 u8 u9 u10 u11 u12 u13 u14 u15 u16 u17 u18 u19 u20 u21 u22 u23 u24 u25 u26 u27 : Value), act = { tmps := #[.slice a n cap, u1, .pointer (some ⟨g, 0, none⟩), .int .i64 (kk : Int), u4, .int .i64 (i : Int), u6, u7, u8, u9, u10, u11, u12, u13, u14, u15, u16, u17, u18, u19, u20, u21, u22, u23, u24, u25, u26, u27], defers := [] } ∧ i < 4 ∧ runB bs i = (F, kk, 0) ∧ TbI w w' g F (.slice none 0 0) o dl
theorem runB_step {bs : List Int} {i kk : Nat} {F : FrD} (h : runB bs i = (F, kk, 0)) {F' : FrD} {k' : Nat} (hs : updB i (bs.drop kk) F = (F', k', 0)) : runB bs (i + 1) = (F', kk + k', 0) := by
  have e : stepB bs i (runB bs i) = (F', k', 0) := by rw [h]; exact hs
  rw [runB_ok (by rw [h]) (by rw [e]), e, h]
theorem runB_bad {bs : List Int} {i kk : Nat} {F : FrD} (hi : i < 4) (h : runB bs i = (F, kk, 0)) {F' : FrD} {k' : Nat} {x : Int} (hx : x ≠ 0) (hs : updB i (bs.drop kk) F = (F', k', x)) : runB bs 4 = (zF, 0, x) := by
  have e : stepB bs i (runB bs i) = (F', k', x) := by rw [h]; exact hs
  have e1 : runB bs (i + 1) = (zF, 0, x) := by rw [runB_err (by rw [h]) (by rw [e]; exact hx), e]
  rw [runB_off (i := i + 1) (by omega) (by rw [e1]; exact hx), e1]
theorem bodyT_of {bs : List Int} {X : FrD × Nat × Int} (h : runB bs 4 = X) {w w' : World} {e : Ending} (k : BodyT X w e w') : BodyT (runB bs 4) w e w' := by rw [h]; exact k
theorem bodyT_zero {x : Int} {w w' : World} (h : Below w.heap.size w w') : BodyT (zF, 0, x) w (.returned (.tuple #[.agg #[.int .i64 0, .int .i64 0, .int .i64 0, .slice none 0 0, .slice none 0 0], .int .i64 0, .int .i64 x])) w' := ⟨_, _, [], rfl, FrO.zero _ _, h, .inl rfl⟩

set_option maxHeartbeats 4000000 in
set_option maxRecDepth 100000 in
theorem takeBody_any (a : Option Addr) (bs : List Int) (n cap : Nat) (w : World) (ht : Pr.Tab w) (hn : n = bs.length) (hr : RowK .u8 w a bs) (hb : IsB bs) (hcap : bs.length ≤ cap) (hlen : bs.length ≤ 140737488355328) : Calls Tryd.prog 42 #[.slice a n cap] w (BodyT (runB bs 4) w) := by
  have HT := Lib.hid ht
  have HN := Lib.hid hn
  have HLT := Lib.hid hr.rowLt
  have HR := Lib.hid hr
  have HB := Lib.hid hb
  have HCAP := Lib.hid hcap
  have HLEN := Lib.hid hlen
  obtain ⟨g, hg⟩ : ∃ g, w.heap.size = g := ⟨_, rfl⟩
  have HG := Lib.hid hg.symm
  have HI0 : Hid (TbI w (w.alloc (.cells #[.int .i64 0, .int .i64 0, .int .i64 0, .slice none 0 0, .slice none 0 0] 39)) g zF (.slice none 0 0) (.slice none 0 0) []) := ⟨hg ▸ fblk_new w, FrO.zero _ _, hg ▸ box_bel w _⟩
  have HROW0 := Lib.hid (hr.alloc (.cells #[.int .i64 0, .int .i64 0, .int .i64 0, .slice none 0 0, .slice none 0 0] 39))
  rw [hg] at HLT
  clear ht hn hr hb hcap hlen
  go_enter Tryd.func42, Tryd.ntmps42
  go_wp2
  refine wp_scope_jumps 0 (TbJ w g a bs n cap) (fun a' _ => 4 - intNat (a'.tmps.getD 5 undef)) rfl ?_ ?_
  · go_wp2_with fail
    have HROW := HROW0
    generalize w.alloc (.cells #[.int .i64 0, .int .i64 0, .int .i64 0, .slice none 0 0, .slice none 0 0] 39) = WX at *
    have HI := HI0
    clear HI0 HROW0

    clear hg
    have hsl : ∀ W, (Instr.slice 33 (.slice a n cap) (some (.int .i64 0)) none none).run Tryd.prog W = .ok (.slice (partA a 0 cap) n cap) W := fun W => slice_l W a n cap 0 0 rfl (by omega)
    obtain ⟨⟨F', k', x⟩, hs⟩ : ∃ Z, updB 0 bs zF = Z := ⟨_, rfl⟩
    have FT := Lib.hid (takeB0 g zF (.slice none 0 0) [] (partA a 0 cap) bs n cap WX HI.out.blk HI.out.own HN.out (HROW.out.rest 0 cap HCAP.out) HB.out HCAP.out HLEN.out)
    rw [hs] at FT
    unfold FPost at FT
    have HRUN : Hid (runB bs 0 = (zF, 0, 0)) := (rfl : runB bs 0 = (zF, 0, 0))
    have HSR : Hid (updB 0 (bs.drop 0) zF = (F', k', x)) := hs
    clear hs
    by_cases hx : x = 0
    · -- MA
      subst hx
      have hkb : ((k' : Int)) ≤ 140737488355328 := by
        have h1 := runB_k HB.out (0 + 1) (by omega) (by rw [runB_step HRUN.out HSR.out])
        rw [runB_step HRUN.out HSR.out] at h1
        have h2 := HLEN.out
        simp only at h1
        omega
      go_step3
      go_wp2_with fail
      refine (FT.out).mono ?_
      rintro e w9 ⟨h9, o9, dl9, rfl, hB9, hF9, hl9, hn9⟩
      have HI9 : Hid (TbI w w9 g F' h9 o9 dl9) := ⟨hB9, hF9, HI.out.bel.trans hl9⟩
      have HN9 := Lib.hid hn9
      clear hB9 hF9 hl9 hn9
      simp only
      have hz9 : h9 = .slice none 0 0 := by rcases HN9.out with h | h; exact h; exact absurd h.1 (by decide)
      subst hz9
      go_wp2
      go_step3
      exact ⟨rfl, F', k', 1, o9, dl9, _, _, _, _, _, _, _, _, _, _, _, _, _, _, _, _, _, _, _, _, _, _, _, _, rfl, by omega, by have := runB_step HRUN.out HSR.out; rw [Nat.zero_add, Nat.zero_add] at this; exact this, HI9.out⟩
    · -- MB
      have hxz : (x == 0) = false := by simpa using hx
      have HE := Lib.hid (runB_bad (by omega) HRUN.out hx HSR.out)
      go_step3
      go_wp2_with fail
      refine (FT.out).mono ?_
      rintro e w9 ⟨h9, o9, dl9, rfl, hB9, hF9, hl9, hn9⟩
      have HI9 : Hid (TbI w w9 g F' h9 o9 dl9) := ⟨hB9, hF9, HI.out.bel.trans hl9⟩
      have HN9 := Lib.hid hn9
      clear hB9 hF9 hl9 hn9
      simp only
      obtain ⟨a8, n8, c8, e8, -⟩ := HI9.out.own.hv.form'
      obtain ⟨a7, n7, c7, e7, -⟩ := HI9.out.own.ov.form
      subst e8; subst e7
      have e0 := HI9.out.blk.cell 0 _ rfl
      have f0 := HI9.out.blk.free 0 _ rfl
      have e1 := HI9.out.blk.cell 1 _ rfl
      have f1 := HI9.out.blk.free 1 _ rfl
      have e2 := HI9.out.blk.cell 2 _ rfl
      have f2 := HI9.out.blk.free 2 _ rfl
      have e3 := HI9.out.blk.cell 3 _ rfl
      have f3 := HI9.out.blk.free 3 _ rfl
      have e4 := HI9.out.blk.cell 4 _ rfl
      have f4 := HI9.out.blk.free 4 _ rfl
      have hb0 := fr_build0
      go_wp2
      simp only [Exit.jump]
      have HZ := (((((HI9.out.blk.set 0 (.int .i64 0)).set 1 (.int .i64 0)).set 2 (.int .i64 0)).set 3 (.slice none 0 0)).set 4 (.slice none 0 0))
      have z0 := HZ.cell 0 _ rfl
      have z1 := HZ.cell 1 _ rfl
      have z2 := HZ.cell 2 _ rfl
      have z3 := HZ.cell 3 _ rfl
      have z4 := HZ.cell 4 _ rfl
      clear HZ e0 f0 e1 f1 e2 f2 e3 f3 e4 f4
      refine bodyPost_ret (v := .tuple #[.agg #[.int .i64 0, .int .i64 0, .int .i64 0, .slice none 0 0, .slice none 0 0], .int .i64 0, .int .i64 x]) (by simp [results, Tryd.results42, go_sem, z0, z1, z2, z3, z4]) rfl ?_
      exact bodyT_of HE.out (bodyT_zero (bel_at HG.out (((((HI9.out.bel.setCell (p := ⟨g, 0, none⟩) (Nat.le_refl _) _).setCell (p := ⟨g, 1, none⟩) (Nat.le_refl _) _).setCell (p := ⟨g, 2, none⟩) (Nat.le_refl _) _).setCell (p := ⟨g, 3, none⟩) (Nat.le_refl _) _).setCell (p := ⟨g, 4, none⟩) (Nat.le_refl _) _)))
  · rintro a' WX ⟨F, kk, i, o, dl, u1, u4, u6, u7, u8, u9, u10, u11, u12, u13, u14, u15, u16, u17, u18, u19, u20, u21, u22, u23, u24, u25, u26, u27, rfl, hi6, hrun, hI⟩
    have HI := Lib.hid hI
    have HI6 := Lib.hid hi6
    have HRUN := Lib.hid hrun
    have HROW := Lib.hid (HR.out.below' HLT.out hI.bel)
    clear hI hi6 hrun HI0 HROW0 hg
    have hkk : kk ≤ bs.length := by have := runB_k HB.out i (by have := HI6.out; omega) (by rw [HRUN.out]); rw [HRUN.out] at this; exact this
    obtain ⟨⟨F', k', x⟩, hs⟩ : ∃ Z, updB i (bs.drop kk) F = Z := ⟨_, rfl⟩
    have FT := Lib.hid (takeB_any i HI6.out g F o dl (partA a kk cap) (bs.drop kk) (n - kk) (cap - kk) WX (HT.out.below (bel_at HG.out HI.out.bel) HT.out.lt) HI.out.blk HI.out.own (by rw [List.length_drop, HN.out]) (HROW.out.rest kk cap HCAP.out) (HB.out.drop kk) (by have := HCAP.out; rw [List.length_drop]; omega) (by have := HLEN.out; rw [List.length_drop]; omega))
    rw [hs] at FT
    unfold FPost at FT
    have HSR := Lib.hid hs
    have hsl := fun W => slice_l W a n cap kk (kk : Int) rfl (by rw [HN.out]; exact hkk)
    clear hs
    by_cases hx : x = 0
    · subst hx
      have hkb : ((kk : Int) + (k' : Int)) ≤ 140737488355328 := by
        have h1 := runB_k HB.out (i + 1) (by have := HI6.out; omega) (by rw [runB_step HRUN.out HSR.out])
        rw [runB_step HRUN.out HSR.out] at h1
        have h2 := HLEN.out
        simp only at h1
        omega
      clear hkk
      have hib : (i : Int) < 4 := by have := HI6.out; omega
      by_cases hlast : i + 1 < 4
      · -- MC
        have hd : decide ((i : Int) + 1 < 4) = true := decide_eq_true (by omega)
        go_wp2_with fail
        refine (FT.out).mono ?_
        rintro e w9 ⟨h9, o9, dl9, rfl, hB9, hF9, hl9, hn9⟩
        have HI9 : Hid (TbI w w9 g F' h9 o9 dl9) := ⟨hB9, hF9, HI.out.bel.trans hl9⟩
        have HN9 := Lib.hid hn9
        clear hB9 hF9 hl9 hn9
        simp only
        have hz9 : h9 = .slice none 0 0 := by rcases HN9.out with h | h; exact h; exact absurd h.1 (by omega)
        subst hz9
        go_wp2
        go_step3
        refine ⟨rfl, ⟨F', kk + k', i + 1, o9, dl9, _, _, _, _, _, _, _, _, _, _, _, _, _, _, _, _, _, _, _, _, _, _, _, _, rfl, by omega, runB_step HRUN.out HSR.out, HI9.out⟩, ?_⟩
        simp [intNat]
        omega
      · -- MD
        have hd : decide ((i : Int) + 1 < 4) = false := decide_eq_false (by omega)
        have HI5 : Hid (i = 3) := (by have := HI6.out; omega : i = 3)
        have HE : Hid (runB bs 4 = (F', kk + k', 0)) := by have := runB_step HRUN.out HSR.out; rw [HI5.out] at this; exact this
        clear hlast
        go_wp2_with fail
        refine (FT.out).mono ?_
        rintro e w9 ⟨h9, o9, dl9, rfl, hB9, hF9, hl9, hn9⟩
        have HI9 : Hid (TbI w w9 g F' h9 o9 dl9) := ⟨hB9, hF9, HI.out.bel.trans hl9⟩
        have HN9 := Lib.hid hn9
        clear hB9 hF9 hl9 hn9
        simp only
        obtain ⟨a8, n8, c8, e8, -⟩ := HI9.out.own.hv.form'
        obtain ⟨a7, n7, c7, e7, -⟩ := HI9.out.own.ov.form
        subst e8; subst e7
        have e0 := HI9.out.blk.cell 0 _ rfl
        have f0 := HI9.out.blk.free 0 _ rfl
        have e1 := HI9.out.blk.cell 1 _ rfl
        have f1 := HI9.out.blk.free 1 _ rfl
        have e2 := HI9.out.blk.cell 2 _ rfl
        have f2 := HI9.out.blk.free 2 _ rfl
        have e3 := HI9.out.blk.cell 3 _ rfl
        have f3 := HI9.out.blk.free 3 _ rfl
        have e4 := HI9.out.blk.cell 4 _ rfl
        have f4 := HI9.out.blk.free 4 _ rfl
        go_wp2
        simp only [Exit.jump]
        have HZ := (((((HI9.out.blk.set 0 ((.int .i64 F'.fr))).set 1 ((.int .i64 F'.tu))).set 2 ((.int .i64 F'.k))).set 3 ((.slice a8 n8 c8))).set 4 ((.slice a7 n7 c7)))
        have z0 := HZ.cell 0 _ rfl
        have z1 := HZ.cell 1 _ rfl
        have z2 := HZ.cell 2 _ rfl
        have z3 := HZ.cell 3 _ rfl
        have z4 := HZ.cell 4 _ rfl
        clear HZ e0 f0 e1 f1 e2 f2 e3 f3 e4 f4
        refine bodyPost_ret (v := .tuple #[.agg #[.int .i64 F'.fr, .int .i64 F'.tu, .int .i64 F'.k, .slice a8 n8 c8, .slice a7 n7 c7], .int .i64 ((kk + k' : Nat) : Int), .int .i64 0]) (by simp [results, Tryd.results42, go_sem, z0, z1, z2, z3, z4]) rfl ?_
        exact bodyT_of HE.out ⟨_, _, dl9, rfl, ((((((HI9.out.own.far (Nat.lt_succ_self g) 0 _).far (Nat.lt_succ_self g) 1 _).far (Nat.lt_succ_self g) 2 _).far (Nat.lt_succ_self g) 3 _).far (Nat.lt_succ_self g) 4 _)).mono (by have := HG.out; omega), bel_at HG.out (((((HI9.out.bel.setCell (p := ⟨g, 0, none⟩) (Nat.le_refl _) _).setCell (p := ⟨g, 1, none⟩) (Nat.le_refl _) _).setCell (p := ⟨g, 2, none⟩) (Nat.le_refl _) _).setCell (p := ⟨g, 3, none⟩) (Nat.le_refl _) _).setCell (p := ⟨g, 4, none⟩) (Nat.le_refl _) _), HN9.out.imp id (fun h => h.2)⟩
    · -- ME
      have hxz : (x == 0) = false := by simpa using hx
      have HE := Lib.hid (runB_bad HI6.out HRUN.out hx HSR.out)
      clear hkk
      go_wp2_with fail
      refine (FT.out).mono ?_
      rintro e w9 ⟨h9, o9, dl9, rfl, hB9, hF9, hl9, hn9⟩
      have HI9 : Hid (TbI w w9 g F' h9 o9 dl9) := ⟨hB9, hF9, HI.out.bel.trans hl9⟩
      have HN9 := Lib.hid hn9
      clear hB9 hF9 hl9 hn9
      simp only
      obtain ⟨a8, n8, c8, e8, -⟩ := HI9.out.own.hv.form'
      obtain ⟨a7, n7, c7, e7, -⟩ := HI9.out.own.ov.form
      subst e8; subst e7
      have e0 := HI9.out.blk.cell 0 _ rfl
      have f0 := HI9.out.blk.free 0 _ rfl
      have e1 := HI9.out.blk.cell 1 _ rfl
      have f1 := HI9.out.blk.free 1 _ rfl
      have e2 := HI9.out.blk.cell 2 _ rfl
      have f2 := HI9.out.blk.free 2 _ rfl
      have e3 := HI9.out.blk.cell 3 _ rfl
      have f3 := HI9.out.blk.free 3 _ rfl
      have e4 := HI9.out.blk.cell 4 _ rfl
      have f4 := HI9.out.blk.free 4 _ rfl
      have hb0 := fr_build0
      go_wp2
      simp only [Exit.jump]
      have HZ := (((((HI9.out.blk.set 0 (.int .i64 0)).set 1 (.int .i64 0)).set 2 (.int .i64 0)).set 3 (.slice none 0 0)).set 4 (.slice none 0 0))
      have z0 := HZ.cell 0 _ rfl
      have z1 := HZ.cell 1 _ rfl
      have z2 := HZ.cell 2 _ rfl
      have z3 := HZ.cell 3 _ rfl
      have z4 := HZ.cell 4 _ rfl
      clear HZ e0 f0 e1 f1 e2 f2 e3 f3 e4 f4
      refine bodyPost_ret (v := .tuple #[.agg #[.int .i64 0, .int .i64 0, .int .i64 0, .slice none 0 0, .slice none 0 0], .int .i64 0, .int .i64 x]) (by simp [results, Tryd.results42, go_sem, z0, z1, z2, z3, z4]) rfl ?_
      exact bodyT_of HE.out (bodyT_zero (bel_at HG.out (((((HI9.out.bel.setCell (p := ⟨g, 0, none⟩) (Nat.le_refl _) _).setCell (p := ⟨g, 1, none⟩) (Nat.le_refl _) _).setCell (p := ⟨g, 2, none⟩) (Nat.le_refl _) _).setCell (p := ⟨g, 3, none⟩) (Nat.le_refl _) _).setCell (p := ⟨g, 4, none⟩) (Nat.le_refl _) _)))
end Go.Proofs.YtabbbpmhmlapgaaDoor
