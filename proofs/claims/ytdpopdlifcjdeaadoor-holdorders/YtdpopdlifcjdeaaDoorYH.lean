/- Joined: G10 G11 G12 G13 G8 G14 G15 G16 G17 G18 G19. -/
import Derived.Test.YtdpopdlifcjdeaaDoorYG
import Derived.Test.YtdpopdlifcjdeaaDoorZF
import Derived.Lib.QuietBelow

/- Frames taken out of bytes: mathematics. -/
namespace Go.Proofs.YtdpopdlifcjdeaaDoor
open Go.RowKit Go.Lib
set_option linter.unusedVariables false


/-- operations, one behind the other -/
def moreO (bs : List Int) (X : List OpD × Nat × Int) (Y : OpR × Int × Nat × Int) : List OpD × Nat × Int := if Y.2.2.2 ≠ 0 then ([], 0, Y.2.2.2) else (X.1 ++ [(Y.1, Y.2.1)], X.2.1 + Y.2.2.1, 0)
def stepO (bs : List Int) (X : List OpD × Nat × Int) : List OpD × Nat × Int := if X.2.2 ≠ 0 then X else moreO bs X (tkO (bs.drop X.2.1))
def tkOs (bs : List Int) (a0 : Nat) : Nat → List OpD × Nat × Int
  | 0 => ([], a0, 0)
  | i + 1 => stepO bs (tkOs bs a0 i)
theorem tkOs_zero (bs : List Int) (a0 : Nat) : tkOs bs a0 0 = ([], a0, 0) := rfl
theorem tkOs_succ (bs : List Int) (a0 i : Nat) : tkOs bs a0 (i + 1) = stepO bs (tkOs bs a0 i) := rfl
theorem tkOs_stay {bs : List Int} {a0 i : Nat} (h : (tkOs bs a0 i).2.2 ≠ 0) : tkOs bs a0 (i + 1) = tkOs bs a0 i := by rw [tkOs_succ]; generalize tkOs bs a0 i = X at *; unfold stepO; rw [if_pos h]
theorem tkOs_err {bs : List Int} {a0 i : Nat} (h : (tkOs bs a0 i).2.2 = 0) (h2 : (tkO (bs.drop (tkOs bs a0 i).2.1)).2.2.2 ≠ 0) : tkOs bs a0 (i + 1) = ([], 0, (tkO (bs.drop (tkOs bs a0 i).2.1)).2.2.2) := by
  rw [tkOs_succ]
  generalize tkOs bs a0 i = X at *
  unfold stepO
  rw [if_neg (by simp [h])]
  generalize tkO (bs.drop X.2.1) = Y at *
  unfold moreO
  rw [if_pos h2]
theorem tkOs_ok {bs : List Int} {a0 i : Nat} (h : (tkOs bs a0 i).2.2 = 0) (h2 : (tkO (bs.drop (tkOs bs a0 i).2.1)).2.2.2 = 0) : tkOs bs a0 (i + 1) = ((tkOs bs a0 i).1 ++ [((tkO (bs.drop (tkOs bs a0 i).2.1)).1, (tkO (bs.drop (tkOs bs a0 i).2.1)).2.1)], (tkOs bs a0 i).2.1 + (tkO (bs.drop (tkOs bs a0 i).2.1)).2.2.1, 0) := by
  rw [tkOs_succ]
  generalize tkOs bs a0 i = X at *
  unfold stepO
  rw [if_neg (by simp [h])]
  generalize tkO (bs.drop X.2.1) = Y at *
  unfold moreO
  rw [if_neg (by simp [h2])]
theorem tkOs_off {bs : List Int} {a0 i j : Nat} (hij : i ≤ j) (h : (tkOs bs a0 i).2.2 ≠ 0) : tkOs bs a0 j = tkOs bs a0 i := by
  induction hij with
  | refl => rfl
  | step _ ih => rw [tkOs_stay (by rw [ih]; exact h), ih]
/-- as many as one frame may hold, behind their number -/
def tkOps (bs : List Int) : List OpD × Nat × Int :=
  if (tkN bs).2.2 ≠ 0 then ([], 0, (tkN bs).2.2) else if 8 < (tkN bs).1 then ([], 0, 1) else tkOs bs (tkN bs).2.1 (tkN bs).1.toNat
structure FrD where
  fr : Int
  tu : Int
  k : Int
  hs : List Int
  os : List OpD
def zF : FrD := ⟨0, 0, 0, [], []⟩
/-- one field -/
def updB (i : Nat) (bs : List Int) (F : FrD) : FrD × Nat × Int :=
  match i with
  | 0 => ({ F with fr := (tkN bs).1 }, (tkN bs).2.1, (tkN bs).2.2)
  | 1 => ({ F with tu := (tkN bs).1 }, (tkN bs).2.1, (tkN bs).2.2)
  | 2 => ({ F with k := (tkN bs).1 }, (tkN bs).2.1, (tkN bs).2.2)
  | _ => if F.k = 1 then ({ F with hs := (Hv.tkV bs).1 }, (Hv.tkV bs).2.1, (Hv.tkV bs).2.2) else if F.k = 2 then ({ F with os := (tkOps bs).1 }, (tkOps bs).2.1, (tkOps bs).2.2) else (F, 0, 1)
def stepB (bs : List Int) (i : Nat) (X : FrD × Nat × Int) : FrD × Nat × Int := updB i (bs.drop X.2.1) X.1
def runB (bs : List Int) : Nat → FrD × Nat × Int
  | 0 => (zF, 0, 0)
  | i + 1 => if (runB bs i).2.2 ≠ 0 then runB bs i else if (stepB bs i (runB bs i)).2.2 ≠ 0 then (zF, 0, (stepB bs i (runB bs i)).2.2) else ((stepB bs i (runB bs i)).1, (runB bs i).2.1 + (stepB bs i (runB bs i)).2.1, 0)
theorem runB_stay {bs : List Int} {i : Nat} (h : (runB bs i).2.2 ≠ 0) : runB bs (i + 1) = runB bs i := by rw [runB, if_pos h]
theorem runB_err {bs : List Int} {i : Nat} (h : (runB bs i).2.2 = 0) (h2 : (stepB bs i (runB bs i)).2.2 ≠ 0) : runB bs (i + 1) = (zF, 0, (stepB bs i (runB bs i)).2.2) := by rw [runB, if_neg (by simp [h]), if_pos h2]
theorem runB_ok {bs : List Int} {i : Nat} (h : (runB bs i).2.2 = 0) (h2 : (stepB bs i (runB bs i)).2.2 = 0) : runB bs (i + 1) = ((stepB bs i (runB bs i)).1, (runB bs i).2.1 + (stepB bs i (runB bs i)).2.1, 0) := by rw [runB, if_neg (by simp [h]), if_neg (by simp [h2])]
theorem runB_off {bs : List Int} {i j : Nat} (hij : i ≤ j) (h : (runB bs i).2.2 ≠ 0) : runB bs j = runB bs i := by
  induction hij with
  | refl => rfl
  | step _ ih => rw [runB_stay (by rw [ih]; exact h), ih]
def FrD.ok (F : FrD) : Bool := frB F.fr F.tu F.k F.hs F.os
def FrD.enc (F : FrD) : List Int := encF F.fr F.tu F.k F.hs F.os
def FrD.by (F : FrD) : List Int := byF F.fr F.tu F.k F.hs F.os
def FrD.pre (F : FrD) (n : Nat) : List Int := fpre n F.fr F.tu F.k F.hs F.os
def FrD.prt (F : FrD) (n : Nat) : List Int := fprt n F.fr F.tu F.k F.hs F.os
/-- which frame bytes are; the error -/
def prsF (bs : List Int) : FrD × Int :=
  if bs.length < 4 then (zF, 7) else if bs.take 4 ≠ be4 (crc (bs.drop 4)) then (zF, 8)
  else if (runB (bs.drop 4) 4).2.2 ≠ 0 ∨ (runB (bs.drop 4) 4).2.1 < (bs.drop 4).length ∨ (runB (bs.drop 4) 4).1.ok = false then (zF, 1) else ((runB (bs.drop 4) 4).1, 0)

-- what was written is taken
theorem tkOs_enc {bs : List Int} {a0 : Nat} {os : List OpD} {y : List Int} (hok : os.all OpD.ok = true) (hb : bs.drop a0 = encOs os ++ y) (hl : a0 ≤ bs.length) : ∀ i, i ≤ os.length → tkOs bs a0 i = (os.take i, a0 + (encOs (os.take i)).length, 0)
  | 0, _ => by rw [tkOs_zero]; simp [encOs]
  | i + 1, hi => by
    have ih := tkOs_enc hok hb hl i (by omega)
    obtain ⟨x, hx⟩ : ∃ x, os[i]? = some x := ⟨_, List.getElem?_eq_getElem (by omega)⟩
    have hxo : x.1.ok x.2 = true := List.all_eq_true.1 hok x (List.mem_of_getElem? hx)
    have hsp : os = os.take i ++ x :: os.drop (i + 1) := by
      have h1 : os.drop i = x :: os.drop (i + 1) := by
        have := List.getElem?_eq_some_iff.1 hx
        obtain ⟨h1, h2⟩ := this
        rw [List.drop_eq_getElem_cons h1, h2]
      rw [← h1, List.take_append_drop]
    have hd : bs.drop (a0 + (encOs (os.take i)).length) = encR x ++ (encOs (os.drop (i + 1)) ++ y) := by
      rw [← List.drop_drop, hb]
      have : encOs os = encOs (os.take i) ++ (encR x ++ encOs (os.drop (i + 1))) := by
        conv => lhs; rw [hsp]
        simp [encOs]
      rw [this, List.append_assoc, List.drop_left, List.append_assoc]
    have ht := tkO_enc hxo (encOs (os.drop (i + 1)) ++ y)
    have e1 : tkO (bs.drop (tkOs bs a0 i).2.1) = (x.1, x.2, (encR x).length, 0) := by rw [ih, hd]; exact ht
    rw [tkOs_ok (by rw [ih]) (by rw [e1]), e1, ih, List.take_add_one, hx]
    simp [encOs, Nat.add_assoc]
theorem tkOps_enc {os : List OpD} (h : batB os = true) (y : List Int) : tkOps (enc os.length ++ encOs os ++ y) = (os, (enc os.length ++ encOs os).length, 0) := by
  obtain ⟨h1, h2, h3⟩ := batB_parts h
  have e := tkN_enc (n := os.length) (by omega) (encOs os ++ y)
  rw [← List.append_assoc] at e
  unfold tkOps
  rw [e]
  simp only
  rw [if_neg (by simp), if_neg (by omega), Int.toNat_natCast, tkOs_enc h3 (y := y) (by rw [List.append_assoc, List.drop_left]) (by simp) os.length (Nat.le_refl _), List.take_length, List.length_append]
/-- what is there when some fields are taken -/
def recB (i : Nat) (F : FrD) : FrD := ⟨if 0 < i then F.fr else 0, if 1 < i then F.tu else 0, if 2 < i then F.k else 0, if 3 < i ∧ F.k = 1 then F.hs else [], if 3 < i ∧ F.k = 2 then F.os else []⟩
theorem tkNum_enc {z : Int} (h0 : 0 ≤ z) (h1 : z < 16) (y : List Int) : tkN (enc z.toNat ++ y) = (z, (enc z.toNat).length, 0) := by
  rw [tkN_enc (by omega), show ((z.toNat : Nat) : Int) = z by omega]
theorem updB_enc {F : FrD} (h : F.ok = true) (i : Nat) (hi : i < 4) (y : List Int) : updB i (F.prt i ++ y) (recB i F) = (recB (i + 1) F, (F.prt i).length, 0) := by
  obtain ⟨fr, tu, k, hs, os⟩ := F
  obtain ⟨h1, h2, h3, h4⟩ := frB_parts h
  have e1 := repB_num h1
  have e2 := repB_num h2
  have hk : k = 1 ∨ k = 2 := by rcases fkB_parts h4 with h | h <;> simp_all
  match i, hi with
  | 0, _ =>
    have e := tkNum_enc e1.1 e1.2 y
    simp only [updB, FrD.prt, fprt, e, recB]
    simp
  | 1, _ =>
    have e := tkNum_enc e2.1 e2.2 y
    simp only [updB, FrD.prt, fprt, e, recB]
    simp
  | 2, _ =>
    have e := tkNum_enc (z := k) (by omega) (by omega) y
    simp only [updB, FrD.prt, fprt, e, recB]
    simp
  | 3, _ =>
    rcases fkB_parts h4 with ⟨e, g1, g2⟩ | ⟨e, g1, g2⟩
    · simp only at e g1 g2
      subst e; subst g2
      have e := Hv.tkV_enc g1 y
      simp only [updB, FrD.prt, fprt, recB]
      simp [e]
    · simp only at e g1 g2
      subst e; subst g2
      have e := tkOps_enc g1 y
      simp only [updB, FrD.prt, fprt, recB]
      simp [-List.append_assoc, e]
theorem runB_enc {F : FrD} (h : F.ok = true) : ∀ (n : Nat) (bs y : List Int), n ≤ 4 → bs = F.pre n ++ y → runB bs n = (recB n F, (F.pre n).length, 0) := by
  intro n
  induction n with
  | zero => intro bs y _ _; simp [runB, recB, FrD.pre, fpre, zF]
  | succ n ih =>
    intro bs y hn hb
    have hp : F.pre (n + 1) = F.pre n ++ F.prt n := fpre_succ ..
    have e := ih bs (F.prt n ++ y) (by omega) (by rw [hb, hp, List.append_assoc])
    have hs : stepB bs n (runB bs n) = (recB (n + 1) F, (F.prt n).length, 0) := by
      rw [e]
      unfold stepB
      simp only
      rw [hb, hp, List.append_assoc, List.drop_left]
      exact updB_enc h n (by omega) y
    rw [runB_ok (by rw [e]) (by rw [hs]), hs, e, hp, List.length_append]
theorem rec4 {F : FrD} (h : F.ok = true) : recB 4 F = F := by
  obtain ⟨fr, tu, k, hs, os⟩ := F
  obtain ⟨h1, h2, h3, h4⟩ := frB_parts h
  rcases fkB_parts h4 with ⟨e, g1, g2⟩ | ⟨e, g1, g2⟩
  · simp only at e g1 g2
    subst e; subst g2
    simp [recB]
  · simp only at e g1 g2
    subst e; subst g2
    simp [recB]
theorem runB_all {F : FrD} (h : F.ok = true) (y : List Int) : runB (F.enc ++ y) 4 = (F, F.enc.length, 0) := by
  have e := runB_enc h 4 (F.enc ++ y) y (Nat.le_refl _) rfl
  rw [rec4 h] at e
  exact e
theorem prsF_by {F : FrD} (h : F.ok = true) : prsF F.by = (F, 0) := by
  have hd : F.by.drop 4 = F.enc := by unfold FrD.by byF; rw [List.drop_left' (be4_len _)]; rfl
  have ht : F.by.take 4 = be4 (crc F.enc) := by unfold FrD.by byF; rw [List.take_left' (be4_len _)]; rfl
  have e := runB_all h []
  rw [List.append_nil] at e
  unfold prsF
  rw [hd, ht, e, if_neg (by unfold FrD.by byF; rw [List.length_append, be4_len]; omega), if_neg (by simp), if_neg (by simp [h])]

-- what is taken was written so
theorem tkOs_len {bs : List Int} {a0 : Nat} : ∀ i, (tkOs bs a0 i).2.2 = 0 → (tkOs bs a0 i).1.length = i
  | 0, _ => by rw [tkOs_zero]; rfl
  | i + 1, h => by
    by_cases h0 : (tkOs bs a0 i).2.2 = 0
    · by_cases h2 : (tkO (bs.drop (tkOs bs a0 i).2.1)).2.2.2 = 0
      · rw [tkOs_ok h0 h2]
        simp [tkOs_len i h0]
      · rw [tkOs_err h0 h2] at h
        exact absurd h h2
    · rw [tkOs_stay h0] at h
      exact absurd h h0
theorem tkOs_back {bs : List Int} (hb : IsB bs) {a0 : Nat} (ha : a0 ≤ bs.length) : ∀ i, (tkOs bs a0 i).2.2 = 0 → (tkOs bs a0 i).2.1 ≤ bs.length ∧ a0 ≤ (tkOs bs a0 i).2.1 ∧ bs.take a0 ++ encOs (tkOs bs a0 i).1 = bs.take (tkOs bs a0 i).2.1 ∧ (tkOs bs a0 i).1.all OpD.ok = true
  | 0, _ => by rw [tkOs_zero]; exact ⟨ha, Nat.le_refl _, by simp [encOs], by simp⟩
  | i + 1, h => by
    by_cases h0 : (tkOs bs a0 i).2.2 = 0
    · by_cases h2 : (tkO (bs.drop (tkOs bs a0 i).2.1)).2.2.2 = 0
      · obtain ⟨i1, i2, i3, i4⟩ := tkOs_back hb ha i h0
        obtain ⟨b1, b2, b3⟩ := tkO_back (hb.drop _) h2
        rw [List.length_drop] at b2
        rw [tkOs_ok h0 h2]
        refine ⟨by simp only; omega, by simp only; omega, ?_, ?_⟩
        · simp only
          have e : encOs ((tkOs bs a0 i).1 ++ [((tkO (bs.drop (tkOs bs a0 i).2.1)).1, (tkO (bs.drop (tkOs bs a0 i).2.1)).2.1)]) = encOs (tkOs bs a0 i).1 ++ (tkO (bs.drop (tkOs bs a0 i).2.1)).1.pre 6 := by simp [encOs]; rfl
          rw [e, ← List.append_assoc, i3, b3, List.take_add]
        · simp only [List.all_append, i4, List.all_cons, List.all_nil, Bool.true_and]
          show (OpD.ok _ && true) = true
          rw [Bool.and_true]
          exact b1
      · rw [tkOs_err h0 h2] at h
        exact absurd h h2
    · rw [tkOs_stay h0] at h
      exact absurd h h0
theorem tkOps_back {bs : List Int} (hb : IsB bs) (h : (tkOps bs).2.2 = 0) : (tkOps bs).2.1 ≤ bs.length ∧ enc (tkOps bs).1.length ++ encOs (tkOps bs).1 = bs.take (tkOps bs).2.1 ∧ (tkOps bs).1.length ≤ 8 ∧ (tkOps bs).1.all OpD.ok = true := by
  unfold tkOps at h ⊢
  by_cases h0 : (tkN bs).2.2 = 0
  · rw [if_neg (by simp [h0])] at h ⊢
    by_cases h1 : 8 < (tkN bs).1
    · rw [if_pos h1] at h; simp at h
    · rw [if_neg h1] at h ⊢
      obtain ⟨n0, n1, n2, n3, n4⟩ := tkN_back hb h0
      obtain ⟨b1, b2, b3, b4⟩ := tkOs_back hb n3 _ h
      have hl := tkOs_len _ h
      refine ⟨b1, ?_, by omega, b4⟩
      rw [hl, n4]
      exact b3
  · rw [if_pos h0] at h
    exact absurd h h0
theorem updB_back {bs : List Int} (hb : IsB bs) (F : FrD) (n : Nat) (hn : n < 4) (h : (updB n bs F).2.2 = 0) : (updB n bs F).1.pre n = F.pre n ∧ (updB n bs F).2.1 ≤ bs.length ∧ (updB n bs F).1.prt n = bs.take (updB n bs F).2.1 := by
  match n, hn with
  | 0, _ =>
    obtain ⟨n0, n1, n2, n3, n4⟩ := tkN_back hb h
    exact ⟨rfl, n3, n4⟩
  | 1, _ =>
    obtain ⟨n0, n1, n2, n3, n4⟩ := tkN_back hb h
    exact ⟨by simp [FrD.pre, fpre, fprt, updB, List.range_succ], n3, n4⟩
  | 2, _ =>
    obtain ⟨n0, n1, n2, n3, n4⟩ := tkN_back hb h
    exact ⟨by simp [FrD.pre, fpre, fprt, updB, List.range_succ], n3, n4⟩
  | 3, _ =>
    obtain ⟨fr, tu, k, hs, os⟩ := F
    simp only [updB] at h ⊢
    by_cases g1 : k = 1
    · rw [if_pos g1] at h ⊢
      obtain ⟨b1, b2, b3⟩ := tkV_back hb h
      refine ⟨by simp [FrD.pre, fpre, fprt, List.range_succ], b2, ?_⟩
      simp only [FrD.prt, fprt, g1, if_true]
      exact b3
    · rw [if_neg g1] at h ⊢
      by_cases g2 : k = 2
      · rw [if_pos g2] at h ⊢
        obtain ⟨b1, b2, b3, b4⟩ := tkOps_back hb h
        refine ⟨by simp [FrD.pre, fpre, fprt, List.range_succ], b1, ?_⟩
        simp only [FrD.prt, fprt, if_neg g1]
        exact b2
      · rw [if_neg g2] at h
        simp at h
theorem runB_back {bs : List Int} (hb : IsB bs) : ∀ n : Nat, n ≤ 4 → (runB bs n).2.2 = 0 → (runB bs n).2.1 ≤ bs.length ∧ (runB bs n).1.pre n = bs.take (runB bs n).2.1 := by
  intro n
  induction n with
  | zero => intro _ _; simp [runB, FrD.pre, fpre]
  | succ n ih =>
    intro hn h
    by_cases h0 : (runB bs n).2.2 = 0
    · by_cases h2 : (stepB bs n (runB bs n)).2.2 = 0
      · obtain ⟨i1, i2⟩ := ih (by omega) h0
        obtain ⟨u1, u2, u3⟩ := updB_back (hb.drop _) (runB bs n).1 n (by omega) h2
        rw [List.length_drop] at u2
        rw [runB_ok h0 h2]
        refine ⟨by simp only [stepB] at u2 ⊢; omega, ?_⟩
        simp only
        have hp : (stepB bs n (runB bs n)).1.pre (n + 1) = (stepB bs n (runB bs n)).1.pre n ++ (stepB bs n (runB bs n)).1.prt n := fpre_succ ..
        rw [hp]
        unfold stepB
        rw [u1, i2, u3, List.take_add]
      · rw [runB_err h0 h2] at h
        exact absurd h h2
    · rw [runB_stay h0] at h
      exact absurd h h0
theorem runB_k {bs : List Int} (hb : IsB bs) (n : Nat) (hn : n ≤ 4) (h : (runB bs n).2.2 = 0) : (runB bs n).2.1 ≤ bs.length := (runB_back hb n hn h).1
theorem prsF_back {bs : List Int} (hb : IsB bs) (h : (prsF bs).2 = 0) : (prsF bs).1.ok = true ∧ bs = (prsF bs).1.by := by
  unfold prsF at h ⊢
  by_cases h1 : bs.length < 4
  · rw [if_pos h1] at h; simp at h
  · rw [if_neg h1] at h ⊢
    by_cases h2 : bs.take 4 ≠ be4 (crc (bs.drop 4))
    · rw [if_pos h2] at h; simp at h
    · rw [if_neg h2] at h ⊢
      by_cases h3 : (runB (bs.drop 4) 4).2.2 ≠ 0 ∨ (runB (bs.drop 4) 4).2.1 < (bs.drop 4).length ∨ (runB (bs.drop 4) 4).1.ok = false
      · rw [if_pos h3] at h; simp at h
      · rw [if_neg h3]
        simp only [not_or, Decidable.not_not, Bool.not_eq_false] at h3
        obtain ⟨a1, a2, a3⟩ := h3
        refine ⟨a3, ?_⟩
        obtain ⟨b1, b2⟩ := runB_back (hb.drop 4) 4 (Nat.le_refl _) a1
        have e : (runB (bs.drop 4) 4).1.enc = bs.drop 4 := by
          have : (runB (bs.drop 4) 4).2.1 = (bs.drop 4).length := by omega
          rw [this, List.take_length] at b2
          exact b2
        show bs = be4 (crc (runB (bs.drop 4) 4).1.enc) ++ (runB (bs.drop 4) 4).1.enc
        simp only [Decidable.not_not] at h2
        rw [e, ← h2, List.take_append_drop]
/-- no true beginning of a frame's bytes is a frame's bytes -/
theorem by_len (F : FrD) : F.by.length = 4 + F.enc.length := by
  show (be4 _ ++ encF _ _ _ _ _).length = _
  rw [List.length_append, be4_len]
  rfl
theorem by_drop (F : FrD) : F.by.drop 4 = F.enc := by unfold FrD.by byF; rw [List.drop_left' (be4_len _)]; rfl
theorem by_isB (F : FrD) : IsB F.by := byF_isB _ _ _ _ _
theorem by_cut {F : FrD} (h : F.ok = true) {j : Nat} (hj : j < F.by.length) : (prsF (F.by.take j)).2 ≠ 0 := by
  intro e
  have hb : IsB (F.by.take j) := fun z hz => by_isB F z (List.mem_of_mem_take hz)
  obtain ⟨h1, h2⟩ := prsF_back hb e
  generalize (prsF (F.by.take j)).1 = G at h1 h2
  have hl : G.by.length = j := by rw [← h2, List.length_take]; omega
  have hsp : F.by = G.by ++ F.by.drop j := by rw [← h2, List.take_append_drop]
  have hl4 := by_len G
  have hd : F.enc = G.enc ++ F.by.drop j := by
    rw [← by_drop F, ← by_drop G]
    conv => lhs; rw [hsp]
    rw [List.drop_append_of_le_length (by omega)]
  have r1 := runB_all h []
  rw [List.append_nil] at r1
  have r2 := runB_all h1 (F.by.drop j)
  rw [← hd, r1] at r2
  have r3 := congrArg (fun x => x.2.1) r2
  simp only at r3
  have := by_len F
  omega
theorem by_more {F : FrD} (h : F.ok = true) {z : Int} (h0 : 0 ≤ z) (h1 : z < 256) : (prsF (F.by ++ [z])).2 ≠ 0 := by
  intro e
  have hb : IsB (F.by ++ [z]) := (by_isB F).app (fun x hx => by simp only [List.mem_singleton] at hx; subst hx; exact ⟨h0, h1⟩)
  obtain ⟨g1, g2⟩ := prsF_back hb e
  generalize (prsF (F.by ++ [z])).1 = G at g1 g2
  have hd : F.enc ++ [z] = G.enc := by
    rw [← by_drop F, ← by_drop G, ← g2, List.drop_append_of_le_length (by rw [by_len]; omega)]
  have r1 := runB_all g1 []
  rw [List.append_nil] at r1
  have r2 := runB_all h [z]
  rw [hd, r1] at r2
  have r3 := congrArg (fun x => x.2.1) r2
  simp only at r3
  have := congrArg List.length hd
  rw [List.length_append, List.length_singleton] at this
  omega
theorem by_turned {F : FrD} (h : F.ok = true) {j : Nat} (hj : j < F.by.length) {z : Int} (h0 : 0 ≤ z) (h1 : z < 256) (hne : z ≠ F.by.getD j 0) : (prsF (F.by.set j z)).2 = 8 := by
  have hl := by_len F
  have key : (F.by.set j z).take 4 ≠ be4 (crc ((F.by.set j z).drop 4)) := by
    by_cases h4 : j < 4
    · intro e
      rw [List.drop_set_of_lt h4, by_drop] at e
      have e2 : F.by.take 4 = be4 (crc F.enc) := by unfold FrD.by byF; rw [List.take_left' (be4_len _)]; rfl
      rw [← e2] at e
      have e3 := congrArg (fun l => l.getD j 0) e
      simp only [List.getD_eq_getElem?_getD, List.getElem?_take, if_pos h4, List.getElem?_set_self hj] at e3
      simp only [List.getD_eq_getElem?_getD] at hne
      simp at e3
      exact hne e3
    · intro e
      have e2 : F.by.take 4 = be4 (crc F.enc) := by unfold FrD.by byF; rw [List.take_left' (be4_len _)]; rfl
      rw [List.take_set_of_le (by omega), e2] at e
      have e3 := be4_inj e
      have e4 : (F.by.set j z).drop 4 = F.enc.set (j - 4) z := by
        rw [List.drop_set, if_neg h4, by_drop]
      rw [e4] at e3
      have hj' : j - 4 < F.enc.length := by omega
      have hsp : F.enc = F.enc.take (j - 4) ++ F.enc.getD (j - 4) 0 :: F.enc.drop (j - 4 + 1) := by
        rw [List.getD_eq_getElem?_getD, List.getElem?_eq_getElem hj', Option.getD_some, ← List.drop_eq_getElem_cons hj', List.take_append_drop]
      have hst : F.enc.set (j - 4) z = F.enc.take (j - 4) ++ z :: F.enc.drop (j - 4 + 1) := List.set_eq_take_append_cons_drop .. |>.trans (by rw [if_pos hj'])
      have hB : IsB F.enc := encF_isB _ _ _ _ _
      have hx : 0 ≤ F.enc.getD (j - 4) 0 ∧ F.enc.getD (j - 4) 0 < 256 := hB _ (by rw [List.getD_eq_getElem?_getD, List.getElem?_eq_getElem hj']; simp)
      have hgd : F.by.getD j 0 = F.enc.getD (j - 4) 0 := by
        rw [← by_drop F, List.getD_eq_getElem?_getD, List.getD_eq_getElem?_getD, List.getElem?_drop, show 4 + (j - 4) = j by omega]
      rw [hst] at e3
      have e5 : crc (F.enc.take (j - 4) ++ F.enc.getD (j - 4) 0 :: F.enc.drop (j - 4 + 1)) = crc (F.enc.take (j - 4) ++ z :: F.enc.drop (j - 4 + 1)) := by rw [← hsp]; exact e3
      exact crc_flip (fun x hx => hB x (List.mem_of_mem_take hx)) (fun x hx => hB x (List.mem_of_mem_drop hx)) hx ⟨h0, h1⟩ (by rw [← hgd]; exact fun h => hne h.symm) e5
  unfold prsF
  rw [if_neg (by rw [List.length_set]; omega), if_pos key]
end Go.Proofs.YtdpopdlifcjdeaaDoor

/- Operations taken out of bytes, as many as one frame holds: the program's. -/
namespace Go.Proofs.YtdpopdlifcjdeaaDoor
open Go.RowKit Go.Lib
set_option linter.unusedVariables false


def OpsT (X : List OpD × Nat × Int) (w : World) (e : Ending) (w' : World) : Prop := ∃ v dl, e = .returned (.tuple #[v, .int .i64 (X.2.1 : Int), .int .i64 X.2.2]) ∧ OwnO w' w.heap.size v X.1 dl ∧ DepsO w' w.heap.size X.1 dl ∧ Below w.heap.size w w'
structure TkI (w w' : World) (bs : List Int) (a0 i : Nat) (os : List OpD) (kk : Nat) (v : Value) (dl : List Value) : Prop where
  run : tkOs bs a0 i = (os, kk, 0)
  len : os.length = i
  own : OwnO w' w.heap.size v os dl
  dep : DepsO w' w.heap.size os dl
  bel : Below w.heap.size w w'
def TkJ (w : World) (a : Option Addr) (bs : List Int) (n cap a0 cnt : Nat) (act : Act) (w' : World) : Prop :=
  ∃ (i kk : Nat) (os : List OpD) (v2 : Value) (dl : List Value) (u1 u4 u6 u7 u8 u9 u10 u11 u12 u13 u14 u15 u16 u17 u18 u19 u20 u21 u22 u23 u24 u25 u26 u27 u28 u29 u30 u31 u32 u33 u34 u35 u36 u37 u38 u39 u40 u41 u42 : Value), act = { tmps := #[.slice a n cap, u1, v2, .int .i64 (kk : Int), u4, .int .i64 (cnt : Int), u6, u7, u8, u9, u10, u11, u12, u13, u14, u15, u16, u17, u18, u19, u20, u21, u22, u23, u24, u25, u26, u27, u28, u29, u30, u31, u32, u33, u34, u35, u36, u37, u38, u39, u40, u41, u42], defers := [] } ∧ i ≤ cnt ∧ TkI w w' bs a0 i os kk v2 dl
theorem tkOps_e {bs : List Int} {c : Int} {a0 : Nat} {x : Int} (h : tkN bs = (c, a0, x)) (hx : x ≠ 0) : tkOps bs = ([], 0, x) := by unfold tkOps; rw [h, if_pos hx]
theorem tkOps_big {bs : List Int} {c : Int} {a0 : Nat} (h : tkN bs = (c, a0, 0)) (hx : 8 < c) : tkOps bs = ([], 0, 1) := by unfold tkOps; rw [h, if_neg (by simp), if_pos hx]
theorem tkOps_run {bs : List Int} {c a0 : Nat} (h : tkN bs = ((c : Int), a0, 0)) (hx : c ≤ 8) : tkOps bs = tkOs bs a0 c := by
  unfold tkOps
  rw [h, if_neg (by simp), if_neg (by simp only; omega)]
  simp only [Int.toNat_natCast]
theorem tkOs_next {bs : List Int} {a0 i kk k' : Nat} {os : List OpD} {R : OpR} {q : Int} (h : tkOs bs a0 i = (os, kk, 0)) (hk : tkO (bs.drop kk) = (R, q, k', 0)) : tkOs bs a0 (i + 1) = (os ++ [(R, q)], kk + k', 0) := by
  have e : tkO (bs.drop (tkOs bs a0 i).2.1) = (R, q, k', 0) := by rw [h]; exact hk
  rw [tkOs_ok (by rw [h]) (by rw [e]), e, h]
theorem tkOs_bad {bs : List Int} {a0 i j kk k' : Nat} {os : List OpD} {R : OpR} {q x : Int} (h : tkOs bs a0 i = (os, kk, 0)) (hk : tkO (bs.drop kk) = (R, q, k', x)) (hx : x ≠ 0) (hij : i < j) : tkOs bs a0 j = ([], 0, x) := by
  have e : tkO (bs.drop (tkOs bs a0 i).2.1) = (R, q, k', x) := by rw [h]; exact hk
  have e1 : tkOs bs a0 (i + 1) = ([], 0, x) := by rw [tkOs_err (by rw [h]) (by rw [e]; exact hx), e]
  rw [tkOs_off (i := i + 1) (by omega) (by rw [e1]; exact hx), e1]
theorem TkI.push {w w' w1 w2 : World} {bs : List Int} {a0 i kk k' : Nat} {os : List OpD} {v v2 : Value} {dl : List Value} {t r q : Int} {da : Option Addr} {ds : List Int} {dn dc : Nat} {kd nt nr pt pr : Int} {s : ByteArray} {p vv : Int} {o : Obj} (h : TkI w w' bs a0 i os kk v dl) (hk : tkO (bs.drop kk) = (⟨t, r, ds, kd, nt, nr, pt, pr, s, p, vv⟩, q, k', 0)) (hl : ds.length ≤ 65536)
    (hb : Below w'.heap.size w' w1) (hd : OwnK .i64 3 w1 w'.heap.size (.slice da dn dc) ds) (hg : GrewO w.heap.size (w1.alloc o) v os dl (⟨t, r, ds, kd, nt, nr, pt, pr, s, p, vv⟩, q) (.slice da dn dc) v2 w2) : TkI w w2 bs a0 (i + 1) (os ++ [(⟨t, r, ds, kd, nt, nr, pt, pr, s, p, vv⟩, q)]) (kk + k') v2 (dl ++ [.slice da dn dc]) := by
  have hs := h.bel.size
  have hb2 : Below w'.heap.size w' (w1.alloc o) := hb.alloc hb.size o
  refine ⟨tkOs_next h.run hk, by simp [h.len], hg.own, ?_, ?_⟩
  · have d1 := h.dep.below hb2
    have k1 : OwnK .i64 3 (w1.alloc o) w.heap.size (.slice da dn dc) ds := (hd.alloc o).mono hs
    exact DepsO.push h.dep h.own.len (hg.deps d1) (hg.row k1) (by show ds.length ≤ _; omega) (fun g hgg => (hd.lt hgg).1)
  · exact hg.bel (h.bel.trans (hb2.mono hs)) (Nat.le_refl _) (by have := hb.size; rw [World.size_alloc]; omega)
theorem opsT_of {bs : List Int} {X : List OpD × Nat × Int} (h : tkOps bs = X) {w w' : World} {e : Ending} (k : OpsT X w e w') : OpsT (tkOps bs) w e w' := by rw [h]; exact k
theorem own_nilE {w w' : World} {x : Int} (h : Below w.heap.size w w') : OpsT ([], 0, x) w (.returned (.tuple #[.slice none 0 0, .int .i64 0, .int .i64 x])) w' := ⟨_, [], rfl, OwnO.nil _ _, DepsO.nil _ _, h⟩

end Go.Proofs.YtdpopdlifcjdeaaDoor

/- A frame's fields taken out of bytes: the program's. -/
namespace Go.Proofs.YtdpopdlifcjdeaaDoor
open Go.RowKit Go.Lib
set_option linter.unusedVariables false


def FrD.cells (F : FrD) (h o : Value) : List Value := [.int .i64 F.fr, .int .i64 F.tu, .int .i64 F.k, h, o]
/-- what a frame that is the call's own holds -/
structure FrO (w : World) (base : Nat) (F : FrD) (h o : Value) (dl : List Value) : Prop where
  hv : OwnK .i64 3 w base h F.hs
  hl : F.hs.length ≤ 16
  ov : OwnO w base o F.os dl
  dv : DepsO w base F.os dl
  ol : F.os.length ≤ 8
theorem OwnO.far {w : World} {base g : Nat} {v : Value} {os : List OpD} {dl : List Value} (h : OwnO w base v os dl) (hg : g < base) (i : Nat) (u : Value) : OwnO (w.setCell ⟨g, i, none⟩ u) base v os dl := by
  refine h.grown (grown_setCell w ⟨g, i, none⟩ u) ?_
  by_cases hn : v.ownBlock = some g
  · have := (h.lt hn).1
    omega
  · exact .inr hn
theorem DepsO.far {w : World} {base g : Nat} {os : List OpD} {dl : List Value} (h : DepsO w base os dl) (hg : g < base) (i : Nat) (u : Value) : DepsO (w.setCell ⟨g, i, none⟩ u) base os dl := ⟨fun j x d hj hd => ⟨(h.own j x d hj hd).1.far hg i u, (h.own j x d hj hd).2⟩, h.apart⟩
theorem FrO.far {w : World} {base g : Nat} {F : FrD} {h o : Value} {dl : List Value} (k : FrO w base F h o dl) (hg : g < base) (i : Nat) (u : Value) : FrO (w.setCell ⟨g, i, none⟩ u) base F h o dl := ⟨k.hv.far hg i u, k.hl, k.ov.far hg i u, k.dv.far hg i u, k.ol⟩
theorem FrO.below {w w' : World} {base : Nat} {F : FrD} {h o : Value} {dl : List Value} (k : FrO w base F h o dl) (hb : Below w.heap.size w w') : FrO w' base F h o dl := ⟨k.hv.below hb, k.hl, k.ov.below hb, k.dv.below hb, k.ol⟩
theorem FrO.mono {w : World} {base base' : Nat} {F : FrD} {h o : Value} {dl : List Value} (k : FrO w base F h o dl) (hb : base' ≤ base) : FrO w base' F h o dl := ⟨k.hv.mono hb, k.hl, k.ov.mono hb, k.dv.mono hb, k.ol⟩
theorem FrO.as {w : World} {base : Nat} {F G : FrD} {h o : Value} {dl : List Value} (k : FrO w base F h o dl) (e1 : F.hs = G.hs) (e2 : F.os = G.os) : FrO w base G h o dl := by
  obtain ⟨a1, a2, a3, a4, a5⟩ := k
  rw [e1] at a1 a2
  rw [e2] at a3 a4 a5
  exact ⟨a1, a2, a3, a4, a5⟩
theorem FrO.zero (w : World) (base : Nat) : FrO w base zF (.slice none 0 0) (.slice none 0 0) [] := ⟨OwnK.nil _ _ _ _, by decide, OwnO.nil _ _, DepsO.nil _ _, by decide⟩
def FPost (g i : Nat) (X : FrD × Nat × Int) (w : World) (e : Ending) (w' : World) : Prop := ∃ h o dl, e = .returned (.tuple #[.int .i64 (X.2.1 : Int), .int .i64 X.2.2]) ∧ Blk w' g (X.1.cells h o) ∧ FrO w' (g + 1) X.1 h o dl ∧ Below g w w' ∧ (h = .slice none 0 0 ∨ i = 3 ∧ X.1.k = 1)
theorem tkV_len (bs : List Int) : (Hv.tkV bs).1.length ≤ 16 := by
  unfold Hv.tkV
  split
  · simp
  · split
    · rename_i h
      exact (Hv.vecB_len h).2
    · simp
theorem tkOps_len {bs : List Int} (hb : IsB bs) : (tkOps bs).1.length ≤ 8 := by
  by_cases h : (tkOps bs).2.2 = 0
  · exact (tkOps_back hb h).2.2.1
  · have hz : (tkOps bs).1 = [] := by
      unfold tkOps at h ⊢
      by_cases h0 : (tkN bs).2.2 = 0
      · rw [if_neg (by simp [h0])] at h ⊢
        by_cases h1 : 8 < (tkN bs).1
        · rw [if_pos h1]
        · rw [if_neg h1] at h ⊢
          generalize (tkN bs).1.toNat = m at *
          induction m with
          | zero => rfl
          | succ m ih =>
            by_cases g0 : (tkOs bs (tkN bs).2.1 m).2.2 = 0
            · by_cases g2 : (tkO (bs.drop (tkOs bs (tkN bs).2.1 m).2.1)).2.2.2 = 0
              · rw [tkOs_ok g0 g2] at h
                exact absurd rfl h
              · rw [tkOs_err g0 g2]
            · rw [tkOs_stay g0]
              exact ih g0
      · rw [if_pos h0]
    rw [hz]
    decide

end Go.Proofs.YtdpopdlifcjdeaaDoor

/- A frame's body taken out of bytes: the program's. -/
namespace Go.Proofs.YtdpopdlifcjdeaaDoor
open Go.RowKit Go.Lib
set_option linter.unusedVariables false


/-- the frame that is told, how many bytes, the error -/
def BodyT (X : FrD × Nat × Int) (w : World) (e : Ending) (w' : World) : Prop := ∃ h o dl, e = .returned (.tuple #[.agg #[.int .i64 X.1.fr, .int .i64 X.1.tu, .int .i64 X.1.k, h, o], .int .i64 (X.2.1 : Int), .int .i64 X.2.2]) ∧ FrO w' w.heap.size X.1 h o dl ∧ Below w.heap.size w w' ∧ (h = .slice none 0 0 ∨ X.1.k = 1)
structure TbI (w w' : World) (g : Nat) (F : FrD) (h o : Value) (dl : List Value) : Prop where
  blk : Blk w' g (F.cells h o)
  own : FrO w' (g + 1) F h o dl
  bel : Below g w w'
def TbJ (w : World) (g : Nat) (a : Option Addr) (bs : List Int) (n cap : Nat) (act : Act) (w' : World) : Prop :=
  ∃ (F : FrD) (kk i : Nat) (o : Value) (dl : List Value) (u1 u4 u6 u7 u8 u9 u10 u11 u12 u13 u14 u15 u16 u17 u18 u19 u20 u21 u22 u23 u24 u25 u26 u27 : Value), act = { tmps := #[.slice a n cap, u1, .pointer (some ⟨g, 0, none⟩), .int .i64 (kk : Int), u4, .int .i64 (i : Int), u6, u7, u8, u9, u10, u11, u12, u13, u14, u15, u16, u17, u18, u19, u20, u21, u22, u23, u24, u25, u26, u27], defers := [] } ∧ i < 4 ∧ runB bs i = (F, kk, 0) ∧ TbI w w' g F (.slice none 0 0) o dl
theorem runB_step {bs : List Int} {i kk : Nat} {F : FrD} (h : runB bs i = (F, kk, 0)) {F' : FrD} {k' : Nat} (hs : updB i (bs.drop kk) F = (F', k', 0)) : runB bs (i + 1) = (F', kk + k', 0) := by
  have e : stepB bs i (runB bs i) = (F', k', 0) := by rw [h]; exact hs
  rw [runB_ok (by rw [h]) (by rw [e]), e, h]
theorem runB_bad {bs : List Int} {i kk : Nat} {F : FrD} (hi : i < 4) (h : runB bs i = (F, kk, 0)) {F' : FrD} {k' : Nat} {x : Int} (hx : x ≠ 0) (hs : updB i (bs.drop kk) F = (F', k', x)) : runB bs 4 = (zF, 0, x) := by
  have e : stepB bs i (runB bs i) = (F', k', x) := by rw [h]; exact hs
  have e1 : runB bs (i + 1) = (zF, 0, x) := by rw [runB_err (by rw [h]) (by rw [e]; exact hx), e]
  rw [runB_off (i := i + 1) (by omega) (by rw [e1]; exact hx), e1]
theorem bodyT_of {bs : List Int} {X : FrD × Nat × Int} (h : runB bs 4 = X) {w w' : World} {e : Ending} (k : BodyT X w e w') : BodyT (runB bs 4) w e w' := by rw [h]; exact k
theorem bodyT_zero {x : Int} {w w' : World} (h : Below w.heap.size w w') : BodyT (zF, 0, x) w (.returned (.tuple #[.agg #[.int .i64 0, .int .i64 0, .int .i64 0, .slice none 0 0, .slice none 0 0], .int .i64 0, .int .i64 x])) w' := ⟨_, _, [], rfl, FrO.zero _ _, h, .inl rfl⟩

end Go.Proofs.YtdpopdlifcjdeaaDoor

/- A frame's bytes: the program's. -/
namespace Go.Proofs.YtdpopdlifcjdeaaDoor
open Go.RowKit Go.Lib
set_option linter.unusedVariables false


/-- what the loop over the parts keeps -/
structure FbI (w w' : World) (g : Nat) (fr tu k : Int) (ha : Option Addr) (hn hc : Nat) (oa : Option Addr) (on oc : Nat) (out : Value) (zs : List Int) : Prop where
  at_ : FrAt w' g 0 fr tu k ha hn hc oa on oc
  own : OwnK .u8 5 w' (g + 1) out zs
  bel : Below w.heap.size w w'
  ge : w.heap.size ≤ g
theorem FbI.next {w w1 w2 : World} {g : Nat} {fr tu k : Int} {ha : Option Addr} {hn hc : Nat} {oa : Option Addr} {on oc : Nat} {out : Value} {zs : List Int} (h : FbI w w1 g fr tu k ha hn hc oa on oc out zs) (hb : Below w1.heap.size w1 w2) : FbI w w2 g fr tu k ha hn hc oa on oc out zs :=
  ⟨h.at_.next hb, h.own.below hb, h.bel.trans (hb.mono h.bel.size), h.ge⟩
theorem FbI.grew {w w1 w2 : World} {g : Nat} {fr tu k : Int} {ha : Option Addr} {hn hc : Nat} {oa : Option Addr} {on oc : Nat} {out out' : Value} {zs ys : List Int} (h : FbI w w1 g fr tu k ha hn hc oa on oc out zs) (hg : Grew .u8 5 (g + 1) w1 out zs ys out' w2) : FbI w w2 g fr tu k ha hn hc oa on oc out' (zs ++ ys) := by
  have hb : Below (g + 1) w1 w2 := hg.bel _ _ (Below.refl _ _) (Nat.le_refl _) h.at_.lt
  exact ⟨h.at_.below hb (by omega), hg.own, h.bel.trans (hb.mono (by have := h.ge; omega)), h.ge⟩
def FbJ (w : World) (g : Nat) (fr tu k : Int) (ha : Option Addr) (hs : List Int) (hn hc : Nat) (oa : Option Addr) (os : List OpD) (on oc : Nat) (act : Act) (w' : World) : Prop :=
  ∃ (v4 : Value) (i : Nat) (u2 u3 u6 u7 u8 u9 u10 u11 u12 u13 u14 u15 u16 u17 u18 u19 u20 u21 u22 u23 u24 u25 u26 u27 u28 u29 u30 : Value), act = { tmps := #[.agg #[.int .i64 fr, .int .i64 tu, .int .i64 k, .slice ha hn hc, .slice oa on oc], .pointer (some ⟨g, 0, none⟩), u2, u3, v4, .int .i64 (i : Int), u6, u7, u8, u9, u10, u11, u12, u13, u14, u15, u16, u17, u18, u19, u20, u21, u22, u23, u24, u25, u26, u27, u28, u29, u30], defers := [] } ∧ i < 4 ∧ FbI w w' g fr tu k ha hn hc oa on oc v4 (fpre i fr tu k hs os)

end Go.Proofs.YtdpopdlifcjdeaaDoor

/- Which frame bytes are: the program's. -/
namespace Go.Proofs.YtdpopdlifcjdeaaDoor
open Go.RowKit Go.Lib
set_option linter.unusedVariables false


theorem FrO.read {w : World} {base : Nat} {F : FrD} {h o : Value} {dl : List Value} (k : FrO w base F h o dl) : ∃ ha hn hc oa on oc, h = .slice ha hn hc ∧ o = .slice oa on oc ∧ FrR w ha F.hs hn oa F.os on := by
  obtain ⟨ha, hn, hc, e1, e2, hr, _⟩ := k.hv.form'
  obtain ⟨oa, on, oc, e3, e4, _, hro⟩ := k.ov.row k.dv.read
  exact ⟨ha, hn, hc, oa, on, oc, e1, e3, hr, e2, by have := k.hl; omega, hro, e4, by have := k.ol; omega⟩
def ParseT (X : FrD × Int) (w : World) (e : Ending) (w' : World) : Prop := ∃ h o dl, e = .returned (.tuple #[.agg #[.int .i64 X.1.fr, .int .i64 X.1.tu, .int .i64 X.1.k, h, o], .int .i64 X.2]) ∧ FrO w' w.heap.size X.1 h o dl ∧ Below w.heap.size w w' ∧ (h = .slice none 0 0 ∨ X.1.k = 1)
theorem parseT_of {bs : List Int} {X : FrD × Int} (h : prsF bs = X) {w w' : World} {e : Ending} (k : ParseT X w e w') : ParseT (prsF bs) w e w' := by rw [h]; exact k
theorem parseT_zero {x : Int} {w w' : World} (h : Below w.heap.size w w') : ParseT (zF, x) w (.returned (.tuple #[.agg #[.int .i64 0, .int .i64 0, .int .i64 0, .slice none 0 0, .slice none 0 0], .int .i64 x])) w' := ⟨_, _, [], rfl, FrO.zero _ _, h, .inl rfl⟩
theorem prsF_7 {bs : List Int} (h : bs.length < 4) : prsF bs = (zF, 7) := by unfold prsF; rw [if_pos h]
theorem prsF_8 {bs : List Int} (h : ¬ bs.length < 4) (h2 : ¬ bs.take 4 = be4 (crc (bs.drop 4))) : prsF bs = (zF, 8) := by unfold prsF; rw [if_neg h, if_pos h2]
theorem prsF_1 {bs : List Int} (h : ¬ bs.length < 4) (h2 : bs.take 4 = be4 (crc (bs.drop 4))) {F : FrD} {k : Nat} {x : Int} (hr : runB (bs.drop 4) 4 = (F, k, x)) (h3 : x ≠ 0 ∨ k < (bs.drop 4).length ∨ F.ok = false) : prsF bs = (zF, 1) := by
  unfold prsF
  rw [if_neg h, if_neg (by simpa using h2), hr, if_pos h3]
theorem prsF_0 {bs : List Int} (h : ¬ bs.length < 4) (h2 : bs.take 4 = be4 (crc (bs.drop 4))) {F : FrD} {k : Nat} (hr : runB (bs.drop 4) 4 = (F, k, 0)) (h3 : ¬ k < (bs.drop 4).length) (h4 : F.ok = true) : prsF bs = (F, 0) := by
  unfold prsF
  rw [if_neg h, if_neg (by simpa using h2), hr, if_neg (by simp only [not_or]; exact ⟨by simp, h3, by simp [h4]⟩)]

end Go.Proofs.YtdpopdlifcjdeaaDoor

/- Rows of operations, and frames, held against each other: the same. -/
namespace Go.Proofs.YtdpopdlifcjdeaaDoor
open Go.RowKit Go.Lib
set_option linter.unusedVariables false


theorem held2_mk {WX : World} {b1 o1 b2 o2 k : Nat} {t r q : Int} {da da' : Option Addr} {dn dc dc' : Nat} {kd nt nr pt pr : Int} {s : ByteArray} {p v : Int} {W : World} (h1 : OpAt WX b1 (o1 + k * 12) t r q da dn dc kd nt nr pt pr s p v) (h2 : OpAt WX b2 (o2 + k * 12) t r q da' dn dc' kd nt nr pt pr s p v) (hb : Below WX.heap.size WX W) : W.cell? ⟨b1, o1 + k * 12, none⟩ = some (.int .i64 t) ∧ W.cell? ⟨b1, o1 + k * 12 + 1, none⟩ = some (.int .i64 r) ∧ W.cell? ⟨b1, o1 + k * 12 + 2, none⟩ = some (.int .i64 q) ∧ W.cell? ⟨b1, o1 + k * 12 + 3, none⟩ = some (.slice da dn dc) ∧ W.cell? ⟨b1, o1 + k * 12 + 4, none⟩ = some (.int .i64 kd) ∧ W.cell? ⟨b1, o1 + k * 12 + 5, none⟩ = some (.int .i64 nt) ∧ W.cell? ⟨b1, o1 + k * 12 + 6, none⟩ = some (.int .i64 nr) ∧ W.cell? ⟨b1, o1 + k * 12 + 7, none⟩ = some (.int .i64 pt) ∧ W.cell? ⟨b1, o1 + k * 12 + 8, none⟩ = some (.int .i64 pr) ∧ W.cell? ⟨b1, o1 + k * 12 + 9, none⟩ = some (.string s) ∧ W.cell? ⟨b1, o1 + k * 12 + 10, none⟩ = some (.int .i64 p) ∧ W.cell? ⟨b1, o1 + k * 12 + 11, none⟩ = some (.int .i64 v) ∧ W.cell? ⟨b2, o2 + k * 12, none⟩ = some (.int .i64 t) ∧ W.cell? ⟨b2, o2 + k * 12 + 1, none⟩ = some (.int .i64 r) ∧ W.cell? ⟨b2, o2 + k * 12 + 2, none⟩ = some (.int .i64 q) ∧ W.cell? ⟨b2, o2 + k * 12 + 3, none⟩ = some (.slice da' dn dc') ∧ W.cell? ⟨b2, o2 + k * 12 + 4, none⟩ = some (.int .i64 kd) ∧ W.cell? ⟨b2, o2 + k * 12 + 5, none⟩ = some (.int .i64 nt) ∧ W.cell? ⟨b2, o2 + k * 12 + 6, none⟩ = some (.int .i64 nr) ∧ W.cell? ⟨b2, o2 + k * 12 + 7, none⟩ = some (.int .i64 pt) ∧ W.cell? ⟨b2, o2 + k * 12 + 8, none⟩ = some (.int .i64 pr) ∧ W.cell? ⟨b2, o2 + k * 12 + 9, none⟩ = some (.string s) ∧ W.cell? ⟨b2, o2 + k * 12 + 10, none⟩ = some (.int .i64 p) ∧ W.cell? ⟨b2, o2 + k * 12 + 11, none⟩ = some (.int .i64 v) ∧ Hid (Below WX.heap.size WX W) := by
  have a := h1.next hb
  have b := h2.next hb
  exact ⟨a.c0, a.c1, a.c2, a.c3, a.c4, a.c5, a.c6, a.c7, a.c8, a.c9, a.c10, a.c11, b.c0, b.c1, b.c2, b.c3, b.c4, b.c5, b.c6, b.c7, b.c8, b.c9, b.c10, b.c11, hb⟩
set_option maxHeartbeats 2000000 in
set_option maxRecDepth 100000 in
theorem eqOps_yes (a b : Option Addr) (os : List OpD) (n1 n2 c1 c2 : Nat) (w : World) (ha : RowO w a os) (hb : RowO w b os) (h1 : n1 = os.length) (h2 : n2 = os.length) (hl : os.length ≤ 140737488355328) :
    Calls Tryd.prog 20 #[.slice a n1 c1, .slice b n2 c2] w (BoolPost w true) := by
  have mixed : Tryd.prog.follows .mixedOrders = true := by kernel_rfl
  have e12 : n2 = n1 := by omega
  subst e12
  have HA := Lib.hid ha
  have HB := Lib.hid hb
  have HN := Lib.hid h1
  have hnl : n2 ≤ 140737488355328 := by omega
  clear ha hb h1 h2 hl
  go_enter Tryd.func20, Tryd.ntmps20
  go_wp2
  go_loopg [5] n2 (fun g1 v wr => ∃ k : Nat, v = .int .i64 k ∧ k ≤ n2 ∧ n2 - k ≤ g1 ∧ Hid (Below w.heap.size w wr))
  case atStart => exact ⟨0, rfl, by omega, by omega, Below.refl _ _⟩
  case round =>
    obtain ⟨k, rfl, hk, hg, HI⟩ := hrel
    by_cases hin : k < n2
    · have hinz : (k : Int) < (n2 : Int) := by omega
      obtain ⟨x, hx⟩ : ∃ x, os[k]? = some x := ⟨_, List.getElem?_eq_getElem (by rw [← HN.out]; exact hin)⟩
      obtain ⟨b1, o1, rfl, da, dc, hat1, hr1, hdm⟩ := (HA.out.below HI.out) k x hx
      obtain ⟨b2, o2, rfl, da', dc', hat2, hr2, -⟩ := (HB.out.below HI.out) k x hx
      obtain ⟨⟨t, r, ds, kd, nt, nr, pt, pr, s, p, v⟩, q⟩ := x
      simp only at hat1 hat2 hr1 hr2 hdm
      have HR1 := Lib.hid hr1
      have HR2 := Lib.hid hr2
      have HDM := Lib.hid hdm
      clear hx hr1 hr2 hdm
      generalize hdn : ds.length = dn at *
      have HDN := Lib.hid hdn
      clear hdn
      have hS0 := held2_mk hat1 hat2 (Below.refl wr.heap.size wr).drew
      have HS := Lib.hid (fun W (h : Below wr.heap.size wr W) => held2_mk hat1 hat2 h)
      have C : Hid (∀ W, Below wr.heap.size wr W → Calls Tryd.prog 21 #[.agg #[.int .i64 t, .int .i64 r, .int .i64 q, .slice da dn dc, .int .i64 kd, .int .i64 nt, .int .i64 nr, .int .i64 pt, .int .i64 pr, .string s, .int .i64 p, .int .i64 v], .agg #[.int .i64 t, .int .i64 r, .int .i64 q, .slice da' dn dc', .int .i64 kd, .int .i64 nt, .int .i64 nr, .int .i64 pt, .int .i64 pr, .string s, .int .i64 p, .int .i64 v]] W (BoolPost W true)) := fun W h => eqOp_bel t r q da ds dn dc kd nt nr pt pr s p v da' dn dc' W (HR1.out.below h (Nat.le_refl _)) HDN.out.symm (by have := HDM.out; have := HDN.out; omega) (HR2.out.below h (Nat.le_refl _)) HDN.out.symm
      clear hat1 hat2
      go_wp2_with fail
      go_region_held3 (fun w' => w'.cell? ⟨b1, o1 + k * 12, none⟩ = some (.int .i64 t) ∧ w'.cell? ⟨b1, o1 + k * 12 + 1, none⟩ = some (.int .i64 r) ∧ w'.cell? ⟨b1, o1 + k * 12 + 2, none⟩ = some (.int .i64 q) ∧ w'.cell? ⟨b1, o1 + k * 12 + 3, none⟩ = some (.slice da dn dc) ∧ w'.cell? ⟨b1, o1 + k * 12 + 4, none⟩ = some (.int .i64 kd) ∧ w'.cell? ⟨b1, o1 + k * 12 + 5, none⟩ = some (.int .i64 nt) ∧ w'.cell? ⟨b1, o1 + k * 12 + 6, none⟩ = some (.int .i64 nr) ∧ w'.cell? ⟨b1, o1 + k * 12 + 7, none⟩ = some (.int .i64 pt) ∧ w'.cell? ⟨b1, o1 + k * 12 + 8, none⟩ = some (.int .i64 pr) ∧ w'.cell? ⟨b1, o1 + k * 12 + 9, none⟩ = some (.string s) ∧ w'.cell? ⟨b1, o1 + k * 12 + 10, none⟩ = some (.int .i64 p) ∧ w'.cell? ⟨b1, o1 + k * 12 + 11, none⟩ = some (.int .i64 v) ∧ w'.cell? ⟨b2, o2 + k * 12, none⟩ = some (.int .i64 t) ∧ w'.cell? ⟨b2, o2 + k * 12 + 1, none⟩ = some (.int .i64 r) ∧ w'.cell? ⟨b2, o2 + k * 12 + 2, none⟩ = some (.int .i64 q) ∧ w'.cell? ⟨b2, o2 + k * 12 + 3, none⟩ = some (.slice da' dn dc') ∧ w'.cell? ⟨b2, o2 + k * 12 + 4, none⟩ = some (.int .i64 kd) ∧ w'.cell? ⟨b2, o2 + k * 12 + 5, none⟩ = some (.int .i64 nt) ∧ w'.cell? ⟨b2, o2 + k * 12 + 6, none⟩ = some (.int .i64 nr) ∧ w'.cell? ⟨b2, o2 + k * 12 + 7, none⟩ = some (.int .i64 pt) ∧ w'.cell? ⟨b2, o2 + k * 12 + 8, none⟩ = some (.int .i64 pr) ∧ w'.cell? ⟨b2, o2 + k * 12 + 9, none⟩ = some (.string s) ∧ w'.cell? ⟨b2, o2 + k * 12 + 10, none⟩ = some (.int .i64 p) ∧ w'.cell? ⟨b2, o2 + k * 12 + 11, none⟩ = some (.int .i64 v) ∧ Hid (Below wr.heap.size wr w')) (with_reducible assumption) (first
        | (go_at_call 21
           (with_reducible refine (C.out _ ((Below.refl wr.heap.size wr).drew)).mono ?_)
           rintro e w9 ⟨rfl, hb9⟩
           have hS9 := HS.out w9 ((Below.refl wr.heap.size wr).drew.trans hb9)
           have HB9 := Lib.hid (HI.out.trans (((Below.refl wr.heap.size wr).drew.trans hb9).mono HI.out.size))
           clear hb9))
      clear hS0 hS9
      go_wp2_with fail
      go_roundg (n2 - (k + 1))
      case measure => omega
      case rel => exact ⟨k + 1, by go_num, by omega, by omega, HB9.out⟩
    · have hinz : ¬ (k : Int) < (n2 : Int) := by omega
      go_wp2
      go_ret
      exact ⟨rfl, HI.out⟩

end Go.Proofs.YtdpopdlifcjdeaaDoor

/- Operations, and frames, copied. -/
namespace Go.Proofs.YtdpopdlifcjdeaaDoor
open Go.RowKit Go.Lib
set_option linter.unusedVariables false


def CopyO (os : List OpD) (w : World) (e : Ending) (w' : World) : Prop := ∃ v dl, e = .returned v ∧ OwnO w' w.heap.size v os dl ∧ DepsO w' w.heap.size os dl ∧ Below w.heap.size w w'
structure CpI (w w' : World) (os : List OpD) (v : Value) (dl : List Value) : Prop where
  own : OwnO w' w.heap.size v os dl
  dep : DepsO w' w.heap.size os dl
  bel : Below w.heap.size w w'
theorem CpI.push {w w' w1 w2 : World} {os : List OpD} {v v2 : Value} {dl : List Value} {x : OpD} {d : Value} (h : CpI w w' os v dl) (hl : x.1.ds.length ≤ 17592186044416) (hb : Below w'.heap.size w' w1) (hd : OwnK .i64 3 w1 w'.heap.size d x.1.ds) (hg : GrewO w.heap.size w1 v os dl x d v2 w2) : CpI w w2 (os ++ [x]) v2 (dl ++ [d]) := by
  have hs := h.bel.size
  refine ⟨hg.own, ?_, hg.bel (h.bel.trans (hb.mono hs)) (Nat.le_refl _) (by have := hb.size; omega)⟩
  exact DepsO.push h.dep h.own.len (hg.deps (h.dep.below hb)) (hg.row (hd.mono hs)) hl (fun g hgg => (hd.lt hgg).1)
theorem take_more {os : List OpD} {k : Nat} {x : OpD} (h : os[k]? = some x) : os.take (k + 1) = os.take k ++ [x] := by rw [List.take_add_one, h]; rfl

set_option maxHeartbeats 2000000 in
set_option maxRecDepth 100000 in
theorem copyOps_any (a : Option Addr) (os : List OpD) (n c : Nat) (w : World) (ha : RowO w a os) (hn : n = os.length) (hl : os.length * 120 ≤ 140737488355328) : Calls Tryd.prog 10 #[.slice a n c] w (CopyO os w) := by
  have HA := Lib.hid ha
  have HN := Lib.hid hn
  have hnl : n * 120 ≤ 140737488355328 := by omega
  clear ha hn hl
  go_enter Tryd.func10, Tryd.ntmps10
  go_wp2
  go_loopg [3, 4] n (fun g1 v i wr => ∃ (k : Nat) (dl : List Value), i = .int .i64 k ∧ k ≤ n ∧ n - k ≤ g1 ∧ Hid (CpI w wr (os.take k) v dl))
  case atStart => exact ⟨0, [], rfl, Nat.zero_le _, by omega, ⟨by rw [List.take_zero]; exact OwnO.nil _ _, by rw [List.take_zero]; exact DepsO.nil _ _, Below.refl _ _⟩⟩
  case round =>
    obtain ⟨k, dl, rfl, hk, hg, HI⟩ := hrel
    by_cases hin : k < n
    · have hinz : (k : Int) < (n : Int) := by omega
      obtain ⟨x, hx⟩ : ∃ x, os[k]? = some x := ⟨_, List.getElem?_eq_getElem (by rw [← HN.out]; exact hin)⟩
      have HX := Lib.hid (take_more hx)
      obtain ⟨b, off, rfl, da, dc, hat, hrow, hdm⟩ := (HA.out.below HI.out.bel) k x hx
      obtain ⟨⟨t, r, ds, kd, nt, nr, pt, pr, s, p, v⟩, q⟩ := x
      simp only at hat hrow hdm
      have HDM := Lib.hid hdm
      obtain ⟨c0, c1, c2, c3, c4, c5, c6, c7, c8, c9, c10, c11⟩ := hat
      have C := Lib.hid (copyOp_any t r q da ds ds.length dc kd nt nr pt pr s p v wr hrow rfl hdm)
      clear hx hrow hdm
      generalize ds.length = dn at c3 C
      have HTL : Hid ((os.take k).length = k) := by have := HN.out; show _ = _; rw [List.length_take]; omega
      have hsz := HI.out.bel.size
      go_wp2_with fail
      refine (C.out).mono ?_
      rintro e w1 ⟨da1, dn1, dc1, rfl, ho1, hb1⟩
      have HO1 := Lib.hid ho1
      have HB1 := Lib.hid hb1
      clear ho1 hb1 C c0 c1 c2 c3 c4 c5 c6 c7 c8 c9 c10 c11
      go_wp2_with (at_builtin
                   refine wpO_one rfl _ _ rfl w.heap.size w1 u3 (os.take k) dl t r q da1 ds dn1 dc1 kd nt nr pt pr s p v rfl (HI.out.own.below HB1.out) _ rfl rfl (by have := HTL.out; omega) (by have h2 := HB1.out.size; omega) ?_
                   intro v6 w6 hp6
                   have HQ := Lib.hid (HI.out.push HDM.out HB1.out HO1.out hp6)
                   rw [← HX.out] at HQ
                   clear hp6)
      go_roundg (n - (k + 1))
      case measure => omega
      case rel => exact ⟨k + 1, _, by go_num, by omega, by omega, HQ⟩
    · have hinz : ¬ (k : Int) < (n : Int) := by omega
      have HF : Hid (CpI w wr os u3 dl) := by
        have h := HI.out
        rw [List.take_of_length_le (by have := HN.out; omega)] at h
        exact h
      go_wp2
      go_ret
      exact ⟨_, dl, rfl, HF.out.own, HF.out.dep, HF.out.bel⟩
def CopyF (fr tu k : Int) (hs : List Int) (os : List OpD) (w : World) (e : Ending) (w' : World) : Prop := ∃ ha hn hc oa on oc, e = .returned (.agg #[.int .i64 fr, .int .i64 tu, .int .i64 k, .slice ha hn hc, .slice oa on oc]) ∧ FrR w' ha hs hn oa os on ∧ Below w.heap.size w w'
theorem FrAt.other {w : World} {g o b : Nat} {fr tu k : Int} {ha : Option Addr} {hn hc : Nat} {oa : Option Addr} {on oc : Nat} (h : FrAt w g o fr tu k ha hn hc oa on oc) (hne : b ≠ g) (i : Nat) (u : Value) : FrAt (w.setCell ⟨b, i, none⟩ u) g o fr tu k ha hn hc oa on oc := by
  have f : ∀ j, (w.setCell ⟨b, i, none⟩ u).cell? ⟨g, j, none⟩ = w.cell? ⟨g, j, none⟩ := fun j => World.cell?_setCell_far _ _ _ _ (by simpa using hne)
  exact ⟨(f _).trans h.c0, (f _).trans h.c1, (f _).trans h.c2, (f _).trans h.c3, (f _).trans h.c4⟩
end Go.Proofs.YtdpopdlifcjdeaaDoor

/- Weights; there and back. -/
namespace Go.Proofs.YtdpopdlifcjdeaaDoor
open Go.RowKit Go.Lib
set_option linter.unusedVariables false


def opW (x : OpD) : Int := wrap64 (wrap64 (1 + (x.1.ds.length : Int)) + (x.1.s.size : Int))
def wtN (os : List OpD) : Nat → Int
  | 0 => (os.length : Int)
  | k + 1 => wrap64 (wtN os k + match os[k]? with | some x => opW x | none => 0)
def wtF (os : List OpD) : Nat → Nat → Int
  | 0, k => wtN os k
  | f + 1, k => if k < os.length ∧ wtN os k < 1048576 then wtF os f (k + 1) else wtN os k
def wtO (os : List OpD) : Int := wtF os os.length 0
theorem wtN_succ {os : List OpD} {k : Nat} {x : OpD} (h : os[k]? = some x) : wtN os (k + 1) = wrap64 (wtN os k + opW x) := by rw [wtN, h]
theorem wtF_go {os : List OpD} {k : Nat} (h1 : k < os.length) (h2 : wtN os k < 1048576) : wtF os (os.length - k) k = wtF os (os.length - (k + 1)) (k + 1) := by
  obtain ⟨f, hf⟩ : ∃ f, os.length - k = f + 1 := ⟨os.length - k - 1, by omega⟩
  rw [hf, show os.length - (k + 1) = f by omega, wtF, if_pos ⟨h1, h2⟩]
theorem wtF_stop {os : List OpD} {k : Nat} (h : ¬ (k < os.length ∧ wtN os k < 1048576)) : wtF os (os.length - k) k = wtN os k := by
  cases h0 : os.length - k with
  | zero => rfl
  | succ f => rw [wtF, if_neg h]
set_option maxHeartbeats 400000 in
theorem opWeight_is (t r q : Int) (da : Option Addr) (ds : List Int) (dn dc : Nat) (kd nt nr pt pr : Int) (s : ByteArray) (p v : Int) (w : World) (hn : dn = ds.length) : Calls Tryd.prog 53 #[.agg #[.int .i64 t, .int .i64 r, .int .i64 q, .slice da dn dc, .int .i64 kd, .int .i64 nt, .int .i64 nr, .int .i64 pt, .int .i64 pr, .string s, .int .i64 p, .int .i64 v]] w (St.IntBel w (opW (⟨t, r, ds, kd, nt, nr, pt, pr, s, p, v⟩, q))) := by
  have HN := Lib.hid hn
  clear hn
  go_enter Tryd.func53, Tryd.ntmps53
  go_wp2
  go_ret
  exact ⟨by rw [HN.out]; rfl, box_bel _ _⟩

set_option maxHeartbeats 1000000 in
set_option maxRecDepth 100000 in
theorem opsWeight_is (a : Option Addr) (os : List OpD) (n c : Nat) (w : World) (ha : RowO w a os) (hn : n = os.length) (hl : os.length * 120 ≤ 140737488355328) (tot : Int) (ht : wtO os = tot) : Calls Tryd.prog 31 #[.slice a n c] w (St.IntBel w tot) := by
  have HA := Lib.hid ha
  have HN := Lib.hid hn
  have HW0 : Hid (wtF os (os.length - 0) 0 = tot) := ht
  have HZ0 : Hid ((n : Int) = wtN os 0) := by show _ = ((os.length : Nat) : Int); rw [hn]
  have hnl : n * 120 ≤ 140737488355328 := by omega
  clear ha hn hl ht
  go_enter Tryd.func31, Tryd.ntmps31
  go_wp2
  go_loopg [3, 4] n (fun g1 v i wr => ∃ (k : Nat) (z : Int), i = .int .i64 k ∧ v = .int .i64 z ∧ k ≤ n ∧ n - k ≤ g1 ∧ Hid (z = wtN os k) ∧ Hid (wtF os (os.length - k) k = tot) ∧ Hid (Below w.heap.size w wr))
  case atStart => exact ⟨0, _, rfl, rfl, Nat.zero_le _, by omega, HZ0, HW0, Below.refl _ _⟩
  case round =>
    obtain ⟨k, z, rfl, rfl, hk, hg, HZ, HW, HI⟩ := hrel
    by_cases hin : k < n
    · have hinz : (k : Int) < (n : Int) := by omega
      have hind : decide ((k : Int) < (n : Int)) = true := decide_eq_true hinz
      by_cases hz : z < 1048576
      · have hzd : decide (z < 1048576) = true := decide_eq_true hz
        obtain ⟨x, hx⟩ : ∃ x, os[k]? = some x := ⟨_, List.getElem?_eq_getElem (by rw [← HN.out]; exact hin)⟩
        have HW1 : Hid (wtF os (os.length - (k + 1)) (k + 1) = tot) := by show _ = _; rw [← wtF_go (by rw [← HN.out]; exact hin) (by rw [← HZ.out]; exact hz)]; exact HW.out
        have HX := Lib.hid (wtN_succ hx)
        obtain ⟨b, off, rfl, da, dc, hat, -, -⟩ := (HA.out.below HI.out) k x hx
        obtain ⟨⟨t, r, ds, kd, nt, nr, pt, pr, s, p, v⟩, q⟩ := x
        simp only at hat
        obtain ⟨c0, c1, c2, c3, c4, c5, c6, c7, c8, c9, c10, c11⟩ := hat
        have C := Lib.hid (opWeight_is t r q da ds ds.length dc kd nt nr pt pr s p v wr rfl)
        clear hx
        generalize ds.length = dn at c3 C
        generalize opW (⟨t, r, ds, kd, nt, nr, pt, pr, s, p, v⟩, q) = z2 at *
        go_wp2_with fail
        refine (C.out).mono ?_
        rintro e w1 ⟨rfl, hb1⟩
        have HB1 := Lib.hid (HI.out.trans (hb1.mono HI.out.size))
        clear hb1 C c0 c1 c2 c3 c4 c5 c6 c7 c8 c9 c10 c11
        go_wp2_with fail
        go_roundg (n - (k + 1))
        case measure => omega
        case rel => exact ⟨k + 1, _, by go_num, rfl, by omega, by omega, by show _ = _; rw [HX.out, HZ.out], HW1, HB1.out⟩
      · have hzd : decide (z < 1048576) = false := decide_eq_false hz
        have HR : Hid (z = tot) := by show _ = _; rw [HZ.out, ← HW.out]; exact (wtF_stop (fun h => hz (by rw [HZ.out]; exact h.2))).symm
        go_wp2
        go_ret
        exact ⟨ret_int HR.out, HI.out⟩
    · have hinz : ¬ (k : Int) < (n : Int) := by omega
      have hind : decide ((k : Int) < (n : Int)) = false := decide_eq_false hinz
      have HR : Hid (z = tot) := by show _ = _; rw [HZ.out, ← HW.out]; exact (wtF_stop (fun h => hin (by rw [HN.out]; exact h.1))).symm
      go_wp2
      go_ret
      exact ⟨ret_int HR.out, HI.out⟩
theorem FrAt.regrown {w : World} {b o : Nat} {fr tu k : Int} {ha : Option Addr} {hn hc : Nat} {oa : Option Addr} {on oc : Nat} (h : FrAt w b o fr tu k ha hn hc oa on oc) : (∀ d os, (Go.Sort.grow (redrawn w d) os).cell? ⟨b, o, none⟩ = some (.int .i64 fr)) ∧ (∀ d os, (Go.Sort.grow (redrawn w d) os).cell? ⟨b, o + 1, none⟩ = some (.int .i64 tu)) ∧ (∀ d os, (Go.Sort.grow (redrawn w d) os).cell? ⟨b, o + 2, none⟩ = some (.int .i64 k)) ∧ (∀ d os, (Go.Sort.grow (redrawn w d) os).cell? ⟨b, o + 3, none⟩ = some (.slice ha hn hc)) ∧ (∀ d os, (Go.Sort.grow (redrawn w d) os).cell? ⟨b, o + 4, none⟩ = some (.slice oa on oc)) :=
  ⟨cell_regrown h.c0, cell_regrown h.c1, cell_regrown h.c2, cell_regrown h.c3, cell_regrown h.c4⟩
def HeavyF (nx : Nat) (w : World) (e : Ending) (w' : World) : Prop := ∃ b : Bool, e = .returned (.bool b) ∧ (b = false → nx ≤ 5000) ∧ Below w.heap.size w w'
end Go.Proofs.YtdpopdlifcjdeaaDoor

/- There and back; a frame written over. -/
namespace Go.Proofs.YtdpopdlifcjdeaaDoor
open Go.RowKit Go.Lib
set_option linter.unusedVariables false


def x0D : OpD := (⟨1, 0, [0], 1, 1, 0, 0, 0, ⟨#[107]⟩, 0, 0⟩, 1)
theorem rowO_one (w : World) (a1 : Option Addr) (hr : RowK .i64 w a1 [0]) : RowO (w.alloc (.cells #[.int .i64 1, .int .i64 0, .int .i64 1, .slice a1 1 1, .int .i64 1, .int .i64 1, .int .i64 0, .int .i64 0, .int .i64 0, .string ⟨#[107]⟩, .int .i64 0, .int .i64 0] 32)) (some ⟨w.heap.size, 0, none⟩) [x0D] := fun i x hi => by
  match i, hi with
  | 0, hi =>
    simp only [List.getElem?_cons_zero, Option.some.injEq] at hi
    subst hi
    exact ⟨w.heap.size, 0, rfl, a1, 1, OpAt.new w 1 0 1 a1 [0] 1 1 1 1 0 0 0 ⟨#[107]⟩ 0 0, hr.alloc _, by decide⟩
  | i + 1, hi => simp at hi
theorem x0_ok : x0D.ok = true := ok0
theorem f0_ok : frB 0 1 2 [] [x0D] = true := by
  have h : batB [x0D] = true := by unfold batB; simp [x0_ok]
  simp [frB, repB, fkB, h]
theorem f0_prs : prsF (byF 0 1 2 [] [x0D]) = (⟨0, 1, 2, [], [x0D]⟩, 0) := prsF_by (F := ⟨0, 1, 2, [], [x0D]⟩) f0_ok
end Go.Proofs.YtdpopdlifcjdeaaDoor

/- A list of asks opened, with the bound on lengths: frames. -/
namespace Go.Proofs.YtdpopdlifcjdeaaDoor
open Go.ChangeShapes Go.WideShapes Go.ChangeAt Go.RowKit Go.Deep Go.Lib
set_option linter.unusedVariables false


theorem list_of {α : Type} {P : Nat → α → Prop} : ∀ n : Nat, (∀ i, i < n → ∃ x, P i x) → ∃ l : List α, l.length = n ∧ ∀ i x, l[i]? = some x → P i x
  | 0, _ => ⟨[], rfl, fun i x h => by simp at h⟩
  | n + 1, h => by
    obtain ⟨l, hl, hp⟩ := list_of n (fun i hi => h i (by omega))
    obtain ⟨y, hy⟩ := h n (by omega)
    refine ⟨l ++ [y], by simp [hl], fun i x hi => ?_⟩
    by_cases hlt : i < l.length
    · rw [List.getElem?_append_left hlt] at hi
      exact hp i x hi
    · rw [List.getElem?_append_right (by omega)] at hi
      by_cases h0 : i - l.length = 0
      · rw [h0] at hi
        simp only [List.getElem?_cons_zero, Option.some.injEq] at hi
        subst hi
        rw [show i = n by omega]
        exact hy
      · rw [List.getElem?_eq_none (by simp; omega)] at hi
        cases hi
set_option maxHeartbeats 1000000 in
set_option maxRecDepth 100000 in
theorem ops_open {H : Type} {enc : TypeId × Value → H} {w : World} {fuel : Nat} {v : Value} {x : DataW H × List MemPlace} (h : DataW.trod enc Tryd.prog w 0 (fun _ => true) true fuel 23 [v] = some x)
    (hs : ∀ n ∈ x.1.weights Tryd.prog 23, n ≤ reachBytes) : ∃ ai os ci, v = .slice ai (List.length os) ci ∧ RowO w ai os ∧ os.length ≤ ci ∧ os.length * 120 ≤ 140737488355328 := by
  have hC : Tryd.prog.cellsOf 32 = 12 := by kernel_rfl
  rcases open_slice Tryd.underlying23 h with ⟨hcs, _⟩ | ⟨ad, l, c, m, n, D, Pl, hcs, hb, hl, hm, hmm, hx, hi⟩
  · simp only [List.cons.injEq, and_true] at hcs
    subst hcs
    exact ⟨none, [], 0, rfl, RowO.nil _ _, by simp, by simp⟩
  · simp only [List.cons.injEq, and_true] at hcs
    subst hcs
    simp only [if_true] at hmm
    have hdx : x.1 = .slice ((List.range l).map D) ((List.range (m - l)).map fun j => D (l + j)) := by rw [hx]
    have hwD : ∀ i, i < l → ∀ k ∈ (D i).weights Tryd.prog 32, k ≤ reachBytes := by
      intro i hil k hk
      apply hs
      rw [hdx]
      simp only [DataW.weights, Tryd.underlying23]
      refine List.mem_cons_of_mem _ (List.mem_append.2 (Or.inl ?_))
      exact weights_mem_all (List.mem_map.2 ⟨i, List.mem_range.2 hil, rfl⟩) k hk
    have hbig : l * 120 ≤ 140737488355328 := by
      have h1 := hs ((((List.range l).map D).length + ((List.range (m - l)).map fun j => D (l + j)).length) * Tryd.prog.bytesOf 32) (by
        rw [hdx]
        simp [DataW.weights, Tryd.underlying23])
      rw [show Tryd.prog.bytesOf 32 = 120 from by kernel_rfl] at h1
      simp only [List.length_map, List.length_range, reachBytes] at h1
      have : l * 120 ≤ (l + (m - l)) * 120 := Nat.mul_le_mul_right _ (by omega)
      omega
    have hall : ∀ i, i < l → ∃ y : OpD, ∃ b off, ad = ⟨b, off, none⟩ ∧ OpIs w b (off + i * 12) y := by
      intro i hil
      obtain ⟨b, off, spot⟩ := ad
      have hspot : spot = none := by
        obtain ⟨cs0, hc0, _⟩ := hi 0 (by omega)
        rw [hC] at hc0
        obtain ⟨_, hcl0, hat0⟩ := World.cells?_some hc0
        have h1 := hat0 0 (by omega)
        rw [List.getElem?_eq_getElem (by omega)] at h1
        have h2 := World.cell?_spot h1
        simpa [Addr.add] using h2
      subst hspot
      obtain ⟨cs', hc, ht⟩ := hi i (by omega)
      rw [hC] at hc
      obtain ⟨_, hcl, hat⟩ := World.cells?_some hc
      match cs', hcl with
      | [d0, d1, d2, d3, d4, d5, d6, d7, d8, d9, d10, d11], _ =>
        obtain ⟨t, r, q, da, ds, dc, k, nt, nr, pt, pr, s, p, v, he, hr1, hc1, hl1⟩ := op_open ht (hwD i hil)
        simp only [List.cons.injEq, and_true] at he
        obtain ⟨rfl, rfl, rfl, rfl, rfl, rfl, rfl, rfl, rfl, rfl, rfl, rfl⟩ := he
        refine ⟨(⟨t, r, ds, k, nt, nr, pt, pr, s, p, v⟩, q), b, off, rfl, da, dc, ?_, hr1, hl1⟩
        have hc0 := hat 0 (by omega)
        rw [add_add, addr_add, Nat.add_zero] at hc0
        have hc1 := hat 1 (by omega)
        rw [add_add, addr_add] at hc1
        have hc2 := hat 2 (by omega)
        rw [add_add, addr_add] at hc2
        have hc3 := hat 3 (by omega)
        rw [add_add, addr_add] at hc3
        have hc4 := hat 4 (by omega)
        rw [add_add, addr_add] at hc4
        have hc5 := hat 5 (by omega)
        rw [add_add, addr_add] at hc5
        have hc6 := hat 6 (by omega)
        rw [add_add, addr_add] at hc6
        have hc7 := hat 7 (by omega)
        rw [add_add, addr_add] at hc7
        have hc8 := hat 8 (by omega)
        rw [add_add, addr_add] at hc8
        have hc9 := hat 9 (by omega)
        rw [add_add, addr_add] at hc9
        have hc10 := hat 10 (by omega)
        rw [add_add, addr_add] at hc10
        have hc11 := hat 11 (by omega)
        rw [add_add, addr_add] at hc11
        refine ⟨?_, ?_, ?_, ?_, ?_, ?_, ?_, ?_, ?_, ?_, ?_, ?_⟩
        · rw [hc0]; rfl
        · rw [Nat.add_assoc, hc1]; rfl
        · rw [Nat.add_assoc, hc2]; rfl
        · rw [Nat.add_assoc, hc3]; rfl
        · rw [Nat.add_assoc, hc4]; rfl
        · rw [Nat.add_assoc, hc5]; rfl
        · rw [Nat.add_assoc, hc6]; rfl
        · rw [Nat.add_assoc, hc7]; rfl
        · rw [Nat.add_assoc, hc8]; rfl
        · rw [Nat.add_assoc, hc9]; rfl
        · rw [Nat.add_assoc, hc10]; rfl
        · rw [Nat.add_assoc, hc11]; rfl
    obtain ⟨os, ho1, ho2⟩ := list_of l hall
    subst ho1
    refine ⟨some ad, os, c, rfl, fun i y hy => ?_, hl, hbig⟩
    obtain ⟨b, off, e, h1⟩ := ho2 i y hy
    exact ⟨b, off, by rw [e], h1⟩
/-- an ask at a place -/
structure AskF (w : World) (b o : Nat) (fr tu k : Int) (ha : Option Addr) (hn hc : Nat) (oa : Option Addr) (on oc : Nat) (ax : Option Addr) (nx cx : Nat) : Prop where
  f_ : FrAt w b o fr tu k ha hn hc oa on oc
  x_ : w.cell? ⟨b, o + 5, none⟩ = some (.slice ax nx cx)
theorem AskF.below {w w' : World} {b o B : Nat} {fr tu k : Int} {ha : Option Addr} {hn hc : Nat} {oa : Option Addr} {on oc : Nat} {ax : Option Addr} {nx cx : Nat} (h : AskF w b o fr tu k ha hn hc oa on oc ax nx cx) (hb : Below B w w') (hB : b < B) : AskF w' b o fr tu k ha hn hc oa on oc ax nx cx := ⟨h.f_.below hb hB, (hb.cell (p := ⟨b, o + 5, none⟩) hB).trans h.x_⟩
/-- what is told of an ask's bytes -/
structure AskX (w : World) (ax : Option Addr) (xs : List Int) (nx cx : Nat) : Prop where
  rx : RowK .u8 w ax xs
  xl : nx = xs.length
  xc : xs.length ≤ cx
  isB : IsB xs
theorem AskX.below {w w' : World} {ax : Option Addr} {xs : List Int} {nx cx : Nat} (h : AskX w ax xs nx cx) (hb : Below w.heap.size w w') : AskX w' ax xs nx cx := ⟨h.rx.below hb (Nat.le_refl _), h.xl, h.xc, h.isB⟩
def AsksF (w : World) (a : Option Addr) (len : Nat) : Prop :=
  ∀ i, i < len → ∃ b off fr tu k ha hs hn hc oa os on oc ax xs nx cx, a = some ⟨b, off, none⟩ ∧ AskF w b (off + i * 6) fr tu k ha hn hc oa on oc ax nx cx ∧ FrR w ha hs hn oa os on ∧ AskX w ax xs nx cx

end Go.Proofs.YtdpopdlifcjdeaaDoor
