/- Joined: M1 V1 V2 E1 E2 E3 E4 E5 E6 E7 E8 K0 K5 H10. -/
import Derived.Test.YtfhppfbmnnkikaaDoorRows
import Derived.Laws.BytesArg
import Derived.WalkKit
import Derived.WalkSpells
import Derived.WalkLawsBesides
import Derived.Lib.Hide
import Derived.IntWalk
import Derived.WalkMore
import Derived.ScopeJumps
import Derived.Maps.AppendAt
import Derived.OwnWalk
import Derived.Lib.AppendStr
import Derived.Below
import Derived.BigQuiet
import Derived.Deep.LoopGhost
import Derived.Deep.RegionHeld3
import Derived.StillTailTactics
import Derived.Deep.DeepCutAuto
import Derived.Deep.QuietTactic
import Derived.Lib.EndianBits
import Derived.Deep.CutRange
import Derived.Deep.DrawnRows

/- Numbers as bytes, mathematics alone: what is written, what is taken, and that they undo each other. -/
namespace Go.Proofs.YtfhppfbmnnkikaaDoor

/-- the bytes of a number -/
def enc (n : Nat) : List Int := if n < 128 then [(n : Int)] else ((n % 128 + 128 : Nat) : Int) :: enc (n / 128)
  termination_by n
  decreasing_by omega

theorem enc_small {n : Nat} (h : n < 128) : enc n = [(n : Int)] := by rw [enc, if_pos h]
theorem enc_big {n : Nat} (h : ¬ n < 128) : enc n = ((n % 128 + 128 : Nat) : Int) :: enc (n / 128) := by rw [enc, if_neg h]

def IsB (zs : List Int) : Prop := ∀ z ∈ zs, 0 ≤ z ∧ z < 256
theorem IsB.nil : IsB [] := fun z h => by simp at h
theorem IsB.cons {c : Int} {r : List Int} (h : IsB (c :: r)) : (0 ≤ c ∧ c < 256) ∧ IsB r := ⟨h c (by simp), fun z hz => h z (by simp [hz])⟩
theorem IsB.mk {c : Int} {r : List Int} (h : 0 ≤ c ∧ c < 256) (hr : IsB r) : IsB (c :: r) := fun z hz => by
  rcases List.mem_cons.1 hz with rfl | h'
  · exact h
  · exact hr z h'
theorem IsB.app {a b : List Int} (ha : IsB a) (hb : IsB b) : IsB (a ++ b) := fun z hz => by
  rcases List.mem_append.1 hz with h | h
  · exact ha z h
  · exact hb z h
theorem IsB.drop {a : List Int} (ha : IsB a) (k : Nat) : IsB (a.drop k) := fun z hz => ha z (List.mem_of_mem_drop hz)
theorem IsB.take {a : List Int} (ha : IsB a) (k : Nat) : IsB (a.take k) := fun z hz => ha z (List.mem_of_mem_take hz)
theorem IsB.getD {a : List Int} (ha : IsB a) {k : Nat} (hk : k < a.length) : 0 ≤ a.getD k 0 ∧ a.getD k 0 < 256 := by
  rw [List.getD_eq_getElem?_getD, List.getElem?_eq_getElem hk]; exact ha _ (List.getElem_mem hk)

theorem enc_isB (n : Nat) : IsB (enc n) := by
  induction n using Nat.strongRecOn with
  | ind n ih =>
    by_cases h : n < 128
    · rw [enc_small h]; exact IsB.mk (by omega) IsB.nil
    · rw [enc_big h]; exact IsB.mk (by omega) (ih _ (by omega))
theorem enc_len (n : Nat) : 1 ≤ (enc n).length := by
  by_cases h : n < 128
  · rw [enc_small h]; simp
  · rw [enc_big h]; simp
theorem enc_len_le (k : Nat) : ∀ n : Nat, n < 128 ^ (k + 1) → (enc n).length ≤ k + 1 := by
  induction k with
  | zero => intro n h; rw [enc_small (by simpa using h)]; simp
  | succ k ih =>
    intro n h
    by_cases h1 : n < 128
    · rw [enc_small h1]; simp
    · rw [enc_big h1, List.length_cons]
      have := ih (n / 128) (by rw [Nat.pow_succ] at h; exact Nat.div_lt_of_lt_mul (by omega))
      omega
theorem enc_len9 {n : Nat} (h : n ≤ 4611686018427387904) : (enc n).length ≤ 9 := by
  have e : (128 : Nat) ^ (8 + 1) = 9223372036854775808 := by decide
  exact enc_len_le 8 n (by omega)

/-- which number bytes begin with, how many they are, the error: from the i-th byte on, with what is there already -/
def tk (i : Nat) (acc : Int) : List Int → Int × Nat × Int
  | [] => (0, 0, 7)
  | c :: r => if 128 ≤ c then (if i = 8 then (0, 0, 1) else tk (i + 1) (acc + c % 128 * 128 ^ i) r) else if (c = 0 ∧ 0 < i) ∨ 4611686018427387904 < acc + c % 128 * 128 ^ i then (0, 0, 1) else (acc + c % 128 * 128 ^ i, i + 1, 0)
def tkN (bs : List Int) : Int × Nat × Int := tk 0 0 bs

theorem pow128 (i : Nat) : (0 : Int) < 128 ^ i := Int.pow_pos (by decide)
theorem pow128_lt {i j : Nat} (h : i ≤ j) : (128 : Int) ^ i ≤ 128 ^ j := by
  have := Nat.pow_le_pow_right (n := 128) (by decide) h
  exact_mod_cast this

theorem step_sum (acc x : Int) (i : Nat) : acc + x % 128 * 128 ^ i + x / 128 * 128 ^ (i + 1) = acc + x * 128 ^ i := by
  rw [Int.pow_succ]
  have h : x * 128 ^ i = (x / 128 * 128 + x % 128) * 128 ^ i := by rw [show x / 128 * 128 + x % 128 = x by omega]
  rw [h, Int.add_mul, Int.mul_assoc, Int.mul_comm 128]
  omega

theorem big_i {acc : Int} {m i : Nat} (h0 : 0 ≤ acc) (hm : 128 ≤ m) (h : acc + (m : Int) * 128 ^ i ≤ 4611686018427387904) : i ≤ 7 := by
  rcases Nat.lt_or_ge i 8 with h' | h'
  · omega
  · exfalso
    have h1 : (128 : Int) ^ 8 ≤ 128 ^ i := pow128_lt h'
    have h2 : (128 : Int) * 128 ^ i ≤ (m : Int) * 128 ^ i := Int.mul_le_mul_of_nonneg_right (by omega) (Int.le_of_lt (pow128 i))
    have h3 : (128 : Int) ^ 8 = 72057594037927936 := by decide
    omega

theorem enc_cons (m : Nat) : ∃ r, enc m = (if m < 128 then (m : Int) else ((m % 128 + 128 : Nat) : Int)) :: r ∧ (m < 128 → r = []) ∧ (¬ m < 128 → r = enc (m / 128)) := by
  by_cases h : m < 128
  · exact ⟨[], by rw [enc_small h, if_pos h], fun _ => rfl, fun h' => absurd h h'⟩
  · exact ⟨enc (m / 128), by rw [enc_big h, if_neg h], fun h' => absurd h' h, fun _ => rfl⟩

theorem tk_enc (m : Nat) : ∀ (i : Nat) (acc : Int) (x : List Int), 0 ≤ acc → (i = 0 ∨ 0 < m) → acc + (m : Int) * 128 ^ i ≤ 4611686018427387904 → tk i acc (enc m ++ x) = (acc + (m : Int) * 128 ^ i, i + (enc m).length, 0) := by
  induction m using Nat.strongRecOn with
  | ind m ih =>
    intro i acc x h0 hi hle
    by_cases h : m < 128
    · rw [enc_small h, List.singleton_append, tk, if_neg (by omega), show (m : Int) % 128 = m by omega, if_neg (by omega)]
      rfl
    · have h7 := big_i h0 (by omega) hle
      have e2 : (((m % 128 + 128 : Nat) : Int)) % 128 = (m : Int) % 128 := by omega
      have hs := step_sum acc m i
      have hp : 0 ≤ (m : Int) % 128 * 128 ^ i := Int.mul_nonneg (by omega) (Int.le_of_lt (pow128 i))
      have e3 : ((m / 128 : Nat) : Int) = (m : Int) / 128 := by omega
      rw [enc_big h, List.cons_append, tk, if_pos (by omega), if_neg (by omega), e2, ih (m / 128) (by omega) (i + 1) _ x (by omega) (.inr (by omega)) (by rw [e3]; omega), e3, hs, List.length_cons]
      simp only [Prod.mk.injEq, true_and, and_true]
      omega

theorem tk_cut (m : Nat) : ∀ (i j : Nat) (acc : Int), 0 ≤ acc → acc + (m : Int) * 128 ^ i ≤ 4611686018427387904 → j < (enc m).length → tk i acc ((enc m).take j) = (0, 0, 7) := by
  induction m using Nat.strongRecOn with
  | ind m ih =>
    intro i j acc h0 hle hj
    rcases Nat.eq_zero_or_pos j with rfl | hjp
    · rw [List.take_zero, tk]
    · by_cases h : m < 128
      · rw [enc_small h] at hj; simp at hj; omega
      · have h7 := big_i h0 (by omega) hle
        have e2 : (((m % 128 + 128 : Nat) : Int)) % 128 = (m : Int) % 128 := by omega
        have hs := step_sum acc m i
        have hp : 0 ≤ (m : Int) % 128 * 128 ^ i := Int.mul_nonneg (by omega) (Int.le_of_lt (pow128 i))
        have e3 : ((m / 128 : Nat) : Int) = (m : Int) / 128 := by omega
        obtain ⟨j', rfl⟩ : ∃ j', j = j' + 1 := ⟨j - 1, by omega⟩
        rw [enc_big h] at hj ⊢
        rw [List.take_succ_cons, tk, if_pos (by omega), if_neg (by omega), e2]
        exact ih (m / 128) (by omega) (i + 1) j' _ (by omega) (by rw [e3]; omega) (by rw [List.length_cons] at hj; omega)

theorem tk_back (bs : List Int) : ∀ (i : Nat) (acc : Int), IsB bs → 0 ≤ acc → (tk i acc bs).2.2 = 0 → ∃ m : Nat, (tk i acc bs).1 = acc + (m : Int) * 128 ^ i ∧ (tk i acc bs).1 ≤ 4611686018427387904 ∧ i < (tk i acc bs).2.1 ∧ (tk i acc bs).2.1 ≤ i + bs.length ∧ enc m = bs.take ((tk i acc bs).2.1 - i) ∧ (0 < i → 0 < m) := by
  induction bs with
  | nil => intro i acc _ _ h; simp [tk] at h
  | cons c r ih =>
    intro i acc hb h0 he
    obtain ⟨⟨c0, c1⟩, hr⟩ := hb.cons
    rw [tk] at he ⊢
    by_cases h : 128 ≤ c
    · rw [if_pos h] at he ⊢
      by_cases h8 : i = 8
      · rw [if_pos h8] at he; simp at he
      · rw [if_neg h8] at he ⊢
        have hp : 0 ≤ c % 128 * 128 ^ i := Int.mul_nonneg (by omega) (Int.le_of_lt (pow128 i))
        obtain ⟨m, h1, h2, h3, h4, h5, h6⟩ := ih (i + 1) _ hr (by omega) he
        have hm := h6 (by omega)
        refine ⟨(c % 128).toNat + 128 * m, ?_, h2, by omega, by rw [List.length_cons]; omega, ?_, fun _ => by omega⟩
        · rw [h1, Int.pow_succ, show (((c % 128).toNat + 128 * m : Nat) : Int) = c % 128 + 128 * (m : Int) by omega, Int.add_mul, show (m : Int) * (128 ^ i * 128) = 128 * (m : Int) * 128 ^ i by rw [← Int.mul_assoc, Int.mul_comm 128, Int.mul_right_comm]]
          omega
        · obtain ⟨k, hk⟩ : ∃ k, (tk (i + 1) (acc + c % 128 * 128 ^ i) r).2.1 - i = k + 1 := ⟨(tk (i + 1) (acc + c % 128 * 128 ^ i) r).2.1 - i - 1, by omega⟩
          have hk' : (tk (i + 1) (acc + c % 128 * 128 ^ i) r).2.1 - (i + 1) = k := by omega
          rw [hk, List.take_succ_cons, enc_big (by omega), show ((c % 128).toNat + 128 * m) / 128 = m by omega, h5, hk']
          congr 1
          omega
    · rw [if_neg h] at he ⊢
      split at he
      · simp at he
      · rename_i hn
        rw [if_neg hn]
        refine ⟨c.toNat, ?_, ?_, by simp, by simp, ?_, fun hi => by omega⟩
        · simp only
          rw [show c % 128 = c by omega, show ((c.toNat : Nat) : Int) = c by omega]
        · simp only; omega
        · rw [enc_small (by omega)]
          simp
          omega

/-- of an error nothing else is told -/
theorem tk_err (bs : List Int) : ∀ (i : Nat) (acc : Int), ((tk i acc bs).2.2 = 0 ∨ (tk i acc bs).2.2 = 1 ∨ (tk i acc bs).2.2 = 7) ∧ ((tk i acc bs).2.2 ≠ 0 → (tk i acc bs).1 = 0 ∧ (tk i acc bs).2.1 = 0) := by
  induction bs with
  | nil => intro i acc; simp [tk]
  | cons c r ih =>
    intro i acc
    rw [tk]
    split
    · split
      · simp
      · exact ih _ _
    · split <;> simp

theorem tkN_enc {n : Nat} (h : n ≤ 4611686018427387904) (x : List Int) : tkN (enc n ++ x) = ((n : Int), (enc n).length, 0) := by
  have := tk_enc n 0 0 x (by omega) (.inl rfl) (by omega)
  rw [tkN, this]
  simp
theorem tkN_cut {n : Nat} (h : n ≤ 4611686018427387904) {j : Nat} (hj : j < (enc n).length) : tkN ((enc n).take j) = (0, 0, 7) := tk_cut n 0 j 0 (by omega) (by omega) hj
theorem tkN_back {bs : List Int} (hb : IsB bs) (h : (tkN bs).2.2 = 0) : 0 ≤ (tkN bs).1 ∧ (tkN bs).1 ≤ 4611686018427387904 ∧ 0 < (tkN bs).2.1 ∧ (tkN bs).2.1 ≤ bs.length ∧ enc (tkN bs).1.toNat = bs.take (tkN bs).2.1 := by
  obtain ⟨m, h1, h2, h3, h4, h5, _⟩ := tk_back bs 0 0 hb (by omega) h
  unfold tkN at *
  refine ⟨by rw [h1]; omega, h2, h3, by omega, ?_⟩
  rw [h1]
  simp only [Int.pow_zero, Int.mul_one, Int.zero_add, Int.toNat_natCast, Nat.sub_zero] at h5 ⊢
  exact h5
theorem tkN_err (bs : List Int) : ((tkN bs).2.2 = 0 ∨ (tkN bs).2.2 = 1 ∨ (tkN bs).2.2 = 7) ∧ ((tkN bs).2.2 ≠ 0 → (tkN bs).1 = 0 ∧ (tkN bs).2.1 = 0) := tk_err bs 0 0

/-- texts -/
def strN (s : ByteArray) : List Int := s.data.toList.map fun b => (b.toNat : Int)
theorem strN_len (s : ByteArray) : (strN s).length = s.size := by simp [strN]
theorem strN_isB (s : ByteArray) : IsB (strN s) := fun z hz => by
  simp only [strN, List.mem_map] at hz
  obtain ⟨b, _, rfl⟩ := hz
  have := b.toNat_lt
  omega
theorem strOf_strN (s : ByteArray) : strOfNums (strN s) = s := by
  apply ByteArray.ext
  apply Array.toList_inj.1
  rw [strOfNums_data, strN, List.map_map]
  conv => rhs; rw [← List.map_id s.data.toList]
  apply List.map_congr_left
  intro b _
  simp

def tkS (bs : List Int) : ByteArray × Nat × Int :=
  if (tkN bs).2.2 ≠ 0 then (⟨#[]⟩, 0, (tkN bs).2.2) else if 65536 < (tkN bs).1 then (⟨#[]⟩, 0, 1) else if (bs.length : Int) - (tkN bs).2.1 < (tkN bs).1 then (⟨#[]⟩, 0, 7)
  else (strOfNums ((bs.drop (tkN bs).2.1).take (tkN bs).1.toNat), (tkN bs).2.1 + (tkN bs).1.toNat, 0)

theorem tkS_enc (s : ByteArray) (h : s.size ≤ 65536) (x : List Int) : tkS (enc s.size ++ strN s ++ x) = (s, (enc s.size ++ strN s).length, 0) := by
  have e := tkN_enc (n := s.size) (by omega) (strN s ++ x)
  unfold tkS
  rw [List.append_assoc, e]
  simp only
  rw [if_neg (by simp), if_neg (by omega), if_neg (by rw [List.length_append, List.length_append, strN_len]; omega)]
  rw [List.drop_left, Int.toNat_natCast, List.take_left' (strN_len s), strOf_strN, List.length_append, strN_len]
theorem tkS_cut (s : ByteArray) (h : s.size ≤ 65536) {j : Nat} (hj : j < (enc s.size ++ strN s).length) : tkS ((enc s.size ++ strN s).take j) = (⟨#[]⟩, 0, 7) := by
  rw [List.length_append, strN_len] at hj
  by_cases hc : j < (enc s.size).length
  · rw [List.take_append_of_le_length (by omega)]
    unfold tkS
    rw [tkN_cut (by omega) hc]
    simp
  · have e : (enc s.size ++ strN s).take j = enc s.size ++ (strN s).take (j - (enc s.size).length) := by
      rw [List.take_append, List.take_of_length_le (by omega)]
    have e2 := tkN_enc (n := s.size) (by omega) ((strN s).take (j - (enc s.size).length))
    unfold tkS
    rw [e, e2]
    simp only
    rw [if_neg (by simp), if_neg (by omega), if_pos (by rw [List.length_append, List.length_take, strN_len]; omega)]

/-- rows of numbers -/
def tkL (bs : List Int) : Nat → Nat → List Int → List Int × Nat × Int
  | 0, p, l => (l, p, 0)
  | c + 1, p, l => if (tkN (bs.drop p)).2.2 ≠ 0 then ([], 0, (tkN (bs.drop p)).2.2) else tkL bs c (p + (tkN (bs.drop p)).2.1) (l ++ [(tkN (bs.drop p)).1])
def tkNs (bs : List Int) : List Int × Nat × Int :=
  if (tkN bs).2.2 ≠ 0 then ([], 0, (tkN bs).2.2) else if 1024 < (tkN bs).1 then ([], 0, 1) else tkL bs (tkN bs).1.toNat (tkN bs).2.1 []

def numB (z : Int) : Bool := decide (0 ≤ z ∧ z ≤ 4611686018427387904)
def encs (l : List Int) : List Int := l.flatMap fun z => enc z.toNat
def encL (l : List Int) : List Int := enc l.length ++ encs l
theorem encs_isB (l : List Int) : IsB (encs l) := fun z hz => by
  obtain ⟨y, _, h⟩ := List.mem_flatMap.1 hz
  exact enc_isB _ z h
theorem encL_isB (l : List Int) : IsB (encL l) := (enc_isB _).app (encs_isB l)
theorem encs_cons (z : Int) (l : List Int) : encs (z :: l) = enc z.toNat ++ encs l := by simp [encs]
theorem encs_snoc (l : List Int) (z : Int) : encs (l ++ [z]) = encs l ++ enc z.toNat := by simp [encs]
theorem encs_len (l : List Int) (h : ∀ z ∈ l, numB z = true) : (encs l).length ≤ 9 * l.length := by
  induction l with
  | nil => simp [encs]
  | cons z r ih =>
    have hz := h z (by simp)
    simp only [numB, decide_eq_true_eq] at hz
    have h9 := enc_len9 (n := z.toNat) (by omega)
    have := ih fun y hy => h y (by simp [hy])
    rw [encs_cons, List.length_append, List.length_cons]
    omega

theorem tkL_enc (bs x : List Int) : ∀ (l : List Int) (p : Nat) (acc : List Int), (∀ z ∈ l, numB z = true) → bs.drop p = encs l ++ x → tkL bs l.length p acc = (acc ++ l, p + (encs l).length, 0) := by
  intro l
  induction l with
  | nil => intro p acc _ _; simp [tkL, encs]
  | cons z r ih =>
    intro p acc h hd
    have hz := h z (by simp)
    simp only [numB, decide_eq_true_eq] at hz
    rw [encs_cons, List.append_assoc] at hd
    have e := tkN_enc (n := z.toNat) (by omega) (encs r ++ x)
    rw [← hd] at e
    rw [List.length_cons, tkL, e]
    simp only
    rw [if_neg (by simp), show ((z.toNat : Nat) : Int) = z by omega, ih _ _ (fun y hy => h y (by simp [hy])) ?_]
    · rw [encs_cons]; simp [Nat.add_assoc]
    · rw [← List.drop_drop, hd, List.drop_left]
theorem tkNs_enc (l x : List Int) (h : ∀ z ∈ l, numB z = true) (hl : l.length ≤ 1024) : tkNs (encL l ++ x) = (l, (encL l).length, 0) := by
  have e := tkN_enc (n := l.length) (by omega) (encs l ++ x)
  unfold tkNs encL
  rw [List.append_assoc, e]
  simp only
  rw [if_neg (by simp), if_neg (by omega), Int.toNat_natCast, tkL_enc _ x l _ _ h (by rw [List.drop_left])]
  simp

/-- what was taken lies among the bytes -/
theorem tkL_le (bs : List Int) (hb : IsB bs) : ∀ (c p : Nat) (acc : List Int), p ≤ bs.length → (tkL bs c p acc).2.1 ≤ bs.length := by
  intro c
  induction c with
  | zero => intro p acc h; exact h
  | succ c ih =>
    intro p acc h
    rw [tkL]
    by_cases he : (tkN (bs.drop p)).2.2 = 0
    · rw [if_neg (by simp [he])]
      have := (tkN_back (hb.drop p) he).2.2.2.1
      rw [List.length_drop] at this
      exact ih _ _ (by omega)
    · rw [if_pos he]; simp

theorem tkN_k (bs : List Int) (hb : IsB bs) : (tkN bs).2.1 ≤ bs.length ∧ 0 ≤ (tkN bs).1 ∧ (tkN bs).1 ≤ 4611686018427387904 := by
  by_cases he : (tkN bs).2.2 = 0
  · have := tkN_back hb he; exact ⟨this.2.2.2.1, this.1, this.2.1⟩
  · have := (tkN_err bs).2 he; rw [this.1, this.2]; omega

theorem numsB_take (l : List Int) (k : Nat) (h : k < l.length) : (l.take (k + 1)).all numB = ((l.take k).all numB && numB (l.getD k 0)) := by
  rw [List.take_succ_eq_append_getElem h, List.all_append]
  simp [List.getD, h]
theorem numsB_no (l : List Int) (k : Nat) (h : k < l.length) (hn : numB (l.getD k 0) = false) : l.all numB = false := by
  rw [List.all_eq_false]
  refine ⟨l.getD k 0, ?_, by rw [hn]; decide⟩
  simp [List.getD, h]
theorem take_getD (l : List Int) (k : Nat) (h : k < l.length) : l.take (k + 1) = l.take k ++ [l.getD k 0] := by
  rw [List.take_succ_eq_append_getElem h]; simp [List.getD, h]
theorem drop_getD (l : List Int) (k : Nat) (h : k < l.length) : l.drop k = l.getD k 0 :: l.drop (k + 1) := by
  rw [List.drop_eq_getElem_cons h]; simp [List.getD, h]
end Go.Proofs.YtfhppfbmnnkikaaDoor

/- Words for rows of numbers of any kind: one that is read, one that the call owns, more behind it, a part of it. -/
namespace Go.Proofs.YtfhppfbmnnkikaaDoor
open Go.RowKit Go.Lib

theorem below_drewN {B : Nat} {a b : World} (h : Below B a b) (n : Nat) : Below B a (b.drewN n) := ⟨h.os, h.tape, h.output, h.size, h.block⟩

/-- a slice's elements, in a world -/
def RowK (kd : IntKind) (w : World) (a : Option Addr) (zs : List Int) : Prop :=
  ∀ i, i < zs.length → ∃ b off, a = some ⟨b, off, none⟩ ∧ w.cell? ⟨b, off + i, none⟩ = some (.int kd (zs.getD i 0))
theorem RowK.nil (kd : IntKind) (w : World) (a : Option Addr) : RowK kd w a [] := fun i hi => by simp at hi
theorem RowK.below {kd : IntKind} {w w' : World} {a : Option Addr} {zs : List Int} {B : Nat} (h : RowK kd w a zs) (hb : Below B w w') (hB : w.heap.size ≤ B) : RowK kd w' a zs := by
  intro i hi
  obtain ⟨b, off, rfl, hc⟩ := h i hi
  refine ⟨b, off, rfl, ?_⟩
  have := World.block_lt_of_cell? _ _ hc
  rw [hb.cell (p := ⟨b, off + i, none⟩) (by simp only at this ⊢; omega)]
  exact hc
theorem RowK.alloc {kd : IntKind} {w : World} {a : Option Addr} {zs : List Int} (h : RowK kd w a zs) (o : Obj) : RowK kd (w.alloc o) a zs := h.below ((Below.refl w.heap.size w).alloc (Nat.le_refl _) o) (Nat.le_refl _)
theorem RowK.drewN {kd : IntKind} {w : World} {a : Option Addr} {zs : List Int} (h : RowK kd w a zs) (n : Nat) : RowK kd (w.drewN n) a zs := h
/-- all blocks that the slice's elements lie in are below B -/
def RowLt (B : Nat) (a : Option Addr) (zs : List Int) : Prop := 0 < zs.length → ∃ b off, a = some ⟨b, off, none⟩ ∧ b < B
theorem RowK.rowLt {kd : IntKind} {w : World} {a : Option Addr} {zs : List Int} (h : RowK kd w a zs) : RowLt w.heap.size a zs := fun h0 => by
  obtain ⟨b, off, rfl, hc⟩ := h 0 h0
  exact ⟨b, off, rfl, World.block_lt_of_cell? _ _ hc⟩
theorem RowLt.mono {B B' : Nat} {a : Option Addr} {zs : List Int} (h : RowLt B a zs) (hb : B ≤ B') : RowLt B' a zs := fun h0 => by
  obtain ⟨b, off, e, hl⟩ := h h0
  exact ⟨b, off, e, by omega⟩
theorem RowK.below' {kd : IntKind} {w w' : World} {a : Option Addr} {zs : List Int} {B : Nat} (h : RowK kd w a zs) (hl : RowLt B a zs) (hb : Below B w w') : RowK kd w' a zs := by
  intro i hi
  obtain ⟨b, off, rfl, hc⟩ := h i hi
  refine ⟨b, off, rfl, ?_⟩
  obtain ⟨b', off', e, hlt⟩ := hl (by omega)
  simp only [Option.some.injEq, Addr.mk.injEq] at e
  rw [hb.cell (p := ⟨b, off + i, none⟩) (by simp only; omega)]
  exact hc

theorem addr_add (b off i : Nat) : (⟨b, off, none⟩ : Addr).add i = ⟨b, off + i, none⟩ := by unfold Addr.add; split <;> simp_all

/-- where a part of a slice begins -/
def partA (a : Option Addr) (l cap : Nat) : Option Addr := if cap = l then a else a.map (·.add l)
theorem RowK.part {kd : IntKind} {w : World} {a : Option Addr} {zs : List Int} (h : RowK kd w a zs) (l n cap : Nat) (hn : zs.length ≤ cap) : RowK kd w (partA a l cap) ((zs.drop l).take n) := by
  intro i hi
  rw [List.length_take, List.length_drop] at hi
  obtain ⟨b, off, rfl, hc⟩ := h (l + i) (by omega)
  refine ⟨b, off + l, ?_, ?_⟩
  · unfold partA
    rw [if_neg (by omega), Option.map_some, addr_add]
  · rw [Nat.add_assoc, hc]
    congr 2
    simp [List.getD, show i < n by omega]
theorem RowK.rest {kd : IntKind} {w : World} {a : Option Addr} {zs : List Int} (h : RowK kd w a zs) (l cap : Nat) (hn : zs.length ≤ cap) : RowK kd w (partA a l cap) (zs.drop l) := by
  have := h.part l zs.length cap hn
  rw [List.take_of_length_le (by rw [List.length_drop]; omega)] at this
  exact this
theorem RowK.first {kd : IntKind} {w : World} {a : Option Addr} {zs : List Int} (h : RowK kd w a zs) (n cap : Nat) (hn : zs.length ≤ cap) : RowK kd w (partA a 0 cap) (zs.take n) := by
  have := h.part 0 n cap hn
  rw [List.drop_zero] at this
  exact this

theorem Tryd.info3 : (Tryd.prog.info? 3).map (fun i => (i.zero, i.size, i.bytes)) = some (some (.int .i64 0), 1, 8) := by kernel_rfl
theorem Tryd.info5 : (Tryd.prog.info? 5).map (fun i => (i.zero, i.size, i.bytes)) = some (some (.int .u8 0), 1, 1) := by kernel_rfl
theorem size5 (w : World) : (Go.sizeOf 5).run Tryd.prog w = .ok 1 w := by
  obtain ⟨i0, hi, hz0, hz1, hz2⟩ := info_parts Tryd.info5
  simp [Go.sizeOf, typeInfo, hi, hz1]
theorem slice_lh (w : World) (a : Option Addr) (len cap l h : Nat) (zl zh : Int) (el : zl = (l : Int)) (eh : zh = (h : Int)) (h1 : l ≤ h) (h2 : h ≤ cap) :
    (Instr.slice 33 (.slice a len cap) (some (.int .i64 zl)) (some (.int .i64 zh)) none).run Tryd.prog w = .ok (.slice (partA a l cap) (h - l) (cap - l)) w := by
  subst el; subst eh
  have ht' : Tryd.prog.underlying 33 = some (.slice (Tryd.prog.elem 33)) := by simp [Program.elem, Tryd.underlying33]
  have he : Tryd.prog.elem 33 = 5 := by simp [Program.elem, Tryd.underlying33]
  rw [run_slice_lh w 33 _ _ _ ht' .i64 .i64 _ _ (by omega) (by omega) (by omega), he, size5]
  simp [Result.andThen, sliced, partA]
theorem slice_l (w : World) (a : Option Addr) (len cap l : Nat) (zl : Int) (el : zl = (l : Int)) (h1 : l ≤ len) :
    (Instr.slice 33 (.slice a len cap) (some (.int .i64 zl)) none none).run Tryd.prog w = .ok (.slice (partA a l cap) (len - l) (cap - l)) w := by
  subst el
  have ht' : Tryd.prog.underlying 33 = some (.slice (Tryd.prog.elem 33)) := by simp [Program.elem, Tryd.underlying33]
  have he : Tryd.prog.elem 33 = 5 := by simp [Program.elem, Tryd.underlying33]
  rw [run_slice_l w 33 _ _ _ ht' .i64 _ (by omega) (by omega), he, size5]
  simp [Result.andThen, sliced, partA]
theorem slice_h (w : World) (a : Option Addr) (len cap h : Nat) (zh : Int) (eh : zh = (h : Int)) (h1 : h ≤ cap) :
    (Instr.slice 33 (.slice a len cap) none (some (.int .i64 zh)) none).run Tryd.prog w = .ok (.slice (partA a 0 cap) h cap) w := by
  subst eh
  have ht' : Tryd.prog.underlying 33 = some (.slice (Tryd.prog.elem 33)) := by simp [Program.elem, Tryd.underlying33]
  have he : Tryd.prog.elem 33 = 5 := by simp [Program.elem, Tryd.underlying33]
  rw [run_slice_h w 33 _ _ _ ht' .i64 _ (by omega) (by omega), he, size5]
  simp [Result.andThen, sliced, partA]

/-- bytes as a text -/
theorem to_str (w : World) (a : Option Addr) (zs : List Int) (n cap : Nat) (hn : n = zs.length) (h : RowK .u8 w a zs) : (convert 33 9 (.slice a n cap)).run Tryd.prog w = .ok (.string (strOfNums zs)) w := by
  subst hn
  by_cases h0 : 0 < zs.length
  · obtain ⟨b, off, rfl, _⟩ := h 0 h0
    refine run_convert_bytes_arg w 33 5 Tryd.underlying33 Tryd.underlying5 b off zs.length cap zs rfl (fun i hi => ?_) 9 Tryd.underlying9
    obtain ⟨b', off', e, hc⟩ := h i hi
    simp only [Option.some.injEq, Addr.mk.injEq] at e
    obtain ⟨rfl, rfl, _⟩ := e
    exact hc
  · have hz : zs = [] := List.eq_nil_of_length_eq_zero (by omega)
    subst hz
    rw [run_convert_bytes_string w 33 9 5 a _ cap Tryd.underlying33 Tryd.underlying5 Tryd.underlying9]
    cases a with
    | none => simp [Conv.bytesToString, strOfNums]; rfl
    | some a =>
      rw [run_bytesToString w a _ cap [] (by simp [loadCells, loadCellsFrom])]
      simp [strOfNums]; rfl

/-- a row of numbers that the call has made -/
def OwnK (kd : IntKind) (e : TypeId) (w : World) (base : Nat) (v : Value) (zs : List Int) : Prop := w.ownsRow base e 1 v zs.length (zs.map (Value.int kd))

section
variable {kd : IntKind} {e : TypeId}
theorem OwnK.nil (kd : IntKind) (e : TypeId) (w : World) (base : Nat) : OwnK kd e w base (.slice none 0 0) [] := World.ownsRow_nil w base e 1
theorem OwnK.below {w w' : World} {base : Nat} {v : Value} {zs : List Int} (h : OwnK kd e w base v zs) (hb : Below w.heap.size w w') : OwnK kd e w' base v zs :=
  World.ownsRow.kept h (row := none) ⟨hb.os, hb.tape, hb.output, hb.size, fun k hk _ => hb.block k hk⟩ (by cases h : v.ownBlock <;> simp)
theorem OwnK.alloc {w : World} {base : Nat} {v : Value} {zs : List Int} (h : OwnK kd e w base v zs) (o : Obj) : OwnK kd e (w.alloc o) base v zs := World.ownsRow.alloc h o
theorem OwnK.drewN {w : World} {base : Nat} {v : Value} {zs : List Int} (h : OwnK kd e w base v zs) (n : Nat) : OwnK kd e (w.drewN n) base v zs := h
theorem OwnK.lt {w : World} {base : Nat} {v : Value} {zs : List Int} (h : OwnK kd e w base v zs) {g : Nat} (hg : v.ownBlock = some g) : base ≤ g ∧ g < w.heap.size := World.ownsRow.lt h g hg
theorem OwnK.mono {w : World} {base base' : Nat} {v : Value} {zs : List Int} (h : OwnK kd e w base v zs) (hb : base' ≤ base) : OwnK kd e w base' v zs := by
  refine ⟨h.1, ?_⟩
  rcases h.2 with hn | ⟨g, cap, cur, e, h1, h2⟩
  · exact .inl hn
  · exact .inr ⟨g, cap, cur, e, by omega, h2⟩
theorem OwnK.form {w : World} {base : Nat} {v : Value} {zs : List Int} (h : OwnK kd e w base v zs) : ∃ a cap, v = .slice a zs.length cap ∧ RowK kd w a zs ∧ zs.length ≤ cap ∧ cap ≤ 9223372036854775807 := by
  rcases h.2 with ⟨rfl, h0⟩ | ⟨g, cap, cur, rfl, hg, hh, hn, hm, hs, ht⟩
  · exact ⟨none, 0, by rw [h0], fun i hi => by omega, by omega, by omega⟩
  · have hc : ∀ i, i < zs.length → cur[i]? = some (.int kd (zs.getD i 0)) := by
      intro i hi
      have h1 : (cur.toList.take (zs.length * 1))[i]? = cur.toList[i]? := by rw [List.getElem?_take, if_pos (by omega)]
      rw [ht] at h1
      rw [← Array.getElem?_toList, ← h1, List.getElem?_map, List.getD_eq_getElem?_getD, List.getElem?_eq_getElem hi]
      rfl
    refine ⟨_, cap, rfl, fun i hi => ⟨g, 0, rfl, ?_⟩, hn, by simp only [maxLen] at hm; omega⟩
    rw [Nat.zero_add]
    simp [World.cell?, hh, hc i hi]

/-- none of the slice's elements lies in v's own row -/
def Ap (v : Value) (a : Option Addr) (zs : List Int) : Prop := 0 < zs.length → ∀ g, v.ownBlock = some g → ∃ b off, a = some ⟨b, off, none⟩ ∧ b ≠ g
theorem Ap.nil (a : Option Addr) (zs : List Int) : Ap (.slice none 0 0) a zs := fun _ g h => by simp [Value.ownBlock] at h
theorem Ap.of_lt {B : Nat} {v : Value} {a : Option Addr} {ys : List Int} (hl : RowLt B a ys) (hv : ∀ g, v.ownBlock = some g → B ≤ g) : Ap v a ys := fun h0 g hg => by
  obtain ⟨b, off, e, hb⟩ := hl h0
  exact ⟨b, off, e, by have := hv g hg; omega⟩
/-- all of the slice's elements lie from B on -/
def RowGe (B : Nat) (a : Option Addr) (zs : List Int) : Prop := 0 < zs.length → ∃ b off, a = some ⟨b, off, none⟩ ∧ B ≤ b
theorem Ap.of_ge {B : Nat} {v : Value} {a : Option Addr} {ys : List Int} (hl : RowGe B a ys) (hv : ∀ g, v.ownBlock = some g → g < B) : Ap v a ys := fun h0 g hg => by
  obtain ⟨b, off, e, hb⟩ := hl h0
  exact ⟨b, off, e, by have := hv g hg; omega⟩
theorem OwnK.rowGe {w : World} {base : Nat} {a : Option Addr} {n c : Nat} {zs : List Int} (h : OwnK kd e w base (.slice a n c) zs) : RowGe base a zs := fun h0 => by
  rcases h.2 with ⟨hv, h0'⟩ | ⟨g, cap, cur, hv, hg, _⟩
  · omega
  · simp only [Value.slice.injEq] at hv
    exact ⟨g, 0, hv.1, hg⟩

/-- what is told of the world behind more of them -/
structure Grew (kd : IntKind) (e : TypeId) (base : Nat) (W : World) (v : Value) (zs ys : List Int) (v' : Value) (w' : World) : Prop where
  own : OwnK kd e w' base v' (zs ++ ys)
  size : W.heap.size ≤ w'.heap.size
  bel : ∀ B (a : World), Below B a W → B ≤ base → B ≤ W.heap.size → Below B a w'
  oth : ∀ kd2 a2 us, RowK kd2 W a2 us → Ap v a2 us → RowK kd2 w' a2 us ∧ Ap v' a2 us

theorem grew_of {base : Nat} {W W1 : World} {v v' : Value} {zs ys : List Int} {w' : World} (hB : Below W.heap.size W W1) (hown : OwnK kd e W base v zs) (hs : W1.heap.size ≤ w'.heap.size)
    (h2 : OwnK kd e w' base v' (zs ++ ys)) (h3 : W1.grownBy w' v.ownBlock) (h5 : v'.ownBlock = v.ownBlock ∨ v'.ownBlock = some W1.heap.size) : Grew kd e base W v zs ys v' w' := by
  have hWs := hB.size
  refine ⟨h2, by omega, ?_, ?_⟩
  · intro B a0 hb hB1 hB2
    exact (hb.trans (hB.mono hB2)).grown h3 (by omega) (fun g hg => by have := (hown.lt hg).1; omega)
  · intro kd2 a2 us hr hd
    have hr1 : RowK kd2 W1 a2 us := hr.below hB (Nat.le_refl _)
    have hlt := hr.rowLt
    refine ⟨?_, ?_⟩
    · intro i hi
      obtain ⟨b, off, rfl, hc⟩ := hr1 i hi
      refine ⟨b, off, rfl, h3.cell hc ?_⟩
      intro hbv
      obtain ⟨b', off', ee, hne⟩ := hd (by omega) b hbv.symm
      simp only [Option.some.injEq, Addr.mk.injEq] at ee
      exact hne ee.1.symm
    · intro h0 g hg
      rcases h5 with h5 | h5
      · exact hd h0 g (h5.symm.trans hg)
      · obtain ⟨b, off, ee, hb⟩ := hlt h0
        rw [h5] at hg
        injection hg with hg
        exact ⟨b, off, ee, by omega⟩
end

theorem run_row {kd : IntKind} {e t ty : TypeId} {bytes : Nat} (hk : ∀ z, (Value.int kd z).oneCell' = true) (ht : Tryd.prog.underlying t = some (.slice e)) (hinfo : (Tryd.prog.info? e).map (fun i => (i.zero, i.size, i.bytes)) = some (some (.int kd 0), 1, bytes))
    (base : Nat) (W W1 : World) (v : Value) (zs ys : List Int) (a : Option Addr) (n c : Nat) (hB : Below W.heap.size W W1) (hn : n = ys.length) (hown : OwnK kd e W base v zs) (hx : RowK kd W1 a ys) (hlen : (zs.length + ys.length) * bytes ≤ 140737488355328) (hlen2 : zs.length + ys.length ≤ 140737488355328) (hbase : base ≤ W.heap.size) :
    ∃ v' w', (Builtin.append_ #[t, t] ty #[v, .slice a n c]).run Tryd.prog W1 = .ok v' w' ∧ Grew kd e base W v zs ys v' w' := by
  subst hn
  obtain ⟨i0, hi, hz0, hz1, hz2⟩ := info_parts hinfo
  have hown1 := hown.below hB
  have hWs := hB.size
  by_cases h0 : 0 < ys.length
  · obtain ⟨b, off, rfl, _⟩ := hx 0 h0
    obtain ⟨v', w', hr, h2, h3, h4, h5⟩ := run_append_own_at (P := Tryd.prog) W1 base t ty e i0 (.int kd 0) 1 bytes ht hi hz0 hz1 hz2 rfl (by decide) v zs.length (zs.map (Value.int kd)) hown1 ⟨b, off, none⟩ ys.length c (ys.map (Value.int kd)) (by simp)
      (by
        intro j u hu
        have hj : j < ys.length := by
          rcases Nat.lt_or_ge j ys.length with h | h
          · exact h
          · rw [List.getElem?_eq_none (by simpa using h)] at hu; cases hu
        obtain ⟨b', off', ee, hc⟩ := hx j hj
        simp only [Option.some.injEq, Addr.mk.injEq] at ee
        obtain ⟨rfl, rfl, _⟩ := ee
        rw [addr_add, hc, ← hu, List.getElem?_map, List.getD_eq_getElem?_getD, List.getElem?_eq_getElem hj]; rfl)
      (by intro u hu; simp only [List.mem_map] at hu; obtain ⟨z, _, rfl⟩ := hu; exact hk z) (by unfold maxLen; omega) hlen (by omega)
    refine ⟨v', w', hr, grew_of hB hown h3.size ?_ h3 h5⟩
    unfold OwnK
    rw [List.length_append, List.map_append]
    exact h2
  · have hy : ys = [] := List.eq_nil_of_length_eq_zero (by omega)
    subst hy
    have hf : ∀ (x : Option Addr), (Builtin.firstCells 1 0 (.slice x 0 c)).run Tryd.prog W1 = .ok #[] W1 := by
      intro x; cases x <;> simp [Builtin.firstCells, loadCells, loadCellsFrom]
    rcases hown1.2 with ⟨rfl, hz⟩ | ⟨g, cap, cur, rfl, hg, hh, hnc, hm, hs, htk⟩
    · refine ⟨.slice none 0 0, W1, ?_, ⟨by rw [List.append_nil]; exact hown1, hWs, fun B a0 hb h1 h2 => hb.trans (hB.mono h2), fun kd2 a2 us hr hd => ⟨hr.below hB (Nat.le_refl _), hd⟩⟩⟩
      simp [Builtin.append_, run_underlying ht, Go.sizeOf, typeInfo, hi, hz1, Builtin.lenOf, hf]
    · refine ⟨.slice (some ⟨g, 0, none⟩) zs.length cap, W1, ?_, ⟨by rw [List.append_nil]; exact hown1, hWs, fun B a0 hb h1 h2 => hb.trans (hB.mono h2), fun kd2 a2 us hr hd => ⟨hr.below hB (Nat.le_refl _), hd⟩⟩⟩
      simp [Builtin.append_, run_underlying ht, Go.sizeOf, typeInfo, hi, hz1, Builtin.lenOf, hf, hnc, storeCells]
end Go.Proofs.YtfhppfbmnnkikaaDoor

/- One more, a row more, a text more: for the walk. The small functions. -/
namespace Go.Proofs.YtfhppfbmnnkikaaDoor
open Go.RowKit Go.Lib

theorem one_row (kd : IntKind) (e : TypeId) (W : World) (z : Int) : RowK kd (W.alloc (.cells #[.int kd z] e)) (some ⟨W.heap.size, 0, none⟩) [z] := by
  intro i hi
  simp only [List.length_cons, List.length_nil] at hi
  obtain rfl : i = 0 := by omega
  exact ⟨W.heap.size, 0, rfl, by simp⟩

set_option maxHeartbeats 400000 in
theorem wpB_one {ops : Array Oper} {rest : List Oper} {o : Oper} {a : Act} {Q : Exit → Act → World → Prop} (hgd : o.guard = none) (s x : Operand)
    (ho : o.op = .call { callee := .builtin .append, args := #[s, x], argTypes := #[33, 33] }) (base : Nat) (W : World) (v : Value) (zs : List Int) (z : Int) (hs : a.eval s = v) (hown : OwnK .u8 5 W base v zs)
    (hx : a.eval x = .slice (some ⟨W.heap.size, 0, none⟩) 1 1) (hlen : zs.length + 1 ≤ 140737488355328) (hbase : base ≤ W.heap.size)
    (h : ∀ v' w', Grew .u8 5 base W v zs [z] v' w' → wpList Tryd.prog ops Q rest (a.put o.dst v') w') : wpList Tryd.prog ops Q (o :: rest) a (W.alloc (.cells #[.int .u8 z] 5)) := by
  obtain ⟨v', w', hr, hg⟩ := run_row (t := 33) (ty := o.type) (bytes := 1) (fun _ => rfl) Tryd.underlying33 Tryd.info5 base W _ v zs [z] _ 1 1 ((Below.refl W.heap.size W).alloc (Nat.le_refl _) _) rfl hown (one_row .u8 5 W z) (by simpa using hlen) (by simpa using hlen) hbase
  refine wpList_plain hgd fun _ hK => ?_
  unfold Oper.wp execOp
  simp only [ho, resolve, invoke, builtin, Sem.run_bind, Sem.run_pure, Result.andThen_ok, List.map_toArray, List.map_cons, List.map_nil, hs, hx, hr]
  exact hK _ _ (h v' w' hg)

set_option maxHeartbeats 400000 in
theorem wpI_one {ops : Array Oper} {rest : List Oper} {o : Oper} {a : Act} {Q : Exit → Act → World → Prop} (hgd : o.guard = none) (s x : Operand)
    (ho : o.op = .call { callee := .builtin .append, args := #[s, x], argTypes := #[25, 25] }) (base : Nat) (W : World) (v : Value) (zs : List Int) (z : Int) (hs : a.eval s = v) (hown : OwnK .i64 3 W base v zs)
    (hx : a.eval x = .slice (some ⟨W.heap.size, 0, none⟩) 1 1) (hlen : (zs.length + 1) * 8 ≤ 140737488355328) (hbase : base ≤ W.heap.size)
    (h : ∀ v' w', Grew .i64 3 base W v zs [z] v' w' → wpList Tryd.prog ops Q rest (a.put o.dst v') w') : wpList Tryd.prog ops Q (o :: rest) a (W.alloc (.cells #[.int .i64 z] 3)) := by
  obtain ⟨v', w', hr, hg⟩ := run_row (t := 25) (ty := o.type) (bytes := 8) (fun _ => rfl) Tryd.underlying25 Tryd.info3 base W _ v zs [z] _ 1 1 ((Below.refl W.heap.size W).alloc (Nat.le_refl _) _) rfl hown (one_row .i64 3 W z) (by simpa using hlen) (by simp; omega) hbase
  refine wpList_plain hgd fun _ hK => ?_
  unfold Oper.wp execOp
  simp only [ho, resolve, invoke, builtin, Sem.run_bind, Sem.run_pure, Result.andThen_ok, List.map_toArray, List.map_cons, List.map_nil, hs, hx, hr]
  exact hK _ _ (h v' w' hg)

set_option maxHeartbeats 400000 in
theorem wpB_row {ops : Array Oper} {rest : List Oper} {o : Oper} {a : Act} {Q : Exit → Act → World → Prop} (hgd : o.guard = none) (s x : Operand)
    (ho : o.op = .call { callee := .builtin .append, args := #[s, x], argTypes := #[33, 33] }) (base : Nat) (W : World) (v : Value) (zs ys : List Int) (ax : Option Addr) (n c : Nat) (hn : n = ys.length) (hs : a.eval s = v) (hown : OwnK .u8 5 W base v zs)
    (hx : a.eval x = .slice ax n c) (hrow : RowK .u8 W ax ys) (hlen : zs.length + ys.length ≤ 140737488355328) (hbase : base ≤ W.heap.size)
    (h : ∀ v' w', Grew .u8 5 base W v zs ys v' w' → wpList Tryd.prog ops Q rest (a.put o.dst v') w') : wpList Tryd.prog ops Q (o :: rest) a W := by
  obtain ⟨v', w', hr, hg⟩ := run_row (t := 33) (ty := o.type) (bytes := 1) (fun _ => rfl) Tryd.underlying33 Tryd.info5 base W W v zs ys ax n c (Below.refl W.heap.size W) hn hown hrow (by omega) hlen hbase
  refine wpList_plain hgd fun _ hK => ?_
  unfold Oper.wp execOp
  simp only [ho, resolve, invoke, builtin, Sem.run_bind, Sem.run_pure, Result.andThen_ok, List.map_toArray, List.map_cons, List.map_nil, hs, hx, hr]
  exact hK _ _ (h v' w' hg)

theorem strCells_strN (s : ByteArray) : strCells s = (strN s).map (Value.int .u8) := by simp [strCells, strN]

set_option maxHeartbeats 400000 in
theorem wpB_str {ops : Array Oper} {rest : List Oper} {o : Oper} {a : Act} {Q : Exit → Act → World → Prop} (hgd : o.guard = none) (s x : Operand)
    (ho : o.op = .call { callee := .builtin .append, args := #[s, x], argTypes := #[33, 9] }) (base : Nat) (W : World) (v : Value) (zs : List Int) (t : ByteArray) (hs : a.eval s = v) (hown : OwnK .u8 5 W base v zs)
    (hx : a.eval x = .string t) (hlen : zs.length + t.size ≤ 140737488355328) (hbase : base ≤ W.heap.size)
    (h : ∀ v' w', OwnK .u8 5 w' base v' (zs ++ strN t) → Below base W w' → wpList Tryd.prog ops Q rest (a.put o.dst v') w') : wpList Tryd.prog ops Q (o :: rest) a W := by
  obtain ⟨i0, hi, hz0, hz1, hz2⟩ := info_parts Tryd.info5
  obtain ⟨v', w', hr, h2, h3, _⟩ := run_append_own_string (P := Tryd.prog) W base 33 9 o.type 5 i0 Tryd.underlying33 Tryd.underlying9 hi hz0 hz1 hz2 v zs.length _ hown t (by unfold maxLen; omega) hlen hbase
  refine wpList_plain hgd fun _ hK => ?_
  unfold Oper.wp execOp
  simp only [ho, resolve, invoke, builtin, Sem.run_bind, Sem.run_pure, Result.andThen_ok, List.map_toArray, List.map_cons, List.map_nil, hs, hx, hr]
  refine hK _ _ (h v' w' ?_ ((Below.refl base W).grown h3 hbase (fun g hg => (hown.lt hg).1)))
  unfold OwnK
  rw [List.length_append, List.map_append, strN_len, ← strCells_strN]
  exact h2

theorem ret_int {k : IntKind} {a b : Int} (h : a = b) : Ending.returned (.int k a) = .returned (.int k b) := by rw [h]
theorem ret_bool {a b : Bool} (h : a = b) : Ending.returned (.bool a) = .returned (.bool b) := by rw [h]

theorem numB_no {z : Int} (h : numB z = false) : z < 0 ∨ 4611686018427387904 < z := by simp [numB] at h; omega

set_option maxHeartbeats 400000 in
theorem isNum_any (z : Int) (w : World) : Calls Tryd.prog 94 #[.int .i64 z] w fun e w' => e = .returned (.bool (numB z)) ∧ w = w' := by
  by_cases g1 : 0 ≤ z
  · by_cases g2 : z ≤ 4611686018427387904
    · have hc : numB z = true := by simp [numB]; omega
      rw [hc]
      clear hc
      go_enter Tryd.func94, Tryd.ntmps94
      go_wp2
      go_ret
      exact ⟨rfl, rfl⟩
    · have hc : numB z = false := by simp [numB]; omega
      rw [hc]
      clear hc
      go_enter Tryd.func94, Tryd.ntmps94
      go_wp2
      go_ret
      exact ⟨rfl, rfl⟩
  · have hc : numB z = false := by simp [numB]; omega
    rw [hc]
    clear hc
    go_enter Tryd.func94, Tryd.ntmps94
    go_wp2
    go_ret
    exact ⟨rfl, rfl⟩

def needB (g k : Int) : Bool := decide (g = 0 ∧ 1 < k)
set_option maxHeartbeats 400000 in
theorem needless_any (g k : Int) (w : World) : Calls Tryd.prog 103 #[.int .i64 g, .int .i64 k] w fun e w' => e = .returned (.bool (needB g k)) ∧ w = w' := by
  by_cases g1 : g = 0
  · by_cases g2 : 1 < k
    · have hc : needB g k = true := by simp [needB]; omega
      rw [hc]
      clear hc
      subst g1
      go_enter Tryd.func103, Tryd.ntmps103
      go_wp2
      go_ret
      exact ⟨rfl, rfl⟩
    · have hc : needB g k = false := by simp [needB]; omega
      rw [hc]
      clear hc
      subst g1
      go_enter Tryd.func103, Tryd.ntmps103
      go_wp2
      go_ret
      exact ⟨rfl, rfl⟩
  · have hc : needB g k = false := by simp [needB]; omega
    rw [hc]
    clear hc
    go_enter Tryd.func103, Tryd.ntmps103
    go_wp2
    go_ret
    exact ⟨rfl, rfl⟩

def modW (z : Int) : Int := z % 4611686018427387904
end Go.Proofs.YtfhppfbmnnkikaaDoor

/- The bytes of a number, put behind others. -/
namespace Go.Proofs.YtfhppfbmnnkikaaDoor
open Go.RowKit Go.Lib
set_option linter.unusedVariables false

def AppPost (base : Nat) (w : World) (zs : List Int) (e : Ending) (w' : World) : Prop := ∃ v', e = .returned v' ∧ OwnK .u8 5 w' base v' zs ∧ Below base w w'
def AppI (base : Nat) (w : World) (all : List Int) (v : Value) (m : Nat) (w' : World) : Prop := ∃ cur, OwnK .u8 5 w' base v cur ∧ cur ++ enc m = all ∧ Below base w w' ∧ base ≤ w'.heap.size
def AppJ (base : Nat) (w : World) (all : List Int) (a' : Act) (w' : World) : Prop :=
  ∃ (v : Value) (m : Nat) (z : Int) (u2 u3 u4 u5 u6 u7 u8 u9 u10 u11 u12 u13 u14 u15 u16 u17 u18 u19 u20 : Value), a' = { tmps := #[v, .int .i64 z, u2, u3, u4, u5, u6, u7, u8, u9, u10, u11, u12, u13, u14, u15, u16, u17, u18, u19, u20], defers := [] } ∧ z = (m : Int) ∧ m ≤ 4611686018427387904 ∧ AppI base w all v m w'

theorem app_last {base : Nat} {w w2 w' : World} {all cur : List Int} {v v' : Value} {m : Nat} {z : Int} (hm : m < 128) (hz : z = (m : Int)) (he : cur ++ enc m = all) (hb : Below base w w2) (hs : base ≤ w2.heap.size) (h : Grew .u8 5 base w2 v cur [z] v' w') : AppPost base w all (.returned v') w' := by
  refine ⟨v', rfl, ?_, h.bel base w hb (Nat.le_refl _) hs⟩
  have := h.own
  rw [hz, ← enc_small hm, he] at this
  exact this
theorem app_next {base : Nat} {w w2 w' : World} {all cur : List Int} {v v' : Value} {m : Nat} {z : Int} (hm : ¬ m < 128) (hz : z = ((m % 128 + 128 : Nat) : Int)) (he : cur ++ enc m = all) (hb : Below base w w2) (hs : base ≤ w2.heap.size) (h : Grew .u8 5 base w2 v cur [z] v' w') : AppI base w all v' (m / 128) w' := by
  refine ⟨cur ++ [z], h.own, ?_, h.bel base w hb (Nat.le_refl _) hs, Nat.le_trans hs h.size⟩
  rw [hz, ← he, enc_big hm, List.append_assoc]
  rfl
theorem app_len {all cur : List Int} {m k : Nat} (he : cur ++ enc m = all) (hl : all.length ≤ k) : cur.length + 1 ≤ k := by
  have h1 := enc_len m
  have h2 := congrArg List.length he
  rw [List.length_append] at h2
  omega

set_option maxHeartbeats 1000000 in
set_option maxRecDepth 100000 in
theorem appendNum_any (base : Nat) (v : Value) (zs : List Int) (n : Nat) (w : World) (hv : OwnK .u8 5 w base v zs) (hbase : base ≤ w.heap.size) (hn : n ≤ 4611686018427387904) (hl : (zs ++ enc n).length ≤ 140737488355328) :
    Calls Tryd.prog 95 #[v, .int .i64 (n : Int)] w (AppPost base w (zs ++ enc n)) := by
  have HI : Hid (AppI base w (zs ++ enc n) v n w) := ⟨zs, hv, rfl, Below.refl _ _, hbase⟩
  have HL := Lib.hid hl
  clear hv hl hbase
  generalize zs ++ enc n = all at *
  go_enter Tryd.func95, Tryd.ntmps95
  go_wp2
  refine wp_scope_jumps 0 (AppJ base w all) (fun a' _ => (intOf (a'.tmps.getD 1 undef)).toNat) rfl ?_ ?_
  · obtain ⟨cur, h1, h2, h3, h4⟩ := HI.out
    by_cases hm : n < 128
    · have hmz : (n : Int) < 128 := by omega
      have HP := Lib.hid (show ∀ v2 w3, Grew .u8 5 base w v cur [(n : Int)] v2 w3 → AppPost base w all (.returned v2) w3 from fun v2 w3 h => app_last hm rfl h2 h3 h4 h)
      go_wp2
      go_step3
      go_wp2_with (at_builtin
                   refine wpB_one rfl _ _ rfl base w v cur _ rfl h1 rfl (app_len h2 HL.out) h4 ?_
                   intro v1 w2 hp1
                   have HQ := Lib.hid (HP.out v1 w2 hp1)
                   clear hp1)
      simp only [Exit.jump]
      go_ret
      exact HQ.out
    · have hmz : ¬ (n : Int) < 128 := by omega
      have hmo : (((n : Nat) : Int)).tmod 128 = (n : Int) % 128 := Int.tmod_eq_emod_of_nonneg (by omega)
      have HP := Lib.hid (show ∀ v2 w3 z, z = (n : Int) % 128 + 128 → Grew .u8 5 base w v cur [z] v2 w3 → AppI base w all v2 (n / 128) w3 from fun v2 w3 z hz h => app_next hm (by omega) h2 h3 h4 h)
      go_wp2
      go_step3
      go_wp2_with (at_builtin
                   refine wpB_one rfl _ _ rfl base w v cur _ rfl h1 rfl (app_len h2 HL.out) h4 ?_
                   intro v1 w2 hp1
                   have HQ := Lib.hid (HP.out v1 w2 _ (by first | rfl | omega) hp1)
                   clear hp1)
      go_step3
      exact ⟨rfl, v1, n / 128, _, _, _, _, _, _, _, _, _, _, _, _, _, _, _, _, _, _, _, _, rfl, by omega, by omega, HQ.out⟩
  · rintro a' w' ⟨v, m, z, u2, u3, u4, u5, u6, u7, u8, u9, u10, u11, u12, u13, u14, u15, u16, u17, u18, u19, u20, rfl, rfl, hm62, hI⟩
    have HI := Lib.hid hI
    clear hI
    obtain ⟨cur, h1, h2, h3, h4⟩ := HI.out
    by_cases hm : m < 128
    · have hmz : (m : Int) < 128 := by omega
      have HP := Lib.hid (show ∀ v2 w3, Grew .u8 5 base w' v cur [(m : Int)] v2 w3 → AppPost base w all (.returned v2) w3 from fun v2 w3 h => app_last hm rfl h2 h3 h4 h)
      go_wp2_with (at_builtin
                   refine wpB_one rfl _ _ rfl base w' v cur _ rfl h1 rfl (app_len h2 HL.out) h4 ?_
                   intro v1 w2 hp1
                   have HQ := Lib.hid (HP.out v1 w2 hp1)
                   clear hp1)
      simp only [Exit.jump]
      go_ret
      exact HQ.out
    · have hmz : ¬ (m : Int) < 128 := by omega
      have hmo : (((m : Nat) : Int)).tmod 128 = (m : Int) % 128 := Int.tmod_eq_emod_of_nonneg (by omega)
      have HP := Lib.hid (show ∀ v2 w3 z, z = (m : Int) % 128 + 128 → Grew .u8 5 base w' v cur [z] v2 w3 → AppI base w all v2 (m / 128) w3 from fun v2 w3 z hz h => app_next hm (by omega) h2 h3 h4 h)
      go_wp2_with (at_builtin
                   refine wpB_one rfl _ _ rfl base w' v cur _ rfl h1 rfl (app_len h2 HL.out) h4 ?_
                   intro v1 w2 hp1
                   have HQ := Lib.hid (HP.out v1 w2 _ (by first | rfl | omega) hp1)
                   clear hp1)
      go_step3
      refine ⟨rfl, ⟨v1, m / 128, _, _, _, _, _, _, _, _, _, _, _, _, _, _, _, _, _, _, _, _, rfl, by omega, by omega, HQ.out⟩, ?_⟩
      simp [intOf]
      omega
end Go.Proofs.YtfhppfbmnnkikaaDoor

/- The page's Num; the program's Num. -/
namespace Go.Proofs.YtfhppfbmnnkikaaDoor
open Go.RowKit Go.Lib
set_option linter.unusedVariables false

theorem wraps_i64 (n : Int) (h₀ : 0 ≤ n) (h₁ : n < 2 ^ 63) : IntKind.i64.wrap n = n := by rw [IntKind.wrap_i64]; omega
theorem and127 (x : Int) (h0 : 0 ≤ x) (h1 : x ≤ 4611686018427387904) : bits .and .i64 x 127 = x % 128 := bits_mask .i64 63 (by decide) wraps_i64 7 (by decide) x h0 (by omega)
theorem or128 (x : Int) (h0 : 0 ≤ x) (h1 : x < 128) : bits .or .u8 x 128 = x + 128 := by
  have h := bits_join .u8 8 (by decide) wraps_u8 7 128 x (by decide) (by decide) (by decide) h0 (by omega) (by omega)
  obtain ⟨b, rfl⟩ := Int.eq_ofNat_of_zero_le h0
  have e : (128 : Int) = ((128 : Nat) : Int) := rfl
  rw [e] at h ⊢
  rw [(bits_nat .u8 8 (by decide) wraps_u8 128 b (by decide) (by omega)).2] at h
  rw [(bits_nat .u8 8 (by decide) wraps_u8 b 128 (by omega) (by decide)).2, Nat.or_comm, h]
  omega

set_option maxHeartbeats 1000000 in
set_option maxRecDepth 100000 in
theorem refNum_any (n : Nat) (w : World) (hn : n ≤ 4611686018427387904) : Calls Tryd.prog 39 #[.int .i64 (n : Int)] w (AppPost w.heap.size w (enc n)) := by
  have HI : Hid (AppI w.heap.size w (enc n) (.slice none 0 0) n w) := ⟨[], OwnK.nil _ _ _ _, rfl, Below.refl _ _, Nat.le_refl _⟩
  have HL : Hid ((enc n).length ≤ 140737488355328) := by have := enc_len9 hn; show _ ≤ _; omega
  generalize enc n = all at *
  go_enter Tryd.func39, Tryd.ntmps39
  go_wp2
  go_loopg [0, 3] n (fun g1 i v wr => ∃ (m : Nat) (z : Int), i = .int .i64 z ∧ z = (m : Int) ∧ m ≤ g1 ∧ m ≤ 4611686018427387904 ∧ Hid (AppI w.heap.size w all v m wr))
  case atStart => exact ⟨n, _, rfl, rfl, Nat.le_refl _, hn, HI⟩
  case round =>
    obtain ⟨m, z, rfl, rfl, hg, hm62, HJ⟩ := hrel
    obtain ⟨cur, h1, h2, h3, h4⟩ := HJ.out
    by_cases hm : m < 128
    · have hmz : ¬ (127 : Int) < (m : Int) := by omega
      have HP := Lib.hid (show ∀ v2 w3, Grew .u8 5 w.heap.size wr u3 cur [(m : Int)] v2 w3 → AppPost w.heap.size w all (.returned v2) w3 from fun v2 w3 h => app_last hm rfl h2 h3 h4 h)
      go_wp2_with (at_builtin
                   refine wpB_one rfl _ _ rfl w.heap.size wr u3 cur _ rfl h1 rfl (app_len h2 HL.out) h4 ?_
                   intro v1 w2 hp1
                   have HQ := Lib.hid (HP.out v1 w2 hp1)
                   clear hp1)
      go_ret
      exact HQ.out
    · have hmz : (127 : Int) < (m : Int) := by omega
      have ha := and127 (m : Int) (by omega) (by omega)
      have ho := or128 ((m : Int) % 128) (by omega) (by omega)
      have HP := Lib.hid (show ∀ v2 w3 z, z = (m : Int) % 128 + 128 → Grew .u8 5 w.heap.size wr u3 cur [z] v2 w3 → AppI w.heap.size w all v2 (m / 128) w3 from fun v2 w3 z hz h => app_next hm (by omega) h2 h3 h4 h)
      go_wp2_with (at_builtin
                   refine wpB_one rfl _ _ rfl w.heap.size wr u3 cur _ rfl h1 rfl (app_len h2 HL.out) h4 ?_
                   intro v1 w2 hp1
                   have HQ := Lib.hid (HP.out v1 w2 _ (by first | rfl | omega) hp1)
                   clear hp1)
      go_roundg (m / 128)
      case measure => omega
      case rel => exact ⟨m / 128, _, rfl, by omega, Nat.le_refl _, by omega, HQ⟩

/-- what Num, Text, Nums tell -/
def BytesPost (w : World) (zs : List Int) (e : Ending) (w' : World) : Prop := ∃ v', e = .returned (.tuple #[v', .int .i64 0]) ∧ OwnK .u8 5 w' w.heap.size v' zs ∧ Below w.heap.size w w'

set_option maxHeartbeats 1000000 in
theorem num_yes (n : Nat) (w : World) (hn : n ≤ 4611686018427387904) : Calls Tryd.prog 72 #[.int .i64 (n : Int)] w (BytesPost w (enc n)) := by
  have hb : numB (n : Int) = true := by simp [numB]; omega
  have H1 := Lib.hid (isNum_any (n : Int) w)
  rw [hb] at H1
  have H2 := Lib.hid (appendNum_any w.heap.size (.slice none 0 0) [] n w (OwnK.nil _ _ _ _) (Nat.le_refl _) hn (by have := enc_len9 hn; simp; omega))
  clear hb
  go_enter Tryd.func72, Tryd.ntmps72
  go_wp2_with fail
  refine (H1.out).mono ?_
  rintro e w' ⟨rfl, rfl⟩
  go_wp2_with fail
  refine (H2.out).mono ?_
  rintro e w1 ⟨v1, rfl, ho, hb⟩
  have HP : Hid (BytesPost w (enc n) (.returned (.tuple #[v1, .int .i64 0])) w1) := ⟨v1, rfl, ho, hb⟩
  clear ho hb
  go_wp2
  go_ret2
  exact HP.out

set_option maxHeartbeats 1000000 in
theorem num_no (z : Int) (w : World) (hn : numB z = false) : Calls Tryd.prog 72 #[.int .i64 z] w fun e w' => e = .returned (.tuple #[.slice none 0 0, .int .i64 1]) ∧ w = w' := by
  have H1 := Lib.hid (isNum_any z w)
  rw [hn] at H1
  clear hn
  go_enter Tryd.func72, Tryd.ntmps72
  go_wp2_with fail
  refine (H1.out).mono ?_
  rintro e w' ⟨rfl, rfl⟩
  go_wp2
  go_ret2
  exact ⟨rfl, rfl⟩

set_option maxHeartbeats 1000000 in
theorem text_yes (s : ByteArray) (w : World) (hs : s.size ≤ 65536) : Calls Tryd.prog 85 #[.string s] w (BytesPost w (enc s.size ++ strN s)) := by
  have H2 := Lib.hid (appendNum_any w.heap.size (.slice none 0 0) [] s.size w (OwnK.nil _ _ _ _) (Nat.le_refl _) (by omega) (by have := enc_len9 (n := s.size) (by omega); simp; omega))
  have h9 := enc_len9 (n := s.size) (by omega)
  have hsz : ¬ (65536 : Int) < (s.size : Int) := by omega
  go_enter Tryd.func85, Tryd.ntmps85
  go_wp2_with fail
  refine (H2.out).mono ?_
  rintro e w1 ⟨v1, rfl, ho, hb⟩
  rw [List.nil_append] at ho
  have HO := Lib.hid ho
  have HB := Lib.hid hb
  have hbs := hb.size
  clear ho hb H2
  go_wp2_with (at_builtin
               refine wpB_str rfl _ _ rfl w.heap.size w1 v1 (enc s.size) s rfl HO.out rfl (by omega) (by omega) ?_
               intro v2 w2 ho2 hb2
               have HP : Hid (BytesPost w (enc s.size ++ strN s) (.returned (.tuple #[v2, .int .i64 0])) w2) := ⟨v2, rfl, ho2, HB.out.trans hb2⟩
               clear ho2 hb2)
  go_ret2
  exact HP.out

set_option maxHeartbeats 1000000 in
theorem text_no (s : ByteArray) (w : World) (hs : 65536 < s.size) : Calls Tryd.prog 85 #[.string s] w fun e w' => e = .returned (.tuple #[.slice none 0 0, .int .i64 1]) ∧ w = w' := by
  have hsz : (65536 : Int) < (s.size : Int) := by omega
  go_enter Tryd.func85, Tryd.ntmps85
  go_wp2
  go_ret2
  exact ⟨rfl, rfl⟩

set_option maxHeartbeats 1000000 in
theorem refText_any (s : ByteArray) (w : World) (hs : s.size ≤ 65536) : Calls Tryd.prog 71 #[.string s] w (AppPost w.heap.size w (enc s.size ++ strN s)) := by
  have H2 := Lib.hid (refNum_any s.size w (by omega))
  have h9 := enc_len9 (n := s.size) (by omega)
  go_enter Tryd.func71, Tryd.ntmps71
  go_wp2_with fail
  refine (H2.out).mono ?_
  rintro e w1 ⟨v1, rfl, ho, hb⟩
  have HO := Lib.hid ho
  have HB := Lib.hid hb
  have hbs := hb.size
  clear ho hb H2
  go_wp2_with (at_builtin
               refine wpB_str rfl _ _ rfl w.heap.size w1 v1 (enc s.size) s rfl HO.out rfl (by omega) (by omega) ?_
               intro v2 w2 ho2 hb2
               have HP : Hid (AppPost w.heap.size w (enc s.size ++ strN s) (.returned v2) w2) := ⟨v2, rfl, ho2, HB.out.trans hb2⟩
               clear ho2 hb2)
  go_ret
  exact HP.out
end Go.Proofs.YtfhppfbmnnkikaaDoor

/- Which number bytes begin with: the program's TakeNum. -/
namespace Go.Proofs.YtfhppfbmnnkikaaDoor
open Go.RowKit Go.Lib
set_option linter.unusedVariables false

def TakePost (bs : List Int) (w : World) (e : Ending) (w' : World) : Prop := e = .returned (.tuple #[.int .i64 (tkN bs).1, .int .i64 ((tkN bs).2.1 : Int), .int .i64 (tkN bs).2.2]) ∧ w = w'
def TakeJ (a : Option Addr) (bs : List Int) (cap : Nat) (w : World) (a' : Act) (w' : World) : Prop :=
  ∃ (i : Nat) (acc z : Int) (u1 u4 u5 u6 u7 u8 u9 u10 u11 u12 u13 u14 u15 u16 u17 u18 u19 u20 u21 u22 u23 u24 u25 u26 u27 u28 u29 u30 u31 u32 u33 u34 u35 u36 u37 u38 u39 u40 u41 u42 u43 u44 u45 u46 u47 u48 u49 : Value), a' = { tmps := #[.slice a bs.length cap, u1, .int .i64 acc, .int .i64 z, u4, u5, u6, u7, u8, u9, u10, u11, u12, u13, u14, u15, u16, u17, u18, u19, u20, u21, u22, u23, u24, u25, u26, u27, u28, u29, u30, u31, u32, u33, u34, u35, u36, u37, u38, u39, u40, u41, u42, u43, u44, u45, u46, u47, u48, u49], defers := [] } ∧ z = (i : Int) ∧ i ≤ 8 ∧ 0 ≤ acc ∧ acc < 128 ^ i ∧ i ≤ bs.length ∧ tk i acc (bs.drop i) = tkN bs ∧ w = w'

theorem tk_at (bs : List Int) (i : Nat) (acc : Int) (h : i < bs.length) : tk i acc (bs.drop i) = if 128 ≤ bs.getD i 0 then (if i = 8 then (0, 0, 1) else tk (i + 1) (acc + bs.getD i 0 % 128 * 128 ^ i) (bs.drop (i + 1))) else if (bs.getD i 0 = 0 ∧ 0 < i) ∨ 4611686018427387904 < acc + bs.getD i 0 % 128 * 128 ^ i then (0, 0, 1) else (acc + bs.getD i 0 % 128 * 128 ^ i, i + 1, 0) := by
  rw [drop_getD bs i h, tk]

theorem tk_form {bs : List Int} {w : World} {i : Nat} {s c g : Int} {R : Int × Nat × Int} (h : tkN bs = if 128 ≤ c then R else if (c = 0 ∧ 0 < i) ∨ 4611686018427387904 < s then (0, 0, 1) else (s, i + 1, 0)) (hl : c < 128) (hg : g = c) (hn : needB g ((i : Int) + 1) = true ∨ numB s = false) (h0 : 0 ≤ s) :
    TakePost bs w (.returned (.tuple #[.int .i64 0, .int .i64 0, .int .i64 1])) w := by
  rw [if_neg (by omega), if_pos ?_] at h
  · exact ⟨by rw [h]; rfl, rfl⟩
  · rcases hn with hn | hn
    · simp only [needB, decide_eq_true_eq] at hn
      exact .inl ⟨by omega, by omega⟩
    · have := numB_no hn
      exact .inr (by omega)
theorem tk_ok {bs : List Int} {w : World} {i : Nat} {s c g : Int} {R : Int × Nat × Int} (h : tkN bs = if 128 ≤ c then R else if (c = 0 ∧ 0 < i) ∨ 4611686018427387904 < s then (0, 0, 1) else (s, i + 1, 0)) (hl : c < 128) (hg : g = c) (hn : needB g ((i : Int) + 1) = false) (hb : numB s = true) :
    TakePost bs w (.returned (.tuple #[.int .i64 s, .int .i64 ((i : Int) + 1), .int .i64 0])) w := by
  simp only [needB, decide_eq_false_iff_not] at hn
  simp only [numB, decide_eq_true_eq] at hb
  rw [if_neg (by omega), if_neg (by omega)] at h
  exact ⟨by rw [h]; rfl, rfl⟩
theorem tk_more {bs : List Int} {i : Nat} {c : Int} {R S : Int × Nat × Int} (h : tkN bs = if 128 ≤ c then (if i = 8 then (0, 0, 1) else R) else S) (hl : ¬ c < 128) (h8 : ¬ i = 8) : R = tkN bs := by
  rw [if_pos (by omega), if_neg h8] at h
  exact h.symm
theorem tk_nine {bs : List Int} {w : World} {c : Int} {R S : Int × Nat × Int} (h : tkN bs = if 128 ≤ c then (if 8 = 8 then (0, 0, 1) else R) else S) (hl : ¬ c < 128) : TakePost bs w (.returned (.tuple #[.int .i64 0, .int .i64 0, .int .i64 1])) w := by
  rw [if_pos (by omega), if_pos rfl] at h
  exact ⟨by rw [h]; rfl, rfl⟩
theorem or_low (i : Nat) (acc p : Int) (ha0 : 0 ≤ acc) (ha1 : acc < 2 ^ i) (hp0 : 0 ≤ p) (hp : p % 2 ^ i = 0) (h : acc + p ≤ 9223372036854775807) : bits .or .i64 acc p = acc + p :=
  bits_join_low .i64 63 (by decide) wraps_i64 i acc p ha0 ha1 (by omega) hp0 hp (by omega)
theorem pow_128 (i : Nat) : (128 : Int) ^ i = 2 ^ (7 * i) := by rw [Int.pow_mul]; rfl
theorem or_at {i : Nat} {acc p g : Int} (hp : p = g * 128 ^ i) (hg0 : 0 ≤ g) (ha0 : 0 ≤ acc) (ha1 : acc < 128 ^ i) (h : acc + p ≤ 9223372036854775807) : bits .or .i64 acc p = acc + p := by
  refine or_low (7 * i) acc p ha0 (by rw [← pow_128]; exact ha1) (by rw [hp]; exact Int.mul_nonneg hg0 (Int.le_of_lt (pow128 i))) ?_ h
  rw [hp, ← pow_128, Int.mul_emod_left]
theorem acc_lt {i : Nat} {acc p g : Int} (hp : p = g * 128 ^ i) (hg1 : g < 128) (ha1 : acc < 128 ^ i) : acc + p < 128 ^ (i + 1) := by
  have h1 : g * 128 ^ i ≤ 127 * 128 ^ i := Int.mul_le_mul_of_nonneg_right (by omega) (Int.le_of_lt (pow128 i))
  rw [hp, Int.pow_succ]
  omega

set_option maxHeartbeats 2000000 in
set_option maxRecDepth 100000 in
theorem takeNum_any (a : Option Addr) (bs : List Int) (cap : Nat) (w : World) (hr : RowK .u8 w a bs) (hb : IsB bs) :
    Calls Tryd.prog 90 #[.slice a bs.length cap] w (TakePost bs w) := by
  have HR := Lib.hid hr
  have HB := Lib.hid hb
  clear hr hb
  go_enter Tryd.func90, Tryd.ntmps90
  go_wp2
  refine wp_scope_jumps 0 (TakeJ a bs cap w) (fun a' _ => 9 - (intOf (a'.tmps.getD 3 undef)).toNat) rfl ?_ ?_
  · have hT : tk 0 0 (bs.drop 0) = tkN bs := rfl
    by_cases hlt : 0 < bs.length
    · have hne : ¬ ((0 : Nat) : Int) = (bs.length : Int) := by omega
      have hltz : ((0 : Nat) : Int) < (bs.length : Int) := by omega
      obtain ⟨b, off, rfl, hc⟩ := HR.out 0 hlt
      rw [Nat.add_zero] at hc
      obtain ⟨c0, c1⟩ := HB.out.getD hlt
      have hst := tk_at bs 0 0 hlt
      rw [hT] at hst
      obtain ⟨c, hcc⟩ : ∃ c, c = bs.getD 0 0 := ⟨_, rfl⟩
      rw [← hcc] at hc hst c0 c1
      clear hcc hT
      have hm1 : c.tmod 128 = c % 128 := Int.tmod_eq_emod_of_nonneg c0
      obtain ⟨g, hg⟩ : ∃ g, g = c % 128 := ⟨_, rfl⟩
      have hg0 : 0 ≤ g := by omega
      have hg1 : g < 128 := by omega
      rw [← hg] at hst hm1
      have hg2 := hg.symm
      have HG := Lib.hid hg
      clear hg
      have hp : g * 128 ^ 0 = g := by omega
      rw [hp, Int.zero_add] at hst
      have ho : bits .or .i64 0 g = g := by have := or_low 0 0 g (by omega) (by omega) (by omega) (by omega) (by omega); rw [this]; omega
      clear hp
      have HST := Lib.hid hst
      clear hst
      have HNE := Lib.hid (fun W => needless_any g (1) W)
      have HIS := Lib.hid (fun W => isNum_any (g) W)
      by_cases hl : c < 128
      · have hld : decide (c < 128) = true := decide_eq_true hl
        have HGC : Hid (g = c) := by have := HG.out; show g = c; omega
        cases hnb : needB g (1)
        · cases hib : numB (g)
          · rw [hnb] at HNE; rw [hib] at HIS
            have HE := Lib.hid (tk_form (w := w) HST.out hl HGC.out (.inr hib) (by omega))
            go_wp2_with fail
            go_step3
            go_wp2_with fail
            refine (HNE.out _).mono ?_
            rintro e w' ⟨rfl, rfl⟩
            go_wp2_with fail
            refine (HIS.out _).mono ?_
            rintro e w' ⟨rfl, rfl⟩
            go_wp2
            simp only [Exit.jump]
            go_ret3
            exact HE.out
          · rw [hnb] at HNE; rw [hib] at HIS
            have HE := Lib.hid (tk_ok (w := w) HST.out hl HGC.out hnb hib)
            go_wp2_with fail
            go_step3
            go_wp2_with fail
            refine (HNE.out _).mono ?_
            rintro e w' ⟨rfl, rfl⟩
            go_wp2_with fail
            refine (HIS.out _).mono ?_
            rintro e w' ⟨rfl, rfl⟩
            go_wp2
            simp only [Exit.jump]
            go_ret3
            exact HE.out
        · rw [hnb] at HNE
          have HE := Lib.hid (tk_form (w := w) HST.out hl HGC.out (.inl hnb) (by omega))
          go_wp2_with fail
          go_step3
          go_wp2_with fail
          refine (HNE.out _).mono ?_
          rintro e w' ⟨rfl, rfl⟩
          go_wp2
          simp only [Exit.jump]
          go_ret3
          exact HE.out
      · have hld : decide (c < 128) = false := decide_eq_false hl
        have HE := Lib.hid (tk_more HST.out hl (by omega))
        go_wp2
        go_step3
        go_wp2
        go_step3
        refine ⟨rfl, 1, _, _, _, _, _, _, _, _, _, _, _, _, _, _, _, _, _, _, _, _, _, _, _, _, _, _, _, _, _, _, _, _, _, _, _, _, _, _, _, _, _, _, _, _, _, _, _, _, _, rfl, rfl, by omega, ?_, ?_, by omega, HE.out, rfl⟩
        · omega
        · simp; omega
    · have hne : ((0 : Nat) : Int) = (bs.length : Int) := by omega
      have HE : Hid (TakePost bs w (.returned (.tuple #[.int .i64 0, .int .i64 0, .int .i64 7])) w) := by
        rw [List.drop_of_length_le (by omega), tk] at hT
        exact ⟨by rw [← hT]; rfl, rfl⟩
      go_wp2
      go_step3
      go_wp2
      simp only [Exit.jump]
      go_ret3
      exact HE.out
  · rintro a' w' ⟨i, acc, z, u1, u4, u5, u6, u7, u8, u9, u10, u11, u12, u13, u14, u15, u16, u17, u18, u19, u20, u21, u22, u23, u24, u25, u26, u27, u28, u29, u30, u31, u32, u33, u34, u35, u36, u37, u38, u39, u40, u41, u42, u43, u44, u45, u46, u47, u48, u49, rfl, rfl, hi8, ha0, ha1, hil, hT, rfl⟩
    by_cases hlt : i < bs.length
    · have hne : ¬ ((i : Nat) : Int) = (bs.length : Int) := by omega
      have hltz : ((i : Nat) : Int) < (bs.length : Int) := by omega
      obtain ⟨b, off, rfl, hc⟩ := HR.out i hlt
      skip
      obtain ⟨c0, c1⟩ := HB.out.getD hlt
      have hst := tk_at bs i acc hlt
      rw [hT] at hst
      obtain ⟨c, hcc⟩ : ∃ c, c = bs.getD i 0 := ⟨_, rfl⟩
      rw [← hcc] at hc hst c0 c1
      clear hcc hT
      have hm1 : c.tmod 128 = c % 128 := Int.tmod_eq_emod_of_nonneg c0
      obtain ⟨g, hg⟩ : ∃ g, g = c % 128 := ⟨_, rfl⟩
      have hg0 : 0 ≤ g := by omega
      have hg1 : g < 128 := by omega
      rw [← hg] at hst hm1
      have hg2 := hg.symm
      have HG := Lib.hid hg
      clear hg
      obtain ⟨p, hp⟩ : ∃ p, p = g * 128 ^ i := ⟨_, rfl⟩
      rw [← hp] at hst
      have hp0 : 0 ≤ p := by rw [hp]; exact Int.mul_nonneg hg0 (Int.le_of_lt (pow128 i))
      have hp1 : acc + p < 128 ^ (i + 1) := acc_lt hp hg1 ha1
      have hp2 : (128 : Int) ^ (i + 1) ≤ 9223372036854775808 := pow128_lt (show i + 1 ≤ 9 by omega)
      have hp3 : acc + p ≤ 9223372036854775807 := by omega
      have hp4 := or_at hp hg0 ha0 ha1 hp3
      have hw0 : g * 2 ^ (7 * i) = p := by rw [hp, Int.pow_mul]; rfl
      have hw1 : g * 2 ^ (7 * (i : Int)).toNat = p := by rw [← hw0]; congr 2
      have HP1 := Lib.hid hp1
      clear hp hp1 hp2 ha1
      have HST := Lib.hid hst
      clear hst
      have HNE := Lib.hid (fun W => needless_any g ((i : Int) + 1) W)
      have HIS := Lib.hid (fun W => isNum_any (acc + p) W)
      by_cases hl : c < 128
      · have hld : decide (c < 128) = true := decide_eq_true hl
        have HGC : Hid (g = c) := by have := HG.out; show g = c; omega
        cases hnb : needB g ((i : Int) + 1)
        · cases hib : numB (acc + p)
          · rw [hnb] at HNE; rw [hib] at HIS
            have HE := Lib.hid (tk_form (w := w) HST.out hl HGC.out (.inr hib) (by omega))
            go_wp2_with fail
            refine (HNE.out _).mono ?_
            rintro e w' ⟨rfl, rfl⟩
            go_wp2_with fail
            refine (HIS.out _).mono ?_
            rintro e w' ⟨rfl, rfl⟩
            go_wp2
            simp only [Exit.jump]
            go_ret3
            exact HE.out
          · rw [hnb] at HNE; rw [hib] at HIS
            have HE := Lib.hid (tk_ok (w := w) HST.out hl HGC.out hnb hib)
            go_wp2_with fail
            refine (HNE.out _).mono ?_
            rintro e w' ⟨rfl, rfl⟩
            go_wp2_with fail
            refine (HIS.out _).mono ?_
            rintro e w' ⟨rfl, rfl⟩
            go_wp2
            simp only [Exit.jump]
            go_ret3
            exact HE.out
        · rw [hnb] at HNE
          have HE := Lib.hid (tk_form (w := w) HST.out hl HGC.out (.inl hnb) (by omega))
          go_wp2_with fail
          refine (HNE.out _).mono ?_
          rintro e w' ⟨rfl, rfl⟩
          go_wp2
          simp only [Exit.jump]
          go_ret3
          exact HE.out
      · have hld : decide (c < 128) = false := decide_eq_false hl
        by_cases h8 : i = 8
        · subst h8
          have HE := Lib.hid (tk_nine (w := w) HST.out hl)
          go_wp2
          simp only [Exit.jump]
          go_ret3
          exact HE.out
        · have HE := Lib.hid (tk_more HST.out hl h8)
          have hi9 : (i : Int) + 1 < 9 := by omega
          go_wp2
          go_step3
          refine ⟨rfl, ⟨i + 1, _, _, _, _, _, _, _, _, _, _, _, _, _, _, _, _, _, _, _, _, _, _, _, _, _, _, _, _, _, _, _, _, _, _, _, _, _, _, _, _, _, _, _, _, _, _, _, _, _, rfl, by omega, by omega, ?_, HP1.out, by omega, HE.out, rfl⟩, ?_⟩
          · omega
          · simp [intOf]
            omega
    · have hne : ((i : Nat) : Int) = (bs.length : Int) := by omega
      have HE : Hid (TakePost bs w (.returned (.tuple #[.int .i64 0, .int .i64 0, .int .i64 7])) w) := by
        rw [List.drop_of_length_le (by omega), tk] at hT
        exact ⟨by rw [← hT]; rfl, rfl⟩
      go_wp2
      simp only [Exit.jump]
      go_ret3
      exact HE.out
end Go.Proofs.YtfhppfbmnnkikaaDoor

/- Which number bytes begin with: the page's TakeNum; takeCount; texts. -/
namespace Go.Proofs.YtfhppfbmnnkikaaDoor
open Go.RowKit Go.Lib
set_option linter.unusedVariables false

theorem or_at64 {i : Nat} {acc p g : Int} (hp : p = g * 128 ^ i) (hg0 : 0 ≤ g) (ha0 : 0 ≤ acc) (ha1 : acc < 128 ^ i) (h : acc + p ≤ 9223372036854775807) : bits .or .u64 acc p = acc + p := by
  have hp0 : 0 ≤ p := by rw [hp]; exact Int.mul_nonneg hg0 (Int.le_of_lt (pow128 i))
  refine bits_join_low .u64 64 (by decide) wraps_u64 (7 * i) acc p ha0 (by rw [← pow_128]; exact ha1) (by omega) hp0 ?_ (by omega)
  rw [hp, ← pow_128, Int.mul_emod_left]
theorem and127b (x : Int) (h0 : 0 ≤ x) (h1 : x < 256) : bits .and .u8 x 127 = x % 128 := bits_mask .u8 8 (by decide) wraps_u8 7 (by decide) x h0 (by omega)

theorem tk_bad {bs : List Int} {w : World} {i : Nat} {s c : Int} {R : Int × Nat × Int} (h : tkN bs = if 128 ≤ c then R else if (c = 0 ∧ 0 < i) ∨ 4611686018427387904 < s then (0, 0, 1) else (s, i + 1, 0)) (hl : ¬ 128 ≤ c) (hn : (c = 0 ∧ 0 < i) ∨ 4611686018427387904 < s) :
    TakePost bs w (.returned (.tuple #[.int .i64 0, .int .i64 0, .int .i64 1])) w := by
  rw [if_neg hl, if_pos hn] at h
  exact ⟨by rw [h]; rfl, rfl⟩
theorem tk_good {bs : List Int} {w : World} {i : Nat} {s c : Int} {R : Int × Nat × Int} (h : tkN bs = if 128 ≤ c then R else if (c = 0 ∧ 0 < i) ∨ 4611686018427387904 < s then (0, 0, 1) else (s, i + 1, 0)) (hl : ¬ 128 ≤ c) (hn : ¬ ((c = 0 ∧ 0 < i) ∨ 4611686018427387904 < s)) :
    TakePost bs w (.returned (.tuple #[.int .i64 s, .int .i64 ((i : Int) + 1), .int .i64 0])) w := by
  rw [if_neg hl, if_neg hn] at h
  exact ⟨by rw [h]; rfl, rfl⟩

set_option maxHeartbeats 2000000 in
set_option maxRecDepth 100000 in
theorem refTakeNum_any (a : Option Addr) (bs : List Int) (cap : Nat) (w : World) (hr : RowK .u8 w a bs) (hb : IsB bs) :
    Calls Tryd.prog 78 #[.slice a bs.length cap] w (TakePost bs w) := by
  have HR := Lib.hid hr
  have HB := Lib.hid hb
  clear hr hb
  go_enter Tryd.func78, Tryd.ntmps78
  go_wp2
  go_loopg [5, 6] 9 (fun g1 vn vi wr => ∃ (i : Nat) (acc z : Int), vn = .int .u64 acc ∧ vi = .int .i64 z ∧ z = (i : Int) ∧ i ≤ 8 ∧ 0 ≤ acc ∧ acc < 128 ^ i ∧ i ≤ bs.length ∧ 9 - i ≤ g1 ∧ tk i acc (bs.drop i) = tkN bs ∧ w = wr)
  case atStart => exact ⟨0, 0, _, rfl, rfl, rfl, by omega, by omega, by simp, by omega, by omega, rfl, rfl⟩
  case round =>
    obtain ⟨i, acc, z, rfl, rfl, rfl, hi8, ha0, ha1, hil, hg1, hT, rfl⟩ := hrel
    by_cases hlt : i < bs.length
    · have hne : ¬ (bs.length : Int) ≤ (i : Int) := by omega
      have hltz : (i : Int) < (bs.length : Int) := by omega
      obtain ⟨b, off, rfl, hc⟩ := HR.out i hlt
      obtain ⟨c0, c1⟩ := HB.out.getD hlt
      have hst := tk_at bs i acc hlt
      rw [hT] at hst
      obtain ⟨c, hcc⟩ : ∃ c, c = bs.getD i 0 := ⟨_, rfl⟩
      rw [← hcc] at hc hst c0 c1
      clear hcc hT
      have hm1 := and127b c c0 c1
      obtain ⟨g, hg⟩ : ∃ g, g = c % 128 := ⟨_, rfl⟩
      have hgg0 : 0 ≤ g := by omega
      have hgg1 : g < 128 := by omega
      rw [← hg] at hst hm1
      clear hg
      obtain ⟨p, hp⟩ : ∃ p, p = g * 128 ^ i := ⟨_, rfl⟩
      rw [← hp] at hst
      have hp0 : 0 ≤ p := by rw [hp]; exact Int.mul_nonneg hgg0 (Int.le_of_lt (pow128 i))
      have hp1 : acc + p < 128 ^ (i + 1) := acc_lt hp hgg1 ha1
      have hp2 : (128 : Int) ^ (i + 1) ≤ 9223372036854775808 := pow128_lt (show i + 1 ≤ 9 by omega)
      have hp3 : acc + p ≤ 9223372036854775807 := by omega
      have hp4 := or_at64 hp hgg0 ha0 ha1 hp3
      have hw0 : g * 2 ^ (7 * i) = p := by rw [hp, Int.pow_mul]; rfl
      have hw1 : g * 2 ^ (7 * (i : Int)).toNat = p := by rw [← hw0]; congr 2
      have HP1 := Lib.hid hp1
      clear hp hp1 hp2 ha1
      have HST := Lib.hid hst
      clear hst
      by_cases hl : 128 ≤ c
      · by_cases h8 : i = 8
        · subst h8
          have HE := Lib.hid (tk_nine (w := w) HST.out (by omega))
          go_wp2
          go_ret3
          exact HE.out
        · have HE := Lib.hid (tk_more HST.out (by omega) h8)
          have hi9 : ¬ (i : Int) = 8 := by omega
          go_wp2
          go_roundg (9 - (i + 1))
          case measure => omega
          case rel => exact ⟨i + 1, _, _, rfl, by go_num, by omega, by omega, by omega, HP1.out, by omega, by omega, HE.out, rfl⟩
      · by_cases hz : c = 0
        · by_cases hi0 : 0 < i
          · have hiz : decide ((0 : Int) < (i : Int)) = true := decide_eq_true (by omega)
            have hiy : (0 : Int) < (i : Int) := by omega
            have HE := Lib.hid (tk_bad (w := w) HST.out hl (.inl ⟨hz, hi0⟩))
            subst hz
            go_wp2
            go_ret3
            exact HE.out
          · have hiz : decide ((0 : Int) < (i : Int)) = false := decide_eq_false (by omega)
            have hiy : ¬ (0 : Int) < (i : Int) := by omega
            by_cases hb : 4611686018427387904 < acc + p
            · have hbd : decide (4611686018427387904 < acc + p) = true := decide_eq_true hb
              have HE := Lib.hid (tk_bad (w := w) HST.out hl (.inr hb))
              subst hz
              go_wp2
              go_ret3
              exact HE.out
            · have hbd : decide (4611686018427387904 < acc + p) = false := decide_eq_false hb
              have HE := Lib.hid (tk_good (w := w) HST.out hl (by omega))
              subst hz
              go_wp2
              go_ret3
              exact HE.out
        · have hzd : (c == 0) = false := by simp [hz]
          by_cases hb : 4611686018427387904 < acc + p
          · have hbd : decide (4611686018427387904 < acc + p) = true := decide_eq_true hb
            have HE := Lib.hid (tk_bad (w := w) HST.out hl (.inr hb))
            go_wp2
            go_ret3
            exact HE.out
          · have hbd : decide (4611686018427387904 < acc + p) = false := decide_eq_false hb
            have HE := Lib.hid (tk_good (w := w) HST.out hl (by omega))
            go_wp2
            go_ret3
            exact HE.out
    · have hne : (bs.length : Int) ≤ (i : Int) := by omega
      have HE : Hid (TakePost bs w (.returned (.tuple #[.int .i64 0, .int .i64 0, .int .i64 7])) w) := by
        rw [List.drop_of_length_le (by omega), tk] at hT
        exact ⟨by rw [← hT]; rfl, rfl⟩
      go_wp2
      go_ret3
      exact HE.out
end Go.Proofs.YtfhppfbmnnkikaaDoor

/- How many follow; texts. -/
namespace Go.Proofs.YtfhppfbmnnkikaaDoor
open Go.RowKit Go.Lib
set_option linter.unusedVariables false

/-- the number that says how many follow, at most so many -/
def tkC (bs : List Int) (m : Int) : Int × Nat × Int := if (tkN bs).2.2 ≠ 0 then (0, 0, (tkN bs).2.2) else if m < (tkN bs).1 then (0, 0, 1) else tkN bs

set_option maxHeartbeats 2000000 in
set_option maxRecDepth 100000 in
theorem takeCount_any (a : Option Addr) (bs : List Int) (cap : Nat) (m : Int) (w : World) (hr : RowK .u8 w a bs) (hb : IsB bs) :
    Calls Tryd.prog 102 #[.slice a bs.length cap, .int .i64 m] w fun e w' => e = .returned (.tuple #[.int .i64 (tkC bs m).1, .int .i64 ((tkC bs m).2.1 : Int), .int .i64 (tkC bs m).2.2]) ∧ w = w' := by
  have H := Lib.hid (takeNum_any a bs cap w hr hb)
  clear hr hb
  by_cases he : (tkN bs).2.2 = 0
  · by_cases hm : m < (tkN bs).1
    · have HE : Hid (tkC bs m = (0, 0, 1)) := by show tkC bs m = _; unfold tkC; rw [if_neg (by simp [he]), if_pos hm]
      go_enter Tryd.func102, Tryd.ntmps102
      go_wp2_with fail
      refine (H.out).mono ?_
      rintro e w' ⟨rfl, rfl⟩
      go_wp2
      go_ret3
      exact ⟨by rw [HE.out]; rfl, rfl⟩
    · have HE : Hid (tkC bs m = tkN bs) := by show tkC bs m = _; unfold tkC; rw [if_neg (by simp [he]), if_neg hm]
      have HZ := Lib.hid he
      go_enter Tryd.func102, Tryd.ntmps102
      go_wp2_with fail
      refine (H.out).mono ?_
      rintro e w' ⟨rfl, rfl⟩
      go_wp2
      go_ret3
      exact ⟨by rw [HE.out, HZ.out]; rfl, rfl⟩
  · have HE : Hid (tkC bs m = (0, 0, (tkN bs).2.2)) := by show tkC bs m = _; unfold tkC; rw [if_pos he]
    go_enter Tryd.func102, Tryd.ntmps102
    go_wp2_with fail
    refine (H.out).mono ?_
    rintro e w' ⟨rfl, rfl⟩
    go_wp2
    go_ret3
    exact ⟨by rw [HE.out]; rfl, rfl⟩

def TextPost (bs : List Int) (w : World) (e : Ending) (w' : World) : Prop := e = .returned (.tuple #[.string (tkS bs).1, .int .i64 ((tkS bs).2.1 : Int), .int .i64 (tkS bs).2.2]) ∧ w = w'

set_option maxHeartbeats 2000000 in
set_option maxRecDepth 100000 in
theorem takeText_any (a : Option Addr) (bs : List Int) (cap : Nat) (w : World) (hr : RowK .u8 w a bs) (hb : IsB bs) (hcap : bs.length ≤ cap) (hlen : bs.length ≤ 140737488355328) :
    Calls Tryd.prog 89 #[.slice a bs.length cap] w (TextPost bs w) := by
  have H := Lib.hid (takeCount_any a bs cap 65536 w hr hb)
  by_cases he : (tkN bs).2.2 = 0
  · obtain ⟨b1, b2, b3, b4, _⟩ := tkN_back hb he
    by_cases hm : 65536 < (tkN bs).1
    · have HE : Hid (tkC bs 65536 = (0, 0, 1)) := by show tkC bs 65536 = _; unfold tkC; rw [if_neg (by simp [he]), if_pos hm]
      have HT : Hid (tkS bs = (⟨#[]⟩, 0, 1)) := by show tkS bs = _; unfold tkS; rw [if_neg (by simp [he]), if_pos hm]
      clear hr hb hm he b1 b2 b3 b4
      rw [HE.out] at H
      clear HE
      go_enter Tryd.func89, Tryd.ntmps89
      go_wp2_with fail
      refine (H.out).mono ?_
      rintro e w' ⟨rfl, rfl⟩
      go_wp2
      go_ret3
      exact ⟨by rw [HT.out]; rfl, rfl⟩
    · have HE : Hid (tkC bs 65536 = tkN bs) := by show tkC bs 65536 = _; unfold tkC; rw [if_neg (by simp [he]), if_neg hm]
      rw [HE.out, he] at H
      clear HE
      obtain ⟨n, hn⟩ : ∃ n : Nat, (tkN bs).1 = (n : Int) := ⟨(tkN bs).1.toNat, by omega⟩
      obtain ⟨k, hk⟩ : ∃ k : Nat, (tkN bs).2.1 = k := ⟨_, rfl⟩
      have hTS : tkS bs = if (bs.length : Int) - (k : Int) < (n : Int) then (⟨#[]⟩, 0, 7) else (strOfNums ((bs.drop k).take n), k + n, 0) := by
        unfold tkS; rw [if_neg (by simp [he]), if_neg hm, hn, hk, Int.toNat_natCast]
      rw [hn, hk] at H
      rw [hn] at hm b1 b2
      rw [hk] at b3 b4
      clear hn hk he
      by_cases hs : (bs.length : Int) - (k : Int) < (n : Int)
      · have HT : Hid (tkS bs = (⟨#[]⟩, 0, 7)) := by show tkS bs = _; rw [hTS, if_pos hs]
        clear hr hb hTS
        go_enter Tryd.func89, Tryd.ntmps89
        go_wp2_with fail
        refine (H.out).mono ?_
        rintro e w' ⟨rfl, rfl⟩
        go_wp2
        go_ret3
        exact ⟨by rw [HT.out]; rfl, rfl⟩
      · have HT : Hid (tkS bs = (strOfNums ((bs.drop k).take n), k + n, 0)) := by show tkS bs = _; rw [hTS, if_neg hs]
        have hsl := slice_lh w a bs.length cap k (k + n) (k : Int) ((k : Int) + (n : Int)) rfl (by omega) (by omega) (by omega)
        rw [show k + n - k = n by omega] at hsl
        have hcv := to_str w (partA a k cap) ((bs.drop k).take n) n (cap - k) (by rw [List.length_take, List.length_drop]; omega) (hr.part k n cap hcap)
        clear hr hb hTS
        generalize strOfNums ((bs.drop k).take n) = S at *
        go_enter Tryd.func89, Tryd.ntmps89
        go_wp2_with fail
        refine (H.out).mono ?_
        rintro e w' ⟨rfl, rfl⟩
        go_wp2
        go_ret3
        exact ⟨by rw [HT.out]; simp, rfl⟩
  · have HE : Hid (tkC bs 65536 = (0, 0, (tkN bs).2.2)) := by show tkC bs 65536 = _; unfold tkC; rw [if_pos he]
    have HT : Hid (tkS bs = (⟨#[]⟩, 0, (tkN bs).2.2)) := by show tkS bs = _; unfold tkS; rw [if_pos he]
    clear hr hb
    rw [HE.out] at H
    clear HE
    generalize (tkN bs).2.2 = x at *
    go_enter Tryd.func89, Tryd.ntmps89
    go_wp2_with fail
    refine (H.out).mono ?_
    rintro e w' ⟨rfl, rfl⟩
    go_wp2
    go_ret3
    exact ⟨by rw [HT.out]; rfl, rfl⟩

set_option maxHeartbeats 2000000 in
set_option maxRecDepth 100000 in
theorem refTakeText_any (a : Option Addr) (bs : List Int) (cap : Nat) (w : World) (hr : RowK .u8 w a bs) (hb : IsB bs) (hcap : bs.length ≤ cap) (hlen : bs.length ≤ 140737488355328) :
    Calls Tryd.prog 81 #[.slice a bs.length cap] w (TextPost bs w) := by
  have H := Lib.hid (refTakeNum_any a bs cap w hr hb)
  unfold TakePost at H
  by_cases he : (tkN bs).2.2 = 0
  · obtain ⟨b1, b2, b3, b4, _⟩ := tkN_back hb he
    rw [he] at H
    by_cases hm : 65536 < (tkN bs).1
    · have HT : Hid (tkS bs = (⟨#[]⟩, 0, 1)) := by show tkS bs = _; unfold tkS; rw [if_neg (by simp [he]), if_pos hm]
      clear hr hb he b3 b4
      generalize (tkN bs).1 = x at *
      go_enter Tryd.func81, Tryd.ntmps81
      go_wp2_with fail
      refine (H.out).mono ?_
      rintro e w' ⟨rfl, rfl⟩
      go_wp2
      go_ret3
      exact ⟨by rw [HT.out]; rfl, rfl⟩
    · obtain ⟨n, hn⟩ : ∃ n : Nat, (tkN bs).1 = (n : Int) := ⟨(tkN bs).1.toNat, by omega⟩
      obtain ⟨k, hk⟩ : ∃ k : Nat, (tkN bs).2.1 = k := ⟨_, rfl⟩
      have hTS : tkS bs = if (bs.length : Int) - (k : Int) < (n : Int) then (⟨#[]⟩, 0, 7) else (strOfNums ((bs.drop k).take n), k + n, 0) := by
        unfold tkS; rw [if_neg (by simp [he]), if_neg hm, hn, hk, Int.toNat_natCast]
      rw [hn, hk] at H
      rw [hn] at hm b1 b2
      rw [hk] at b3 b4
      clear hn hk he
      by_cases hs : (bs.length : Int) - (k : Int) < (n : Int)
      · have HT : Hid (tkS bs = (⟨#[]⟩, 0, 7)) := by show tkS bs = _; rw [hTS, if_pos hs]
        clear hr hb hTS
        go_enter Tryd.func81, Tryd.ntmps81
        go_wp2_with fail
        refine (H.out).mono ?_
        rintro e w' ⟨rfl, rfl⟩
        go_wp2
        go_ret3
        exact ⟨by rw [HT.out]; rfl, rfl⟩
      · have HT : Hid (tkS bs = (strOfNums ((bs.drop k).take n), k + n, 0)) := by show tkS bs = _; rw [hTS, if_neg hs]
        have hsl := slice_lh w a bs.length cap k (k + n) (k : Int) ((k : Int) + (n : Int)) rfl (by omega) (by omega) (by omega)
        rw [show k + n - k = n by omega] at hsl
        have hcv := to_str w (partA a k cap) ((bs.drop k).take n) n (cap - k) (by rw [List.length_take, List.length_drop]; omega) (hr.part k n cap hcap)
        clear hr hb hTS
        generalize strOfNums ((bs.drop k).take n) = S at *
        go_enter Tryd.func81, Tryd.ntmps81
        go_wp2_with fail
        refine (H.out).mono ?_
        rintro e w' ⟨rfl, rfl⟩
        go_wp2
        go_ret3
        exact ⟨by rw [HT.out]; simp, rfl⟩
  · have HT : Hid (tkS bs = (⟨#[]⟩, 0, (tkN bs).2.2)) := by show tkS bs = _; unfold tkS; rw [if_pos he]
    clear hr hb
    generalize (tkN bs).2.2 = x at *
    go_enter Tryd.func81, Tryd.ntmps81
    go_wp2_with fail
    refine (H.out).mono ?_
    rintro e w' ⟨rfl, rfl⟩
    go_wp2
    go_ret3
    exact ⟨by rw [HT.out]; rfl, rfl⟩
end Go.Proofs.YtfhppfbmnnkikaaDoor

/- Rows of numbers as bytes. -/
namespace Go.Proofs.YtfhppfbmnnkikaaDoor
open Go.RowKit Go.Lib
set_option linter.unusedVariables false

def numsOK (l : List Int) : Bool := l.all numB && decide (l.length ≤ 1024)

theorem encL_take {l : List Int} {k : Nat} (h : k < l.length) : enc l.length ++ encs (l.take (k + 1)) = enc l.length ++ encs (l.take k) ++ enc (l.getD k 0).toNat := by
  rw [take_getD l k h, encs_snoc, List.append_assoc]
theorem encs_take_len {l : List Int} (k : Nat) (h : (l.take k).all numB = true) (hl : l.length ≤ 1024) : (enc l.length ++ encs (l.take k)).length ≤ 9225 := by
  have h1 := encs_len (l.take k) (fun z hz => (List.all_eq_true.1 h) z hz)
  have h2 := enc_len9 (n := l.length) (by omega)
  rw [List.length_append]
  rw [List.length_take] at h1
  omega

def NoPost (w : World) (e : Ending) (w' : World) : Prop := e = .returned (.tuple #[.slice none 0 0, .int .i64 1]) ∧ Below w.heap.size w w'

def NumsPost (w : World) (l : List Int) (e : Ending) (w' : World) : Prop := if numsOK l then BytesPost w (encL l) e w' else NoPost w e w'
theorem numsPost_no {w w' : World} {l : List Int} {e : Ending} (h : numsOK l = false) (hp : NoPost w e w') : NumsPost w l e w' := by unfold NumsPost; rw [h]; exact hp
theorem numsPost_yes {w w' : World} {l : List Int} {e : Ending} (h : numsOK l = true) (hp : BytesPost w (encL l) e w') : NumsPost w l e w' := by unfold NumsPost; rw [h]; exact hp

set_option maxHeartbeats 2000000 in
theorem nums_any (a : Option Addr) (l : List Int) (cap : Nat) (w : World) (hr : RowK .i64 w a l) (hl : l.length ≤ 140737488355328) :
    Calls Tryd.prog 96 #[.slice a l.length cap] w (NumsPost w l) := by
  by_cases h1024 : l.length ≤ 1024
  · have hz : ¬ (1024 : Int) < (l.length : Int) := by omega
    have HR := Lib.hid hr
    have H2 := Lib.hid (appendNum_any w.heap.size (.slice none 0 0) [] l.length w (OwnK.nil _ _ _ _) (Nat.le_refl _) (by omega) (by have := enc_len9 (n := l.length) (by omega); simp; omega))
    clear hr
    go_enter Tryd.func96, Tryd.ntmps96
    go_wp2_with fail
    refine (H2.out).mono ?_
    rintro e w1 ⟨v1, rfl, ho, hb⟩
    rw [List.nil_append] at ho
    have HO1 : Hid (OwnK .u8 5 w1 w.heap.size v1 (enc l.length ++ encs (l.take 0)) ∧ Below w.heap.size w w1) := ⟨by simpa [encs] using ho, hb⟩
    clear ho hb H2
    go_wp2
    go_loopg [4, 15] l.length (fun g1 v i wr => ∃ k : Nat, i = .int .i64 k ∧ k ≤ l.length ∧ l.length - k ≤ g1 ∧ Hid ((l.take k).all numB = true) ∧ Hid (OwnK .u8 5 wr w.heap.size v (enc l.length ++ encs (l.take k)) ∧ Below w.heap.size w wr))
    case atStart => exact ⟨0, rfl, Nat.zero_le _, by omega, rfl, HO1⟩
    case round =>
      obtain ⟨k, rfl, hk, hg1, HALL, HI⟩ := hrel
      have hsz := HI.out.2.size
      by_cases hlt : k < l.length
      · have hltz : (k : Int) < (l.length : Int) := by omega
        obtain ⟨b, off, rfl, hc0⟩ := HR.out k hlt
        have hbl := World.block_lt_of_cell? _ _ hc0
        have hc : wr.cell? ⟨b, off + k, none⟩ = some (.int .i64 (l.getD k 0)) := (HI.out.2.cell (p := ⟨b, off + k, none⟩) hbl).trans hc0
        have HN := Lib.hid (fun W => isNum_any (l.getD k 0) W)
        clear hc0
        cases hb : numB (l.getD k 0)
        · have HE : Hid (numsOK l = false) := by show numsOK l = false; unfold numsOK; rw [numsB_no l k hlt hb]; rfl
          rw [hb] at HN
          clear hb
          generalize l.getD k 0 = z at *
          go_wp2_with fail
          refine (HN.out _).mono ?_
          rintro e w' ⟨rfl, rfl⟩
          go_wp2
          go_ret2
          exact numsPost_no HE.out ⟨rfl, HI.out.2⟩
        · have hb2 : 0 ≤ l.getD k 0 ∧ l.getD k 0 ≤ 4611686018427387904 := by simpa [numB] using hb
          obtain ⟨m, hm⟩ : ∃ m : Nat, l.getD k 0 = (m : Int) := ⟨(l.getD k 0).toNat, by omega⟩
          have HALL2 : Hid ((l.take (k + 1)).all numB = true) := by show _ = true; rw [numsB_take l k hlt, HALL.out, hb]; rfl
          have hT := encL_take hlt
          rw [hm, Int.toNat_natCast] at hT
          have H3 := Lib.hid (appendNum_any w.heap.size u4 (enc l.length ++ encs (l.take k)) m wr HI.out.1 (by omega) (by omega) (by rw [← hT]; have := encs_take_len (k + 1) HALL2.out h1024; omega))
          rw [← hT] at H3
          rw [hb] at HN
          rw [hm] at hc HN
          clear hb hb2 hm hT
          go_wp2_with fail
          refine (HN.out _).mono ?_
          rintro e w' ⟨rfl, rfl⟩
          go_wp2_with fail
          refine (H3.out).mono ?_
          rintro e w2 ⟨v2, rfl, ho2, hb2⟩
          have HI2 : Hid (OwnK .u8 5 w2 w.heap.size v2 (enc l.length ++ encs (l.take (k + 1))) ∧ Below w.heap.size w w2) := ⟨ho2, HI.out.2.trans hb2⟩
          clear ho2 hb2 H3
          go_wp2
          go_roundg (l.length - (k + 1))
          case measure => omega
          case rel => exact ⟨k + 1, by go_num, by omega, by omega, HALL2, HI2⟩
      · have hltz : ¬ (k : Int) < (l.length : Int) := by omega
        have HE : Hid (numsOK l = true ∧ BytesPost w (encL l) (.returned (.tuple #[u4, .int .i64 0])) wr) := by
          have h1 := HALL.out
          have h2 := HI.out.1
          rw [List.take_of_length_le (by omega)] at h1 h2
          exact ⟨by unfold numsOK; rw [h1, decide_eq_true h1024]; rfl, u4, rfl, h2, HI.out.2⟩
        go_wp2
        go_ret2
        exact numsPost_yes HE.out.1 HE.out.2
  · have hz : (1024 : Int) < (l.length : Int) := by omega
    have HE : Hid (numsOK l = false) := by show _ = false; unfold numsOK; rw [decide_eq_false h1024, Bool.and_false]
    clear hr
    go_enter Tryd.func96, Tryd.ntmps96
    go_wp2
    go_ret2
    exact numsPost_no HE.out ⟨rfl, Below.refl _ _⟩

set_option maxHeartbeats 2000000 in
theorem refNums_any (a : Option Addr) (l : List Int) (cap : Nat) (w : World) (hr : RowK .i64 w a l) (hok : numsOK l = true) :
    Calls Tryd.prog 40 #[.slice a l.length cap] w (AppPost w.heap.size w (encL l)) := by
  have h1024 : l.length ≤ 1024 := by unfold numsOK at hok; simp only [Bool.and_eq_true, decide_eq_true_eq] at hok; exact hok.2
  have HALL : Hid (∀ k, (l.take k).all numB = true) := by
    intro k
    unfold numsOK at hok
    simp only [Bool.and_eq_true, decide_eq_true_eq] at hok
    rw [List.all_eq_true]
    exact fun z hz => (List.all_eq_true.1 hok.1) z (List.mem_of_mem_take hz)
  have HR := Lib.hid hr
  have H2 := Lib.hid (refNum_any l.length w (by omega))
  clear hr hok
  go_enter Tryd.func40, Tryd.ntmps40
  go_wp2_with fail
  refine (H2.out).mono ?_
  rintro e w1 ⟨v1, rfl, ho, hb⟩
  have HO1 : Hid (OwnK .u8 5 w1 w.heap.size v1 (enc l.length ++ encs (l.take 0)) ∧ Below w.heap.size w w1) := ⟨by simpa [encs] using ho, hb⟩
  clear ho hb H2
  go_wp2
  go_loopg [3, 4] l.length (fun g1 v i wr => ∃ k : Nat, i = .int .i64 k ∧ k ≤ l.length ∧ l.length - k ≤ g1 ∧ Hid (OwnK .u8 5 wr w.heap.size v (enc l.length ++ encs (l.take k)) ∧ Below w.heap.size w wr))
  case atStart => exact ⟨0, rfl, Nat.zero_le _, by omega, HO1⟩
  case round =>
    obtain ⟨k, rfl, hk, hg1, HI⟩ := hrel
    have hsz := HI.out.2.size
    by_cases hlt : k < l.length
    · have hltz : (k : Int) < (l.length : Int) := by omega
      obtain ⟨b, off, rfl, hc0⟩ := HR.out k hlt
      have hbl := World.block_lt_of_cell? _ _ hc0
      have hc : wr.cell? ⟨b, off + k, none⟩ = some (.int .i64 (l.getD k 0)) := (HI.out.2.cell (p := ⟨b, off + k, none⟩) hbl).trans hc0
      clear hc0
      have hb : numB (l.getD k 0) = true := by
        have := HALL.out (k + 1)
        rw [numsB_take l k hlt, Bool.and_eq_true] at this
        exact this.2
      have hb2 : 0 ≤ l.getD k 0 ∧ l.getD k 0 ≤ 4611686018427387904 := by simpa [numB] using hb
      obtain ⟨m, hm⟩ : ∃ m : Nat, l.getD k 0 = (m : Int) := ⟨(l.getD k 0).toNat, by omega⟩
      have hT := encL_take hlt
      rw [hm, Int.toNat_natCast] at hT
      have HT := Lib.hid hT
      have HLN : Hid ((enc l.length ++ encs (l.take k)).length + (enc m).length ≤ 9225) := by
        have := encs_take_len (k + 1) (HALL.out _) h1024
        rw [hT, List.length_append] at this
        exact this
      have H3 := Lib.hid (refNum_any m wr (by omega))
      rw [hm] at hc
      clear hb hb2 hm hT
      go_wp2_with fail
      refine (H3.out).mono ?_
      rintro e w2 ⟨v2, rfl, ho2, hb2⟩
      obtain ⟨a2, c2, rfl, hr2, hc2, _⟩ := ho2.form
      have HO3 : Hid (OwnK .u8 5 w2 w.heap.size u3 (enc l.length ++ encs (l.take k))) := HI.out.1.below hb2
      have HB3 : Hid (Below w.heap.size w w2) := HI.out.2.trans (hb2.mono hsz)
      have HR2 := Lib.hid hr2
      have hsz2 := hb2.size
      clear ho2 hb2 hr2 H3 hc
      generalize hME : (enc m).length = ml at *
      go_wp2_with (at_builtin
                   refine wpB_row rfl _ _ rfl w.heap.size w2 u3 (enc l.length ++ encs (l.take k)) (enc m) a2 _ c2 hME.symm rfl HO3.out rfl HR2.out (by rw [hME]; have := HLN.out; omega) (by omega) ?_
                   intro v3 w3 hp
                   have HI2 : Hid (OwnK .u8 5 w3 w.heap.size v3 (enc l.length ++ encs (l.take (k + 1))) ∧ Below w.heap.size w w3) := ⟨by rw [HT.out]; exact hp.own, hp.bel _ _ HB3.out (Nat.le_refl _) (by omega)⟩
                   clear hp)
      go_roundg (l.length - (k + 1))
      case measure => omega
      case rel => exact ⟨k + 1, by go_num, by omega, by omega, HI2⟩
    · have hltz : ¬ (k : Int) < (l.length : Int) := by omega
      have HE : Hid (AppPost w.heap.size w (encL l) (.returned u3) wr) := by
        have h2 := HI.out.1
        rw [List.take_of_length_le (by omega)] at h2
        exact ⟨u3, rfl, h2, HI.out.2⟩
      go_wp2
      go_ret
      exact HE.out
end Go.Proofs.YtfhppfbmnnkikaaDoor

/- Rows of numbers out of bytes. -/
namespace Go.Proofs.YtfhppfbmnnkikaaDoor
open Go.RowKit Go.Lib
set_option linter.unusedVariables false

def ListPost (bs : List Int) (w : World) (e : Ending) (w' : World) : Prop := ∃ v, e = .returned (.tuple #[v, .int .i64 ((tkNs bs).2.1 : Int), .int .i64 (tkNs bs).2.2]) ∧ OwnK .i64 3 w' w.heap.size v (tkNs bs).1 ∧ Below w.heap.size w w'
theorem listPost_err' {bs : List Int} {w w' : World} {x : Int} (h : tkNs bs = ([], 0, x)) (hb : Below w.heap.size w w') : ListPost bs w (.returned (.tuple #[.slice none 0 0, .int .i64 0, .int .i64 x])) w' :=
  ⟨.slice none 0 0, by rw [h]; rfl, by rw [h]; exact OwnK.nil _ _ _ _, hb⟩
theorem listPost_err {bs : List Int} {w : World} {x : Int} (h : tkNs bs = ([], 0, x)) : ListPost bs w (.returned (.tuple #[.slice none 0 0, .int .i64 0, .int .i64 x])) w := listPost_err' h (Below.refl _ _)
theorem listPost_ok {bs ls : List Int} {w w' : World} {p : Nat} {v : Value} (h : tkNs bs = (ls, p, 0)) (ho : OwnK .i64 3 w' w.heap.size v ls) (hb : Below w.heap.size w w') : ListPost bs w (.returned (.tuple #[v, .int .i64 (p : Int), .int .i64 0])) w' :=
  ⟨v, by rw [h], by rw [h]; exact ho, hb⟩

set_option maxHeartbeats 4000000 in
set_option maxRecDepth 100000 in
theorem takeNums_any (a : Option Addr) (bs : List Int) (cap : Nat) (w : World) (hr : RowK .u8 w a bs) (hb : IsB bs) (hcap : bs.length ≤ cap) (hlen : bs.length ≤ 140737488355328) :
    Calls Tryd.prog 101 #[.slice a bs.length cap] w (ListPost bs w) := by
  have H := Lib.hid (takeCount_any a bs cap 1024 w hr hb)
  have HR := Lib.hid hr
  have HB := Lib.hid hb
  by_cases he : (tkN bs).2.2 = 0
  · obtain ⟨b1, b2, b3, b4, _⟩ := tkN_back hb he
    by_cases hm : 1024 < (tkN bs).1
    · have HT : Hid (ListPost bs w (.returned (.tuple #[.slice none 0 0, .int .i64 0, .int .i64 1])) w) := listPost_err (by unfold tkNs; rw [if_neg (by simp [he]), if_pos hm])
      have HE : Hid (tkC bs 1024 = (0, 0, 1)) := by show tkC bs 1024 = _; unfold tkC; rw [if_neg (by simp [he]), if_pos hm]
      rw [HE.out] at H
      clear HE
      clear hr hb he b3 b4
      generalize (tkN bs).1 = x at *
      go_enter Tryd.func101, Tryd.ntmps101
      go_wp2_with fail
      refine (H.out).mono ?_
      rintro e w' ⟨rfl, rfl⟩
      go_wp2
      go_ret3
      exact HT.out
    · have HE : Hid (tkC bs 1024 = tkN bs) := by show tkC bs 1024 = _; unfold tkC; rw [if_neg (by simp [he]), if_neg hm]
      rw [HE.out, he] at H
      clear HE
      obtain ⟨n, hn⟩ : ∃ n : Nat, (tkN bs).1 = (n : Int) := ⟨(tkN bs).1.toNat, by omega⟩
      obtain ⟨k, hk⟩ : ∃ k : Nat, (tkN bs).2.1 = k := ⟨_, rfl⟩
      have HTS : Hid (tkL bs n k [] = tkNs bs) := by show _ = _; unfold tkNs; rw [if_neg (by simp [he]), if_neg hm, hn, hk, Int.toNat_natCast]
      rw [hn, hk] at H
      rw [hn] at hm b1 b2
      rw [hk] at b3 b4
      clear hn hk he hr hb b2
      go_enter Tryd.func101, Tryd.ntmps101
      go_wp2_with fail
      refine (H.out).mono ?_
      rintro e w' ⟨rfl, rfl⟩
      go_wp2
      go_loopg [2, 6, 20] n (fun g1 vl vp vi wr => ∃ (c p : Nat) (z : Int) (ls : List Int), vi = .int .i64 c ∧ vp = .int .i64 z ∧ z = (p : Int) ∧ c ≤ n ∧ n - c ≤ g1 ∧ p ≤ bs.length ∧ Hid (OwnK .i64 3 wr w.heap.size vl ls ∧ ls.length = c ∧ Below w.heap.size w wr ∧ tkL bs (n - c) p ls = tkNs bs))
      case atStart => exact ⟨0, k, _, [], rfl, rfl, rfl, Nat.zero_le _, by omega, b4, ⟨OwnK.nil _ _ _ _, rfl, Below.refl _ _, HTS.out⟩⟩
      case round =>
        obtain ⟨c, p, z, ls, rfl, rfl, rfl, hcn, hg1, hp, HI⟩ := hrel
        have hsz := HI.out.2.2.1.size
        by_cases hlt : c < n
        · have hltz : (c : Int) < (n : Int) := by omega
          obtain ⟨r, hr1⟩ : ∃ r, n - c = r + 1 := ⟨n - c - 1, by omega⟩
          have hsl := slice_l wr a bs.length cap p (p : Int) rfl hp
          have HRW : Hid (RowK .u8 wr a bs) := HR.out.below HI.out.2.2.1 (Nat.le_refl _)
          have H2 := Lib.hid (takeNum_any (partA a p cap) (bs.drop p) (cap - p) wr (HRW.out.rest p cap hcap) (HB.out.drop p))
          rw [List.length_drop] at H2
          unfold TakePost at H2
          have hT := HI.out.2.2.2
          rw [hr1, tkL] at hT
          obtain ⟨k1, k2, k3⟩ := tkN_k (bs.drop p) (HB.out.drop p)
          rw [List.length_drop] at k1
          have HLL := Lib.hid HI.out.2.1
          by_cases he2 : (tkN (bs.drop p)).2.2 = 0
          · rw [if_neg (by simp [he2])] at hT
            rw [he2] at H2
            generalize (tkN (bs.drop p)).1 = x at *
            generalize (tkN (bs.drop p)).2.1 = q at *
            have HT := Lib.hid hT
            clear hT he2
            go_wp2_with (first
              | (go_at_call 90
                 refine (H2.out).mono ?_
                 rintro e w' ⟨rfl, rfl⟩)
              | (at_builtin
                 refine wpI_one rfl _ _ rfl w.heap.size wr u2 ls x rfl HI.out.1 rfl (by have := HLL.out; omega) (by omega) ?_
                 intro v3 w3 hp3
                 have HI2 : Hid (OwnK .i64 3 w3 w.heap.size v3 (ls ++ [x]) ∧ (ls ++ [x]).length = c + 1 ∧ Below w.heap.size w w3 ∧ tkL bs (n - (c + 1)) (p + q) (ls ++ [x]) = tkNs bs) := ⟨hp3.own, by rw [List.length_append, HLL.out]; rfl, hp3.bel _ _ HI.out.2.2.1 (Nat.le_refl _) (by omega), by rw [show n - (c + 1) = r by omega]; exact HT.out⟩
                 clear hp3))
            go_roundg (n - (c + 1))
            case measure => omega
            case rel => exact ⟨c + 1, p + q, _, ls ++ [x], by go_num, rfl, by omega, by omega, by omega, by omega, HI2⟩
          · rw [if_pos he2] at hT
            have HE : Hid (ListPost bs w (.returned (.tuple #[.slice none 0 0, .int .i64 0, .int .i64 (tkN (bs.drop p)).2.2])) wr) := listPost_err' hT.symm HI.out.2.2.1
            clear hT
            generalize (tkN (bs.drop p)).2.2 = x at *
            generalize (tkN (bs.drop p)).1 = x1 at *
            generalize (tkN (bs.drop p)).2.1 = q at *
            go_wp2_with fail
            refine (H2.out).mono ?_
            rintro e w' ⟨rfl, rfl⟩
            go_wp2
            go_ret3
            exact HE.out
        · have hltz : ¬ (c : Int) < (n : Int) := by omega
          have HE : Hid (ListPost bs w (.returned (.tuple #[u2, .int .i64 (p : Int), .int .i64 0])) wr) := by
            have h := HI.out
            have h2 := h.2.2.2
            rw [show n - c = 0 by omega, tkL] at h2
            exact listPost_ok h2.symm h.1 h.2.2.1
          go_wp2
          go_ret3
          exact HE.out
  · have HT : Hid (ListPost bs w (.returned (.tuple #[.slice none 0 0, .int .i64 0, .int .i64 (tkN bs).2.2])) w) := listPost_err (by unfold tkNs; rw [if_pos he])
    have HE : Hid (tkC bs 1024 = (0, 0, (tkN bs).2.2)) := by show tkC bs 1024 = _; unfold tkC; rw [if_pos he]
    rw [HE.out] at H
    clear HE
    clear hr hb
    generalize (tkN bs).2.2 = x at *
    go_enter Tryd.func101, Tryd.ntmps101
    go_wp2_with fail
    refine (H.out).mono ?_
    rintro e w' ⟨rfl, rfl⟩
    go_wp2
    go_ret3
    exact HT.out

set_option maxHeartbeats 4000000 in
set_option maxRecDepth 100000 in
theorem refTakeNums_any (a : Option Addr) (bs : List Int) (cap : Nat) (w : World) (hr : RowK .u8 w a bs) (hb : IsB bs) (hcap : bs.length ≤ cap) (hlen : bs.length ≤ 140737488355328) :
    Calls Tryd.prog 79 #[.slice a bs.length cap] w (ListPost bs w) := by
  have H := Lib.hid (refTakeNum_any a bs cap w hr hb)
  have HR := Lib.hid hr
  have HB := Lib.hid hb
  by_cases he : (tkN bs).2.2 = 0
  · obtain ⟨b1, b2, b3, b4, _⟩ := tkN_back hb he
    by_cases hm : 1024 < (tkN bs).1
    · have HT : Hid (ListPost bs w (.returned (.tuple #[.slice none 0 0, .int .i64 0, .int .i64 1])) w) := listPost_err (by unfold tkNs; rw [if_neg (by simp [he]), if_pos hm])
      unfold TakePost at H
      rw [he] at H
      clear hr hb he b3 b4
      generalize (tkN bs).1 = x at *
      go_enter Tryd.func79, Tryd.ntmps79
      go_wp2_with fail
      refine (H.out).mono ?_
      rintro e w' ⟨rfl, rfl⟩
      go_wp2
      go_ret3
      exact HT.out
    · unfold TakePost at H
      rw [he] at H
      obtain ⟨n, hn⟩ : ∃ n : Nat, (tkN bs).1 = (n : Int) := ⟨(tkN bs).1.toNat, by omega⟩
      obtain ⟨k, hk⟩ : ∃ k : Nat, (tkN bs).2.1 = k := ⟨_, rfl⟩
      have HTS : Hid (tkL bs n k [] = tkNs bs) := by show _ = _; unfold tkNs; rw [if_neg (by simp [he]), if_neg hm, hn, hk, Int.toNat_natCast]
      rw [hn, hk] at H
      rw [hn] at hm b1 b2
      rw [hk] at b3 b4
      clear hn hk he hr hb b2
      go_enter Tryd.func79, Tryd.ntmps79
      go_wp2_with fail
      refine (H.out).mono ?_
      rintro e w' ⟨rfl, rfl⟩
      go_wp2
      go_loopg [6, 8, 9] n (fun g1 vp vl vi wr => ∃ (c p : Nat) (z : Int) (ls : List Int), vi = .int .i64 c ∧ vp = .int .i64 z ∧ z = (p : Int) ∧ c ≤ n ∧ n - c ≤ g1 ∧ p ≤ bs.length ∧ Hid (OwnK .i64 3 wr w.heap.size vl ls ∧ ls.length = c ∧ Below w.heap.size w wr ∧ tkL bs (n - c) p ls = tkNs bs))
      case atStart => exact ⟨0, k, _, [], rfl, rfl, rfl, Nat.zero_le _, by omega, b4, ⟨OwnK.nil _ _ _ _, rfl, Below.refl _ _, HTS.out⟩⟩
      case round =>
        obtain ⟨c, p, z, ls, rfl, rfl, rfl, hcn, hg1, hp, HI⟩ := hrel
        have hsz := HI.out.2.2.1.size
        by_cases hlt : c < n
        · have hltz : (c : Int) < (n : Int) := by omega
          obtain ⟨r, hr1⟩ : ∃ r, n - c = r + 1 := ⟨n - c - 1, by omega⟩
          have hsl := slice_l wr a bs.length cap p (p : Int) rfl hp
          have HRW : Hid (RowK .u8 wr a bs) := HR.out.below HI.out.2.2.1 (Nat.le_refl _)
          have H2 := Lib.hid (refTakeNum_any (partA a p cap) (bs.drop p) (cap - p) wr (HRW.out.rest p cap hcap) (HB.out.drop p))
          rw [List.length_drop] at H2
          unfold TakePost at H2
          have hT := HI.out.2.2.2
          rw [hr1, tkL] at hT
          obtain ⟨k1, k2, k3⟩ := tkN_k (bs.drop p) (HB.out.drop p)
          rw [List.length_drop] at k1
          have HLL := Lib.hid HI.out.2.1
          by_cases he2 : (tkN (bs.drop p)).2.2 = 0
          · rw [if_neg (by simp [he2])] at hT
            rw [he2] at H2
            generalize (tkN (bs.drop p)).1 = x at *
            generalize (tkN (bs.drop p)).2.1 = q at *
            have HT := Lib.hid hT
            clear hT he2
            go_wp2_with (first
              | (go_at_call 78
                 refine (H2.out).mono ?_
                 rintro e w' ⟨rfl, rfl⟩)
              | (at_builtin
                 refine wpI_one rfl _ _ rfl w.heap.size wr u8 ls x rfl HI.out.1 rfl (by have := HLL.out; omega) (by omega) ?_
                 intro v3 w3 hp3
                 have HI2 : Hid (OwnK .i64 3 w3 w.heap.size v3 (ls ++ [x]) ∧ (ls ++ [x]).length = c + 1 ∧ Below w.heap.size w w3 ∧ tkL bs (n - (c + 1)) (p + q) (ls ++ [x]) = tkNs bs) := ⟨hp3.own, by rw [List.length_append, HLL.out]; rfl, hp3.bel _ _ HI.out.2.2.1 (Nat.le_refl _) (by omega), by rw [show n - (c + 1) = r by omega]; exact HT.out⟩
                 clear hp3))
            go_roundg (n - (c + 1))
            case measure => omega
            case rel => exact ⟨c + 1, p + q, _, ls ++ [x], by go_num, rfl, by omega, by omega, by omega, by omega, HI2⟩
          · rw [if_pos he2] at hT
            have HE : Hid (ListPost bs w (.returned (.tuple #[.slice none 0 0, .int .i64 0, .int .i64 (tkN (bs.drop p)).2.2])) wr) := listPost_err' hT.symm HI.out.2.2.1
            clear hT
            generalize (tkN (bs.drop p)).2.2 = x at *
            generalize (tkN (bs.drop p)).1 = x1 at *
            generalize (tkN (bs.drop p)).2.1 = q at *
            go_wp2_with fail
            refine (H2.out).mono ?_
            rintro e w' ⟨rfl, rfl⟩
            go_wp2
            go_ret3
            exact HE.out
        · have hltz : ¬ (c : Int) < (n : Int) := by omega
          have HE : Hid (ListPost bs w (.returned (.tuple #[u8, .int .i64 (p : Int), .int .i64 0])) wr) := by
            have h := HI.out
            have h2 := h.2.2.2
            rw [show n - c = 0 by omega, tkL] at h2
            exact listPost_ok h2.symm h.1 h.2.2.1
          go_wp2
          go_ret3
          exact HE.out
  · have HT : Hid (ListPost bs w (.returned (.tuple #[.slice none 0 0, .int .i64 0, .int .i64 (tkN bs).2.2])) w) := listPost_err (by unfold tkNs; rw [if_pos he])
    unfold TakePost at H
    clear hr hb
    generalize (tkN bs).2.2 = x at *
    go_enter Tryd.func79, Tryd.ntmps79
    go_wp2_with fail
    refine (H.out).mono ?_
    rintro e w' ⟨rfl, rfl⟩
    go_wp2
    go_ret3
    exact HT.out

end Go.Proofs.YtfhppfbmnnkikaaDoor

/- The laws' small functions: the same row? a copy; written over; too much; awake. -/
namespace Go.Proofs.YtfhppfbmnnkikaaDoor
open Go.RowKit Go.Lib
set_option linter.unusedVariables false

def EqPost (w : World) (e : Ending) (w' : World) : Prop := e = .returned (.bool true) ∧ ∃ n, w' = w.drewN n

set_option maxHeartbeats 400000 in
theorem eqB_yes (a b : Option Addr) (zs : List Int) (n1 n2 c1 c2 : Nat) (w : World) (ha : RowK .u8 w a zs) (hb : RowK .u8 w b zs) (h1 : n1 = zs.length) (h2 : n2 = zs.length) (hl : zs.length ≤ 140737488355328) :
    Calls Tryd.prog 20 #[.slice a n1 c1, .slice b n2 c2] w (EqPost w) := by
  have mixed : Tryd.prog.follows .mixedOrders = true := by kernel_rfl
  subst h1 h2
  have HA := Lib.hid ha
  have HB := Lib.hid hb
  clear ha hb
  go_enter Tryd.func20, Tryd.ntmps20
  go_wp2
  go_loopg [5] zs.length (fun g1 v wr => ∃ k n : Nat, v = .int .i64 k ∧ k ≤ zs.length ∧ zs.length - k ≤ g1 ∧ Hid (wr = w.drewN n))
  case atStart => exact ⟨0, 0, rfl, Nat.zero_le _, by omega, rfl⟩
  case round =>
    obtain ⟨k, n, rfl, hk, hg, HW⟩ := hrel
    by_cases hlt : k < zs.length
    · obtain ⟨b1, o1, rfl, hc1⟩ := HA.out k hlt
      obtain ⟨b2, o2, rfl, hc2⟩ := HB.out k hlt
      have hw := HW.out
      subst hw
      have hd1 : (w.drewN n).cell? ⟨b1, o1 + k, none⟩ = some (.int .u8 (zs.getD k 0)) := hc1
      have hd2 : (w.drewN n).cell? ⟨b2, o2 + k, none⟩ = some (.int .u8 (zs.getD k 0)) := hc2
      have hltz : (k : Int) < (zs.length : Int) := by omega
      generalize zs.getD k 0 = z at *
      have hzz : (z != z) = false := by simp
      go_wp2_with fail
      go_quiet (fail)
      go_wp2
      go_roundg (zs.length - (k + 1))
      case measure => omega
      case rel => exact ⟨k + 1, _, by go_num, by omega, by omega, rfl⟩
    · have hltz : ¬ (k : Int) < (zs.length : Int) := by omega
      go_wp2
      go_ret
      exact ⟨rfl, n, HW.out⟩

set_option maxHeartbeats 400000 in
theorem eqI_yes (a b : Option Addr) (zs : List Int) (n1 n2 c1 c2 : Nat) (w : World) (ha : RowK .i64 w a zs) (hb : RowK .i64 w b zs) (h1 : n1 = zs.length) (h2 : n2 = zs.length) (hl : zs.length ≤ 140737488355328) :
    Calls Tryd.prog 48 #[.slice a n1 c1, .slice b n2 c2] w (EqPost w) := by
  have mixed : Tryd.prog.follows .mixedOrders = true := by kernel_rfl
  subst h1 h2
  have HA := Lib.hid ha
  have HB := Lib.hid hb
  clear ha hb
  go_enter Tryd.func48, Tryd.ntmps48
  go_wp2
  go_loopg [5] zs.length (fun g1 v wr => ∃ k n : Nat, v = .int .i64 k ∧ k ≤ zs.length ∧ zs.length - k ≤ g1 ∧ Hid (wr = w.drewN n))
  case atStart => exact ⟨0, 0, rfl, Nat.zero_le _, by omega, rfl⟩
  case round =>
    obtain ⟨k, n, rfl, hk, hg, HW⟩ := hrel
    by_cases hlt : k < zs.length
    · obtain ⟨b1, o1, rfl, hc1⟩ := HA.out k hlt
      obtain ⟨b2, o2, rfl, hc2⟩ := HB.out k hlt
      have hw := HW.out
      subst hw
      have hd1 : (w.drewN n).cell? ⟨b1, o1 + k, none⟩ = some (.int .i64 (zs.getD k 0)) := hc1
      have hd2 : (w.drewN n).cell? ⟨b2, o2 + k, none⟩ = some (.int .i64 (zs.getD k 0)) := hc2
      have hltz : (k : Int) < (zs.length : Int) := by omega
      generalize zs.getD k 0 = z at *
      have hzz : (z != z) = false := by simp
      go_wp2_with fail
      go_quiet (fail)
      go_wp2
      go_roundg (zs.length - (k + 1))
      case measure => omega
      case rel => exact ⟨k + 1, _, by go_num, by omega, by omega, rfl⟩
    · have hltz : ¬ (k : Int) < (zs.length : Int) := by omega
      go_wp2
      go_ret
      exact ⟨rfl, n, HW.out⟩

set_option maxHeartbeats 400000 in
theorem copyB_any (a : Option Addr) (zs : List Int) (n c : Nat) (w : World) (ha : RowK .u8 w a zs) (hn : n = zs.length) (hl : zs.length ≤ 140737488355328) :
    Calls Tryd.prog 23 #[.slice a n c] w (AppPost w.heap.size w zs) := by
  subst hn
  have HA := Lib.hid ha
  clear ha
  go_enter Tryd.func23, Tryd.ntmps23
  go_wp2
  go_loopg [3, 4] zs.length (fun g1 v i wr => ∃ k : Nat, i = .int .i64 k ∧ k ≤ zs.length ∧ zs.length - k ≤ g1 ∧ Hid (OwnK .u8 5 wr w.heap.size v (zs.take k) ∧ Below w.heap.size w wr))
  case atStart => exact ⟨0, rfl, Nat.zero_le _, by omega, ⟨OwnK.nil _ _ _ _, Below.refl _ _⟩⟩
  case round =>
    obtain ⟨k, rfl, hk, hg, HI⟩ := hrel
    by_cases hlt : k < zs.length
    · obtain ⟨b1, o1, rfl, hc1⟩ := HA.out k hlt
      have hbl := World.block_lt_of_cell? _ _ hc1
      have hsz := HI.out.2.size
      have hd1 : wr.cell? ⟨b1, o1 + k, none⟩ = some (.int .u8 (zs.getD k 0)) := (HI.out.2.cell (p := ⟨b1, o1 + k, none⟩) hbl).trans hc1
      have hltz : (k : Int) < (zs.length : Int) := by omega
      have HT := Lib.hid (take_getD zs k hlt)
      clear hc1 hbl
      generalize zs.getD k 0 = z at *
      go_wp2_with (at_builtin
                   refine wpB_one rfl _ _ rfl w.heap.size wr u3 (zs.take k) z rfl HI.out.1 rfl (by rw [List.length_take]; omega) (by omega) ?_
                   intro v1 w2 hp1
                   have HI2 : Hid (OwnK .u8 5 w2 w.heap.size v1 (zs.take (k + 1)) ∧ Below w.heap.size w w2) := ⟨by rw [HT.out]; exact hp1.own, hp1.bel _ _ HI.out.2 (Nat.le_refl _) (by omega)⟩
                   clear hp1 HI HT hd1)
      go_roundg (zs.length - (k + 1))
      case measure => omega
      case rel => exact ⟨k + 1, by go_num, by omega, by omega, HI2⟩
    · have hltz : ¬ (k : Int) < (zs.length : Int) := by omega
      have HF : Hid (AppPost w.heap.size w zs (.returned u3) wr) := by
        have h1 := HI.out.1
        rw [List.take_of_length_le (by omega)] at h1
        exact ⟨u3, rfl, h1, HI.out.2⟩
      clear HI
      go_wp2
      go_ret
      exact HF.out

theorem OwnK.stored {kd : IntKind} {e : TypeId} {w : World} {base g cap n : Nat} {zs : List Int} (hn : zs.length = n) (h : OwnK kd e w base (.slice (some ⟨g, 0, none⟩) n cap) zs) (j : Nat) (z : Int) : OwnK kd e (w.setCell ⟨g, j, none⟩ (.int kd z)) base (.slice (some ⟨g, 0, none⟩) n cap) (zs.set j z) := by
  subst hn
  have h1 := (World.ownsRow.stored h j (.int kd z)).1
  unfold OwnK
  rw [List.length_set, List.map_set]
  exact h1
theorem OwnK.cellAt {kd : IntKind} {e : TypeId} {w : World} {base g cap n : Nat} {zs : List Int} (hn : zs.length = n) (h : OwnK kd e w base (.slice (some ⟨g, 0, none⟩) n cap) zs) (j : Nat) (hj : j < n) : w.cell? ⟨g, j, none⟩ = some (.int kd (zs.getD j 0)) ∧ w.frozen? ⟨g, j, none⟩ = false ∧ base ≤ g ∧ g < w.heap.size := by
  subst hn
  have h1 := World.ownsRow.cellAt h j (by omega)
  rw [List.getElem?_map, List.getElem?_eq_getElem hj] at h1
  refine ⟨?_, World.ownsRow.frozenAt h j, OwnK.lt h rfl⟩
  rw [h1, List.getD_eq_getElem?_getD, List.getElem?_eq_getElem hj]; rfl

def SpoilPost (w : World) (base : Nat) (e : Ending) (w' : World) : Prop := e = .returned (.tuple #[]) ∧ Below base w w'

set_option maxHeartbeats 400000 in
theorem spoil_any (v : Value) (base : Nat) (zs : List Int) (w : World) (hv : OwnK .i64 3 w base v zs) (hbase : base ≤ w.heap.size) (hl : zs.length ≤ 65536) :
    Calls Tryd.prog 55 #[v] w (SpoilPost w base) := by
  rcases hv.2 with ⟨rfl, h0⟩ | ⟨g, cap, cs, rfl, hg, hh, _⟩
  · have hz : zs = [] := List.eq_nil_of_length_eq_zero h0
    subst hz
    have HV := Lib.hid hv
    clear hv h0
    go_enter Tryd.func55, Tryd.ntmps55
    go_wp2
    refine wp_loop_rounds 1 ?_
    rw [rounds_succ]
    go_wp2_with (at_builtin
                 refine wpI_one rfl _ _ rfl base w (.slice none 0 0) [] 5 rfl HV.out rfl (by simp) hbase ?_
                 intro v1 w2 hp1
                 have HB := Lib.hid (hp1.bel base w (Below.refl _ _) (Nat.le_refl _) hbase)
                 clear hp1)
    go_end0
    exact ⟨rfl, HB.out⟩
  · have HV := Lib.hid hv
    clear hv hh
    obtain ⟨n, hn⟩ : ∃ n, n = zs.length := ⟨_, rfl⟩
    have HN := Lib.hid hn
    rw [← hn] at hl HV ⊢
    clear hn
    go_enter Tryd.func55, Tryd.ntmps55
    go_wp2
    go_loopg [2] n (fun g1 i wr => ∃ (k : Nat) (ys : List Int), i = .int .i64 k ∧ k ≤ n ∧ n - k ≤ g1 ∧ w.heap.size ≤ wr.heap.size ∧ Hid (ys.length = n ∧ OwnK .i64 3 wr base (.slice (some ⟨g, 0, none⟩) n cap) ys ∧ Below base w wr))
    case atStart => exact ⟨0, zs, rfl, Nat.zero_le _, by omega, Nat.le_refl _, ⟨HN.out.symm, HV.out, Below.refl _ _⟩⟩
    case round =>
      obtain ⟨k, ys, rfl, hk, hg1, hsz, HI⟩ := hrel
      by_cases hlt : k < n
      · have hltz : (k : Int) < (n : Int) := by omega
        obtain ⟨c1, f1, hb1, hb2⟩ := OwnK.cellAt HI.out.1 HI.out.2.1 k hlt
        have HI2 : Hid ((ys.set k (-99)).length = n ∧ OwnK .i64 3 (wr.setCell ⟨g, k, none⟩ (.int .i64 (-99))) base (.slice (some ⟨g, 0, none⟩) n cap) (ys.set k (-99)) ∧ Below base w (wr.setCell ⟨g, k, none⟩ (.int .i64 (-99)))) :=
          ⟨by rw [List.length_set]; exact HI.out.1, OwnK.stored HI.out.1 HI.out.2.1 k (-99), HI.out.2.2.setCell hb1 _⟩
        clear HI
        go_wp2
        go_roundg (n - (k + 1))
        case measure => omega
        case rel => exact ⟨k + 1, _, by go_num, by omega, by omega, by simpa using hsz, HI2⟩
      · have hltz : ¬ (k : Int) < (n : Int) := by omega
        have hys : ys.length ≤ 65536 := by have := HI.out.1; omega
        go_wp2_with (at_builtin
                     refine wpI_one rfl _ _ rfl base wr (.slice (some ⟨g, 0, none⟩) n cap) ys 5 rfl HI.out.2.1 rfl (by omega) (by omega) ?_
                     intro v1 w2 hp1
                     have HB := Lib.hid (hp1.bel base w HI.out.2.2 (Nat.le_refl _) (by omega))
                     clear hp1)
        go_end0
        exact ⟨rfl, HB.out⟩

/-- too much to be played? -/
def heavyB (s l x : Nat) : Bool := decide (65546 < s ∨ 2000 < l ∨ 3000 < x)
def BoolPost (w : World) (b : Bool) (e : Ending) (w' : World) : Prop := e = .returned (.bool b) ∧ Below w.heap.size w w'

end Go.Proofs.YtfhppfbmnnkikaaDoor

/- Contracts in one form, whether refused or not. -/
namespace Go.Proofs.YtfhppfbmnnkikaaDoor
open Go.RowKit Go.Lib
set_option linter.unusedVariables false

theorem RowK.ofOwn {kd : IntKind} {e : TypeId} {w : World} {base : Nat} {a : Option Addr} {n c : Nat} {zs : List Int} (h : OwnK kd e w base (.slice a n c) zs) : RowK kd w a zs ∧ n = zs.length ∧ zs.length ≤ c := by
  obtain ⟨a', c', e', hr, hc, _⟩ := h.form
  simp only [Value.slice.injEq] at e'
  obtain ⟨rfl, rfl, rfl⟩ := e'
  exact ⟨hr, rfl, hc⟩

def errC (b : Bool) : Int := if b then 0 else 1
def numE (z : Int) : List Int := if numB z then enc z.toNat else []
def textB (s : ByteArray) : Bool := decide (s.size ≤ 65536)
def textE (s : ByteArray) : List Int := if textB s then enc s.size ++ strN s else []
def numsE (l : List Int) : List Int := if numsOK l then encL l else []
def BothPost (w : World) (zs : List Int) (c : Int) (e : Ending) (w' : World) : Prop := ∃ v, e = .returned (.tuple #[v, .int .i64 c]) ∧ OwnK .u8 5 w' w.heap.size v zs ∧ Below w.heap.size w w'

theorem num_both (z : Int) (w : World) : Calls Tryd.prog 72 #[.int .i64 z] w (BothPost w (numE z) (errC (numB z))) := by
  cases h : numB z
  · refine (num_no z w h).mono ?_
    rintro e w' ⟨rfl, rfl⟩
    exact ⟨_, rfl, by unfold numE; rw [h]; exact OwnK.nil _ _ _ _, Below.refl _ _⟩
  · have h2 := h
    simp only [numB, decide_eq_true_eq] at h2
    have := num_yes z.toNat w (by omega)
    rw [show ((z.toNat : Nat) : Int) = z by omega] at this
    refine this.mono ?_
    rintro e w' ⟨v, rfl, ho, hb⟩
    exact ⟨v, rfl, by unfold numE; rw [h]; exact ho, hb⟩
theorem text_both (s : ByteArray) (w : World) : Calls Tryd.prog 85 #[.string s] w (BothPost w (textE s) (errC (textB s))) := by
  cases h : textB s
  · have h2 := h
    simp only [textB, decide_eq_false_iff_not] at h2
    refine (text_no s w (by omega)).mono ?_
    rintro e w' ⟨rfl, rfl⟩
    exact ⟨_, rfl, by unfold textE; rw [h]; exact OwnK.nil _ _ _ _, Below.refl _ _⟩
  · have h2 := h
    simp only [textB, decide_eq_true_eq] at h2
    refine (text_yes s w h2).mono ?_
    rintro e w' ⟨v, rfl, ho, hb⟩
    exact ⟨v, rfl, by unfold textE; rw [h]; exact ho, hb⟩
theorem nums_both (a : Option Addr) (l : List Int) (cap : Nat) (w : World) (hr : RowK .i64 w a l) (hl : l.length ≤ 140737488355328) : Calls Tryd.prog 96 #[.slice a l.length cap] w (BothPost w (numsE l) (errC (numsOK l))) := by
  refine (nums_any a l cap w hr hl).mono ?_
  intro e w' h
  unfold NumsPost at h
  cases hk : numsOK l
  · rw [hk] at h
    obtain ⟨rfl, hb⟩ := h
    exact ⟨_, rfl, by unfold numsE; rw [hk]; exact OwnK.nil _ _ _ _, hb⟩
  · rw [hk] at h
    obtain ⟨v, rfl, ho, hb⟩ := h
    exact ⟨v, rfl, by unfold numsE; rw [hk]; exact ho, hb⟩

theorem numE_len (z : Int) : (numE z).length ≤ 9 := by
  unfold numE
  split
  · rename_i h; simp only [numB, decide_eq_true_eq] at h; exact enc_len9 (by omega)
  · simp
theorem textE_len (s : ByteArray) (h : s.size ≤ 65546) : (textE s).length ≤ 65555 := by
  unfold textE
  split
  · have := enc_len9 (n := s.size) (by omega); rw [List.length_append, strN_len]; omega
  · simp
theorem numsE_len (l : List Int) : (numsE l).length ≤ 9225 := by
  unfold numsE
  split
  · rename_i h
    unfold numsOK at h
    simp only [Bool.and_eq_true, decide_eq_true_eq] at h
    have := encs_take_len l.length (l := l) (by rw [List.take_length]; exact h.1) h.2
    rw [List.take_length] at this
    exact this
  · simp
theorem numE_isB (z : Int) : IsB (numE z) := by unfold numE; split; exact enc_isB _; exact IsB.nil
theorem textE_isB (s : ByteArray) : IsB (textE s) := by unfold textE; split; exact (enc_isB _).app (strN_isB s); exact IsB.nil
theorem numsE_isB (l : List Int) : IsB (numsE l) := by unfold numsE; split; exact encL_isB l; exact IsB.nil

theorem quiet_left {P : Program} {f : FuncId} {args : Array Value} {w : World} {n : Nat} {v : Value}
    (h : Calls P f args (w.drewN n) fun e w' => e = .returned v ∧ w.drewN n = w') : Calls P f args (w.drewN n) fun e w'' => e = .returned v ∧ ∃ m, w'' = w.drewN m :=
  h.mono fun _ _ ⟨he, hm⟩ => ⟨he, n, hm.symm⟩
theorem quiet_eqB (a b : Option Addr) (zs : List Int) (n1 n2 c1 c2 : Nat) (w : World) (ha : RowK .u8 w a zs) (hb : RowK .u8 w b zs) (h1 : n1 = zs.length) (h2 : n2 = zs.length) (hl : zs.length ≤ 140737488355328) (n : Nat) :
    Calls Tryd.prog 20 #[.slice a n1 c1, .slice b n2 c2] (w.drewN n) fun e w'' => e = .returned (.bool true) ∧ ∃ m, w'' = w.drewN m :=
  (eqB_yes a b zs n1 n2 c1 c2 (w.drewN n) ha hb h1 h2 hl).mono fun _ _ ⟨he, k, hk⟩ => ⟨he, n + k, by rw [hk, World.drewN_drewN]⟩
end Go.Proofs.YtfhppfbmnnkikaaDoor

/- What CodeBack and CodeRows hold on to; a row appended within a region that draws its order. -/
namespace Go.Proofs.YtfhppfbmnnkikaaDoor
open Go.RowKit Go.Lib
set_option linter.unusedVariables false

theorem OwnK.form' {kd : IntKind} {e : TypeId} {w : World} {base : Nat} {v : Value} {zs : List Int} (h : OwnK kd e w base v zs) : ∃ a n cap, v = .slice a n cap ∧ n = zs.length ∧ RowK kd w a zs ∧ zs.length ≤ cap := by
  obtain ⟨a, c, e', hr, hc, _⟩ := h.form
  exact ⟨a, _, c, e', rfl, hr, hc⟩
theorem takeNum_n (a : Option Addr) (bs : List Int) (n cap : Nat) (w : World) (hn : n = bs.length) (hr : RowK .u8 w a bs) (hb : IsB bs) : Calls Tryd.prog 90 #[.slice a n cap] w (TakePost bs w) := by subst hn; exact takeNum_any a bs cap w hr hb
theorem takeText_n (a : Option Addr) (bs : List Int) (n cap : Nat) (w : World) (hn : n = bs.length) (hr : RowK .u8 w a bs) (hb : IsB bs) (hcap : bs.length ≤ cap) (hlen : bs.length ≤ 140737488355328) : Calls Tryd.prog 89 #[.slice a n cap] w (TextPost bs w) := by subst hn; exact takeText_any a bs cap w hr hb hcap hlen
theorem takeNums_n (a : Option Addr) (bs : List Int) (n cap : Nat) (w : World) (hn : n = bs.length) (hr : RowK .u8 w a bs) (hb : IsB bs) (hcap : bs.length ≤ cap) (hlen : bs.length ≤ 140737488355328) : Calls Tryd.prog 101 #[.slice a n cap] w (ListPost bs w) := by subst hn; exact takeNums_any a bs cap w hr hb hcap hlen

set_option maxHeartbeats 400000 in
theorem stepB_row {ops : Array Oper} {o : Oper} {a : Act} {K : Act → World → Prop} {Q : Exit → Act → World → Prop} {E : Prop} (hgd : o.guard = none) (s x : Operand)
    (ho : o.op = .call { callee := .builtin .append, args := #[s, x], argTypes := #[33, 33] }) (base : Nat) (W : World) (v : Value) (zs ys : List Int) (ax : Option Addr) (n c : Nat) (hn : n = ys.length) (hs : a.eval s = v) (hown : OwnK .u8 5 W base v zs)
    (hx : a.eval x = .slice ax n c) (hrow : RowK .u8 W ax ys) (hlen : zs.length + ys.length ≤ 140737488355328) (hbase : base ≤ W.heap.size)
    (h : ∀ v' w', Grew .u8 5 base W v zs ys v' w' → K (a.put o.dst v') w') : if Region.wanted o (yielded ops a.tmps) = true then Oper.wp Tryd.prog o a W K Q else E := by
  have hw : Region.wanted o (yielded ops a.tmps) = true := by simp [Region.wanted, hgd]
  rw [if_pos hw]
  obtain ⟨v', w', hr, hg⟩ := run_row (t := 33) (ty := o.type) (bytes := 1) (fun _ => rfl) Tryd.underlying33 Tryd.info5 base W W v zs ys ax n c (Below.refl W.heap.size W) hn hown hrow (by omega) hlen hbase
  unfold Oper.wp execOp
  simp only [ho, resolve, invoke, builtin, Sem.run_bind, Sem.run_pure, Result.andThen_ok, List.map_toArray, List.map_cons, List.map_nil, hs, hx, hr]
  exact h v' w' hg

/-- a copy with a row behind it: what is told -/
theorem glued {w0 w2 w3 : World} {v2 v3 : Value} {zs ys : List Int} (ho : OwnK .u8 5 w2 w0.heap.size v2 zs) (hb : Below w0.heap.size w0 w2) (hg : Grew .u8 5 w0.heap.size w2 v2 zs ys v3 w3) : OwnK .u8 5 w3 w0.heap.size v3 (zs ++ ys) ∧ Below w0.heap.size w0 w3 :=
  ⟨hg.own, hg.bel _ _ hb (Nat.le_refl _) hb.size⟩
end Go.Proofs.YtfhppfbmnnkikaaDoor

/- A row written over: no other row changes. -/
namespace Go.Proofs.YtfhppfbmnnkikaaDoor
open Go.RowKit Go.Lib
set_option linter.unusedVariables false

theorem grown_setCell (w : World) (a : Addr) (u : Value) : w.grownBy (w.setCell a u) (some a.block) :=
  ⟨rfl, rfl, rfl, by simp [World.setCell], fun k _ hk => Below.heap_setCell _ _ _ k (fun e => hk (by rw [e]))⟩
theorem grown_row {w w' : World} {row : Option Nat} (hg : w.grownBy w' row) {kd : IntKind} {a : Option Addr} {zs : List Int} (hr : RowK kd w a zs) (hne : 0 < zs.length → ∀ b off, a = some ⟨b, off, none⟩ → some b ≠ row) : RowK kd w' a zs := by
  intro i hi
  obtain ⟨b, off, rfl, hc⟩ := hr i hi
  exact ⟨b, off, rfl, hg.cell hc (hne (by omega) b off rfl)⟩
theorem OwnK.grown {kd : IntKind} {e : TypeId} {w w' : World} {base : Nat} {v : Value} {zs : List Int} {row : Option Nat} (h : OwnK kd e w base v zs) (hg : w.grownBy w' row) (hne : v.ownBlock = none ∨ v.ownBlock ≠ row) : OwnK kd e w' base v zs := World.ownsRow.kept h hg hne

set_option maxHeartbeats 400000 in
theorem wpI_grown {ops : Array Oper} {rest : List Oper} {o : Oper} {a : Act} {Q : Exit → Act → World → Prop} (hgd : o.guard = none) (s x : Operand)
    (ho : o.op = .call { callee := .builtin .append, args := #[s, x], argTypes := #[25, 25] }) (base : Nat) (W : World) (v : Value) (zs : List Int) (z : Int) (hs : a.eval s = v) (hown : OwnK .i64 3 W base v zs)
    (hx : a.eval x = .slice (some ⟨W.heap.size, 0, none⟩) 1 1) (hlen : (zs.length + 1) * 8 ≤ 140737488355328) (hbase : base ≤ W.heap.size)
    (h : ∀ v' w', W.grownBy w' v.ownBlock → wpList Tryd.prog ops Q rest (a.put o.dst v') w') : wpList Tryd.prog ops Q (o :: rest) a (W.alloc (.cells #[.int .i64 z] 3)) := by
  obtain ⟨i0, hi, hz0, hz1, hz2⟩ := info_parts Tryd.info3
  obtain ⟨v', w', hr, h2, h3, h4, h5⟩ := run_append_own_at (P := Tryd.prog) (W.alloc (.cells #[.int .i64 z] 3)) base 25 o.type 3 i0 (.int .i64 0) 1 8 Tryd.underlying25 hi hz0 hz1 hz2 rfl (by decide) v zs.length (zs.map (Value.int .i64)) (hown.alloc _) ⟨W.heap.size, 0, none⟩ 1 1 [.int .i64 z] (by simp)
    (by
      intro j u hu
      have hj : j = 0 := by
        rcases Nat.lt_or_ge j 1 with h | h
        · omega
        · rw [List.getElem?_eq_none (by simpa using h)] at hu; cases hu
      subst hj
      simp only [List.getElem?_cons_zero, Option.some.injEq] at hu
      subst hu
      rw [addr_add]
      simp)
    (by intro u hu; simp only [List.mem_singleton] at hu; subst hu; rfl) (by unfold maxLen; omega) hlen (by simp; omega)
  refine wpList_plain hgd fun _ hK => ?_
  unfold Oper.wp execOp
  simp only [ho, resolve, invoke, builtin, Sem.run_bind, Sem.run_pure, Result.andThen_ok, List.map_toArray, List.map_cons, List.map_nil, hs, hx, hr]
  exact hK _ _ (h v' w' ((World.grownBy_alloc W _ v.ownBlock).trans h3))

def OverPost (w : World) (v : Value) (e : Ending) (w' : World) : Prop := e = .returned (.tuple #[]) ∧ w.grownBy w' v.ownBlock
set_option maxHeartbeats 400000 in
theorem over_any (v : Value) (base : Nat) (zs : List Int) (w : World) (hv : OwnK .i64 3 w base v zs) (hbase : base ≤ w.heap.size) (hl : zs.length ≤ 65536) :
    Calls Tryd.prog 55 #[v] w (OverPost w v) := by
  rcases hv.2 with ⟨rfl, h0⟩ | ⟨g, cap, cs, rfl, hg, hh, _⟩
  · have hz : zs = [] := List.eq_nil_of_length_eq_zero h0
    subst hz
    have HV := Lib.hid hv
    clear hv h0
    go_enter Tryd.func55, Tryd.ntmps55
    go_wp2
    refine wp_loop_rounds 1 ?_
    rw [rounds_succ]
    go_wp2_with (at_builtin
                 refine wpI_grown rfl _ _ rfl base w (.slice none 0 0) [] 5 rfl HV.out rfl (by simp) hbase ?_
                 intro v1 w2 hp1
                 have HB := Lib.hid hp1
                 clear hp1)
    go_end0
    exact ⟨rfl, HB.out⟩
  · have HV := Lib.hid hv
    clear hv hh
    obtain ⟨n, hn⟩ : ∃ n, n = zs.length := ⟨_, rfl⟩
    have HN := Lib.hid hn
    rw [← hn] at hl HV ⊢
    clear hn
    go_enter Tryd.func55, Tryd.ntmps55
    go_wp2
    go_loopg [2] n (fun g1 i wr => ∃ (k : Nat) (ys : List Int), i = .int .i64 k ∧ k ≤ n ∧ n - k ≤ g1 ∧ w.heap.size ≤ wr.heap.size ∧ Hid (ys.length = n ∧ OwnK .i64 3 wr base (.slice (some ⟨g, 0, none⟩) n cap) ys ∧ w.grownBy wr (some g)))
    case atStart => exact ⟨0, zs, rfl, Nat.zero_le _, by omega, Nat.le_refl _, ⟨HN.out.symm, HV.out, World.grownBy.refl _ _⟩⟩
    case round =>
      obtain ⟨k, ys, rfl, hk, hg1, hsz, HI⟩ := hrel
      by_cases hlt : k < n
      · have hltz : (k : Int) < (n : Int) := by omega
        obtain ⟨c1, f1, hb1, hb2⟩ := OwnK.cellAt HI.out.1 HI.out.2.1 k hlt
        have HI2 : Hid ((ys.set k (-99)).length = n ∧ OwnK .i64 3 (wr.setCell ⟨g, k, none⟩ (.int .i64 (-99))) base (.slice (some ⟨g, 0, none⟩) n cap) (ys.set k (-99)) ∧ w.grownBy (wr.setCell ⟨g, k, none⟩ (.int .i64 (-99))) (some g)) :=
          ⟨by rw [List.length_set]; exact HI.out.1, OwnK.stored HI.out.1 HI.out.2.1 k (-99), HI.out.2.2.trans (grown_setCell _ ⟨g, k, none⟩ _)⟩
        clear HI
        go_wp2
        go_roundg (n - (k + 1))
        case measure => omega
        case rel => exact ⟨k + 1, _, by go_num, by omega, by omega, by simpa using hsz, HI2⟩
      · have hltz : ¬ (k : Int) < (n : Int) := by omega
        have hys : ys.length ≤ 65536 := by have := HI.out.1; omega
        go_wp2_with (at_builtin
                     refine wpI_grown rfl _ _ rfl base wr (.slice (some ⟨g, 0, none⟩) n cap) ys 5 rfl HI.out.2.1 rfl (by omega) (by omega) ?_
                     intro v1 w2 hp1
                     have HB : Hid (w.grownBy w2 (some g)) := HI.out.2.2.trans hp1
                     clear hp1)
        go_end0
        exact ⟨rfl, HB.out⟩
end Go.Proofs.YtfhppfbmnnkikaaDoor
