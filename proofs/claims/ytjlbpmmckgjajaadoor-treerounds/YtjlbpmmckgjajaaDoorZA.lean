/- Joined: M1 V1 V2 E1 E2 E3 E4 E5 E6 E7 E8 K0 K5 H10. -/
import Derived.Test.YtjlbpmmckgjajaaDoorRows
import Derived.Laws.BytesArg
import Derived.WalkKit
import Derived.WalkSpells
import Derived.WalkLawsBesides
import Derived.Lib.Hide
import Derived.IntWalk
import Derived.WalkMore
import Derived.ScopeJumps
import Derived.Maps.AppendAt
import Derived.OwnWalk
import Derived.Lib.AppendStr
import Derived.Below
import Derived.BigQuiet
import Derived.Deep.LoopGhost
import Derived.Deep.RegionHeld3
import Derived.StillTailTactics
import Derived.Deep.DeepCutAuto
import Derived.Deep.QuietTactic
import Derived.Lib.EndianBits
import Derived.Deep.CutRange
import Derived.Deep.DrawnRows

/- Numbers as bytes, mathematics alone: what is written, what is taken, and that they undo each other. -/
namespace Go.Proofs.YtjlbpmmckgjajaaDoor

/-- the bytes of a number -/
def enc (n : Nat) : List Int := if n < 128 then [(n : Int)] else ((n % 128 + 128 : Nat) : Int) :: enc (n / 128)
  termination_by n
  decreasing_by omega

theorem enc_small {n : Nat} (h : n < 128) : enc n = [(n : Int)] := by rw [enc, if_pos h]
theorem enc_big {n : Nat} (h : ¬ n < 128) : enc n = ((n % 128 + 128 : Nat) : Int) :: enc (n / 128) := by rw [enc, if_neg h]

def IsB (zs : List Int) : Prop := ∀ z ∈ zs, 0 ≤ z ∧ z < 256
theorem IsB.nil : IsB [] := fun z h => by simp at h
theorem IsB.cons {c : Int} {r : List Int} (h : IsB (c :: r)) : (0 ≤ c ∧ c < 256) ∧ IsB r := ⟨h c (by simp), fun z hz => h z (by simp [hz])⟩
theorem IsB.mk {c : Int} {r : List Int} (h : 0 ≤ c ∧ c < 256) (hr : IsB r) : IsB (c :: r) := fun z hz => by
  rcases List.mem_cons.1 hz with rfl | h'
  · exact h
  · exact hr z h'
theorem IsB.app {a b : List Int} (ha : IsB a) (hb : IsB b) : IsB (a ++ b) := fun z hz => by
  rcases List.mem_append.1 hz with h | h
  · exact ha z h
  · exact hb z h
theorem IsB.drop {a : List Int} (ha : IsB a) (k : Nat) : IsB (a.drop k) := fun z hz => ha z (List.mem_of_mem_drop hz)
theorem IsB.take {a : List Int} (ha : IsB a) (k : Nat) : IsB (a.take k) := fun z hz => ha z (List.mem_of_mem_take hz)
theorem IsB.getD {a : List Int} (ha : IsB a) {k : Nat} (hk : k < a.length) : 0 ≤ a.getD k 0 ∧ a.getD k 0 < 256 := by
  rw [List.getD_eq_getElem?_getD, List.getElem?_eq_getElem hk]; exact ha _ (List.getElem_mem hk)

theorem enc_isB (n : Nat) : IsB (enc n) := by
  induction n using Nat.strongRecOn with
  | ind n ih =>
    by_cases h : n < 128
    · rw [enc_small h]; exact IsB.mk (by omega) IsB.nil
    · rw [enc_big h]; exact IsB.mk (by omega) (ih _ (by omega))
theorem enc_len (n : Nat) : 1 ≤ (enc n).length := by
  by_cases h : n < 128
  · rw [enc_small h]; simp
  · rw [enc_big h]; simp
theorem enc_len_le (k : Nat) : ∀ n : Nat, n < 128 ^ (k + 1) → (enc n).length ≤ k + 1 := by
  induction k with
  | zero => intro n h; rw [enc_small (by simpa using h)]; simp
  | succ k ih =>
    intro n h
    by_cases h1 : n < 128
    · rw [enc_small h1]; simp
    · rw [enc_big h1, List.length_cons]
      have := ih (n / 128) (by rw [Nat.pow_succ] at h; exact Nat.div_lt_of_lt_mul (by omega))
      omega
theorem enc_len9 {n : Nat} (h : n ≤ 4611686018427387904) : (enc n).length ≤ 9 := by
  have e : (128 : Nat) ^ (8 + 1) = 9223372036854775808 := by decide
  exact enc_len_le 8 n (by omega)

/-- which number bytes begin with, how many they are, the error: from the i-th byte on, with what is there already -/
def tk (i : Nat) (acc : Int) : List Int → Int × Nat × Int
  | [] => (0, 0, 7)
  | c :: r => if 128 ≤ c then (if i = 8 then (0, 0, 1) else tk (i + 1) (acc + c % 128 * 128 ^ i) r) else if (c = 0 ∧ 0 < i) ∨ 4611686018427387904 < acc + c % 128 * 128 ^ i then (0, 0, 1) else (acc + c % 128 * 128 ^ i, i + 1, 0)
def tkN (bs : List Int) : Int × Nat × Int := tk 0 0 bs

theorem pow128 (i : Nat) : (0 : Int) < 128 ^ i := Int.pow_pos (by decide)
theorem pow128_lt {i j : Nat} (h : i ≤ j) : (128 : Int) ^ i ≤ 128 ^ j := by
  have := Nat.pow_le_pow_right (n := 128) (by decide) h
  exact_mod_cast this

theorem step_sum (acc x : Int) (i : Nat) : acc + x % 128 * 128 ^ i + x / 128 * 128 ^ (i + 1) = acc + x * 128 ^ i := by
  rw [Int.pow_succ]
  have h : x * 128 ^ i = (x / 128 * 128 + x % 128) * 128 ^ i := by rw [show x / 128 * 128 + x % 128 = x by omega]
  rw [h, Int.add_mul, Int.mul_assoc, Int.mul_comm 128]
  omega

theorem big_i {acc : Int} {m i : Nat} (h0 : 0 ≤ acc) (hm : 128 ≤ m) (h : acc + (m : Int) * 128 ^ i ≤ 4611686018427387904) : i ≤ 7 := by
  rcases Nat.lt_or_ge i 8 with h' | h'
  · omega
  · exfalso
    have h1 : (128 : Int) ^ 8 ≤ 128 ^ i := pow128_lt h'
    have h2 : (128 : Int) * 128 ^ i ≤ (m : Int) * 128 ^ i := Int.mul_le_mul_of_nonneg_right (by omega) (Int.le_of_lt (pow128 i))
    have h3 : (128 : Int) ^ 8 = 72057594037927936 := by decide
    omega

theorem enc_cons (m : Nat) : ∃ r, enc m = (if m < 128 then (m : Int) else ((m % 128 + 128 : Nat) : Int)) :: r ∧ (m < 128 → r = []) ∧ (¬ m < 128 → r = enc (m / 128)) := by
  by_cases h : m < 128
  · exact ⟨[], by rw [enc_small h, if_pos h], fun _ => rfl, fun h' => absurd h h'⟩
  · exact ⟨enc (m / 128), by rw [enc_big h, if_neg h], fun h' => absurd h' h, fun _ => rfl⟩

theorem tk_enc (m : Nat) : ∀ (i : Nat) (acc : Int) (x : List Int), 0 ≤ acc → (i = 0 ∨ 0 < m) → acc + (m : Int) * 128 ^ i ≤ 4611686018427387904 → tk i acc (enc m ++ x) = (acc + (m : Int) * 128 ^ i, i + (enc m).length, 0) := by
  induction m using Nat.strongRecOn with
  | ind m ih =>
    intro i acc x h0 hi hle
    by_cases h : m < 128
    · rw [enc_small h, List.singleton_append, tk, if_neg (by omega), show (m : Int) % 128 = m by omega, if_neg (by omega)]
      rfl
    · have h7 := big_i h0 (by omega) hle
      have e2 : (((m % 128 + 128 : Nat) : Int)) % 128 = (m : Int) % 128 := by omega
      have hs := step_sum acc m i
      have hp : 0 ≤ (m : Int) % 128 * 128 ^ i := Int.mul_nonneg (by omega) (Int.le_of_lt (pow128 i))
      have e3 : ((m / 128 : Nat) : Int) = (m : Int) / 128 := by omega
      rw [enc_big h, List.cons_append, tk, if_pos (by omega), if_neg (by omega), e2, ih (m / 128) (by omega) (i + 1) _ x (by omega) (.inr (by omega)) (by rw [e3]; omega), e3, hs, List.length_cons]
      simp only [Prod.mk.injEq, true_and, and_true]
      omega

theorem tk_cut (m : Nat) : ∀ (i j : Nat) (acc : Int), 0 ≤ acc → acc + (m : Int) * 128 ^ i ≤ 4611686018427387904 → j < (enc m).length → tk i acc ((enc m).take j) = (0, 0, 7) := by
  induction m using Nat.strongRecOn with
  | ind m ih =>
    intro i j acc h0 hle hj
    rcases Nat.eq_zero_or_pos j with rfl | hjp
    · rw [List.take_zero, tk]
    · by_cases h : m < 128
      · rw [enc_small h] at hj; simp at hj; omega
      · have h7 := big_i h0 (by omega) hle
        have e2 : (((m % 128 + 128 : Nat) : Int)) % 128 = (m : Int) % 128 := by omega
        have hs := step_sum acc m i
        have hp : 0 ≤ (m : Int) % 128 * 128 ^ i := Int.mul_nonneg (by omega) (Int.le_of_lt (pow128 i))
        have e3 : ((m / 128 : Nat) : Int) = (m : Int) / 128 := by omega
        obtain ⟨j', rfl⟩ : ∃ j', j = j' + 1 := ⟨j - 1, by omega⟩
        rw [enc_big h] at hj ⊢
        rw [List.take_succ_cons, tk, if_pos (by omega), if_neg (by omega), e2]
        exact ih (m / 128) (by omega) (i + 1) j' _ (by omega) (by rw [e3]; omega) (by rw [List.length_cons] at hj; omega)

theorem tk_back (bs : List Int) : ∀ (i : Nat) (acc : Int), IsB bs → 0 ≤ acc → (tk i acc bs).2.2 = 0 → ∃ m : Nat, (tk i acc bs).1 = acc + (m : Int) * 128 ^ i ∧ (tk i acc bs).1 ≤ 4611686018427387904 ∧ i < (tk i acc bs).2.1 ∧ (tk i acc bs).2.1 ≤ i + bs.length ∧ enc m = bs.take ((tk i acc bs).2.1 - i) ∧ (0 < i → 0 < m) := by
  induction bs with
  | nil => intro i acc _ _ h; simp [tk] at h
  | cons c r ih =>
    intro i acc hb h0 he
    obtain ⟨⟨c0, c1⟩, hr⟩ := hb.cons
    rw [tk] at he ⊢
    by_cases h : 128 ≤ c
    · rw [if_pos h] at he ⊢
      by_cases h8 : i = 8
      · rw [if_pos h8] at he; simp at he
      · rw [if_neg h8] at he ⊢
        have hp : 0 ≤ c % 128 * 128 ^ i := Int.mul_nonneg (by omega) (Int.le_of_lt (pow128 i))
        obtain ⟨m, h1, h2, h3, h4, h5, h6⟩ := ih (i + 1) _ hr (by omega) he
        have hm := h6 (by omega)
        refine ⟨(c % 128).toNat + 128 * m, ?_, h2, by omega, by rw [List.length_cons]; omega, ?_, fun _ => by omega⟩
        · rw [h1, Int.pow_succ, show (((c % 128).toNat + 128 * m : Nat) : Int) = c % 128 + 128 * (m : Int) by omega, Int.add_mul, show (m : Int) * (128 ^ i * 128) = 128 * (m : Int) * 128 ^ i by rw [← Int.mul_assoc, Int.mul_comm 128, Int.mul_right_comm]]
          omega
        · obtain ⟨k, hk⟩ : ∃ k, (tk (i + 1) (acc + c % 128 * 128 ^ i) r).2.1 - i = k + 1 := ⟨(tk (i + 1) (acc + c % 128 * 128 ^ i) r).2.1 - i - 1, by omega⟩
          have hk' : (tk (i + 1) (acc + c % 128 * 128 ^ i) r).2.1 - (i + 1) = k := by omega
          rw [hk, List.take_succ_cons, enc_big (by omega), show ((c % 128).toNat + 128 * m) / 128 = m by omega, h5, hk']
          congr 1
          omega
    · rw [if_neg h] at he ⊢
      split at he
      · simp at he
      · rename_i hn
        rw [if_neg hn]
        refine ⟨c.toNat, ?_, ?_, by simp, by simp, ?_, fun hi => by omega⟩
        · simp only
          rw [show c % 128 = c by omega, show ((c.toNat : Nat) : Int) = c by omega]
        · simp only; omega
        · rw [enc_small (by omega)]
          simp
          omega

/-- of an error nothing else is told -/
theorem tk_err (bs : List Int) : ∀ (i : Nat) (acc : Int), ((tk i acc bs).2.2 = 0 ∨ (tk i acc bs).2.2 = 1 ∨ (tk i acc bs).2.2 = 7) ∧ ((tk i acc bs).2.2 ≠ 0 → (tk i acc bs).1 = 0 ∧ (tk i acc bs).2.1 = 0) := by
  induction bs with
  | nil => intro i acc; simp [tk]
  | cons c r ih =>
    intro i acc
    rw [tk]
    split
    · split
      · simp
      · exact ih _ _
    · split <;> simp

theorem tkN_enc {n : Nat} (h : n ≤ 4611686018427387904) (x : List Int) : tkN (enc n ++ x) = ((n : Int), (enc n).length, 0) := by
  have := tk_enc n 0 0 x (by omega) (.inl rfl) (by omega)
  rw [tkN, this]
  simp
theorem tkN_cut {n : Nat} (h : n ≤ 4611686018427387904) {j : Nat} (hj : j < (enc n).length) : tkN ((enc n).take j) = (0, 0, 7) := tk_cut n 0 j 0 (by omega) (by omega) hj
theorem tkN_back {bs : List Int} (hb : IsB bs) (h : (tkN bs).2.2 = 0) : 0 ≤ (tkN bs).1 ∧ (tkN bs).1 ≤ 4611686018427387904 ∧ 0 < (tkN bs).2.1 ∧ (tkN bs).2.1 ≤ bs.length ∧ enc (tkN bs).1.toNat = bs.take (tkN bs).2.1 := by
  obtain ⟨m, h1, h2, h3, h4, h5, _⟩ := tk_back bs 0 0 hb (by omega) h
  unfold tkN at *
  refine ⟨by rw [h1]; omega, h2, h3, by omega, ?_⟩
  rw [h1]
  simp only [Int.pow_zero, Int.mul_one, Int.zero_add, Int.toNat_natCast, Nat.sub_zero] at h5 ⊢
  exact h5
theorem tkN_err (bs : List Int) : ((tkN bs).2.2 = 0 ∨ (tkN bs).2.2 = 1 ∨ (tkN bs).2.2 = 7) ∧ ((tkN bs).2.2 ≠ 0 → (tkN bs).1 = 0 ∧ (tkN bs).2.1 = 0) := tk_err bs 0 0

/-- texts -/
def strN (s : ByteArray) : List Int := s.data.toList.map fun b => (b.toNat : Int)
theorem strN_len (s : ByteArray) : (strN s).length = s.size := by simp [strN]
theorem strN_isB (s : ByteArray) : IsB (strN s) := fun z hz => by
  simp only [strN, List.mem_map] at hz
  obtain ⟨b, _, rfl⟩ := hz
  have := b.toNat_lt
  omega
theorem strOf_strN (s : ByteArray) : strOfNums (strN s) = s := by
  apply ByteArray.ext
  apply Array.toList_inj.1
  rw [strOfNums_data, strN, List.map_map]
  conv => rhs; rw [← List.map_id s.data.toList]
  apply List.map_congr_left
  intro b _
  simp

def tkS (bs : List Int) : ByteArray × Nat × Int :=
  if (tkN bs).2.2 ≠ 0 then (⟨#[]⟩, 0, (tkN bs).2.2) else if 65536 < (tkN bs).1 then (⟨#[]⟩, 0, 1) else if (bs.length : Int) - (tkN bs).2.1 < (tkN bs).1 then (⟨#[]⟩, 0, 7)
  else (strOfNums ((bs.drop (tkN bs).2.1).take (tkN bs).1.toNat), (tkN bs).2.1 + (tkN bs).1.toNat, 0)

theorem tkS_enc (s : ByteArray) (h : s.size ≤ 65536) (x : List Int) : tkS (enc s.size ++ strN s ++ x) = (s, (enc s.size ++ strN s).length, 0) := by
  have e := tkN_enc (n := s.size) (by omega) (strN s ++ x)
  unfold tkS
  rw [List.append_assoc, e]
  simp only
  rw [if_neg (by simp), if_neg (by omega), if_neg (by rw [List.length_append, List.length_append, strN_len]; omega)]
  rw [List.drop_left, Int.toNat_natCast, List.take_left' (strN_len s), strOf_strN, List.length_append, strN_len]
theorem tkS_cut (s : ByteArray) (h : s.size ≤ 65536) {j : Nat} (hj : j < (enc s.size ++ strN s).length) : tkS ((enc s.size ++ strN s).take j) = (⟨#[]⟩, 0, 7) := by
  rw [List.length_append, strN_len] at hj
  by_cases hc : j < (enc s.size).length
  · rw [List.take_append_of_le_length (by omega)]
    unfold tkS
    rw [tkN_cut (by omega) hc]
    simp
  · have e : (enc s.size ++ strN s).take j = enc s.size ++ (strN s).take (j - (enc s.size).length) := by
      rw [List.take_append, List.take_of_length_le (by omega)]
    have e2 := tkN_enc (n := s.size) (by omega) ((strN s).take (j - (enc s.size).length))
    unfold tkS
    rw [e, e2]
    simp only
    rw [if_neg (by simp), if_neg (by omega), if_pos (by rw [List.length_append, List.length_take, strN_len]; omega)]

/-- rows of numbers -/
def tkL (bs : List Int) : Nat → Nat → List Int → List Int × Nat × Int
  | 0, p, l => (l, p, 0)
  | c + 1, p, l => if (tkN (bs.drop p)).2.2 ≠ 0 then ([], 0, (tkN (bs.drop p)).2.2) else tkL bs c (p + (tkN (bs.drop p)).2.1) (l ++ [(tkN (bs.drop p)).1])
def tkNs (bs : List Int) : List Int × Nat × Int :=
  if (tkN bs).2.2 ≠ 0 then ([], 0, (tkN bs).2.2) else if 1024 < (tkN bs).1 then ([], 0, 1) else tkL bs (tkN bs).1.toNat (tkN bs).2.1 []

def numB (z : Int) : Bool := decide (0 ≤ z ∧ z ≤ 4611686018427387904)
def encs (l : List Int) : List Int := l.flatMap fun z => enc z.toNat
def encL (l : List Int) : List Int := enc l.length ++ encs l
theorem encs_isB (l : List Int) : IsB (encs l) := fun z hz => by
  obtain ⟨y, _, h⟩ := List.mem_flatMap.1 hz
  exact enc_isB _ z h
theorem encL_isB (l : List Int) : IsB (encL l) := (enc_isB _).app (encs_isB l)
theorem encs_cons (z : Int) (l : List Int) : encs (z :: l) = enc z.toNat ++ encs l := by simp [encs]
theorem encs_snoc (l : List Int) (z : Int) : encs (l ++ [z]) = encs l ++ enc z.toNat := by simp [encs]
theorem encs_len (l : List Int) (h : ∀ z ∈ l, numB z = true) : (encs l).length ≤ 9 * l.length := by
  induction l with
  | nil => simp [encs]
  | cons z r ih =>
    have hz := h z (by simp)
    simp only [numB, decide_eq_true_eq] at hz
    have h9 := enc_len9 (n := z.toNat) (by omega)
    have := ih fun y hy => h y (by simp [hy])
    rw [encs_cons, List.length_append, List.length_cons]
    omega

theorem tkL_enc (bs x : List Int) : ∀ (l : List Int) (p : Nat) (acc : List Int), (∀ z ∈ l, numB z = true) → bs.drop p = encs l ++ x → tkL bs l.length p acc = (acc ++ l, p + (encs l).length, 0) := by
  intro l
  induction l with
  | nil => intro p acc _ _; simp [tkL, encs]
  | cons z r ih =>
    intro p acc h hd
    have hz := h z (by simp)
    simp only [numB, decide_eq_true_eq] at hz
    rw [encs_cons, List.append_assoc] at hd
    have e := tkN_enc (n := z.toNat) (by omega) (encs r ++ x)
    rw [← hd] at e
    rw [List.length_cons, tkL, e]
    simp only
    rw [if_neg (by simp), show ((z.toNat : Nat) : Int) = z by omega, ih _ _ (fun y hy => h y (by simp [hy])) ?_]
    · rw [encs_cons]; simp [Nat.add_assoc]
    · rw [← List.drop_drop, hd, List.drop_left]
theorem tkNs_enc (l x : List Int) (h : ∀ z ∈ l, numB z = true) (hl : l.length ≤ 1024) : tkNs (encL l ++ x) = (l, (encL l).length, 0) := by
  have e := tkN_enc (n := l.length) (by omega) (encs l ++ x)
  unfold tkNs encL
  rw [List.append_assoc, e]
  simp only
  rw [if_neg (by simp), if_neg (by omega), Int.toNat_natCast, tkL_enc _ x l _ _ h (by rw [List.drop_left])]
  simp

/-- what was taken lies among the bytes -/
theorem tkL_le (bs : List Int) (hb : IsB bs) : ∀ (c p : Nat) (acc : List Int), p ≤ bs.length → (tkL bs c p acc).2.1 ≤ bs.length := by
  intro c
  induction c with
  | zero => intro p acc h; exact h
  | succ c ih =>
    intro p acc h
    rw [tkL]
    by_cases he : (tkN (bs.drop p)).2.2 = 0
    · rw [if_neg (by simp [he])]
      have := (tkN_back (hb.drop p) he).2.2.2.1
      rw [List.length_drop] at this
      exact ih _ _ (by omega)
    · rw [if_pos he]; simp

theorem tkN_k (bs : List Int) (hb : IsB bs) : (tkN bs).2.1 ≤ bs.length ∧ 0 ≤ (tkN bs).1 ∧ (tkN bs).1 ≤ 4611686018427387904 := by
  by_cases he : (tkN bs).2.2 = 0
  · have := tkN_back hb he; exact ⟨this.2.2.2.1, this.1, this.2.1⟩
  · have := (tkN_err bs).2 he; rw [this.1, this.2]; omega

theorem numsB_take (l : List Int) (k : Nat) (h : k < l.length) : (l.take (k + 1)).all numB = ((l.take k).all numB && numB (l.getD k 0)) := by
  rw [List.take_succ_eq_append_getElem h, List.all_append]
  simp [List.getD, h]
theorem numsB_no (l : List Int) (k : Nat) (h : k < l.length) (hn : numB (l.getD k 0) = false) : l.all numB = false := by
  rw [List.all_eq_false]
  refine ⟨l.getD k 0, ?_, by rw [hn]; decide⟩
  simp [List.getD, h]
theorem take_getD (l : List Int) (k : Nat) (h : k < l.length) : l.take (k + 1) = l.take k ++ [l.getD k 0] := by
  rw [List.take_succ_eq_append_getElem h]; simp [List.getD, h]
theorem drop_getD (l : List Int) (k : Nat) (h : k < l.length) : l.drop k = l.getD k 0 :: l.drop (k + 1) := by
  rw [List.drop_eq_getElem_cons h]; simp [List.getD, h]
end Go.Proofs.YtjlbpmmckgjajaaDoor

/- Words for rows of numbers of any kind: one that is read, one that the call owns, more behind it, a part of it. -/
namespace Go.Proofs.YtjlbpmmckgjajaaDoor
open Go.RowKit Go.Lib

theorem below_drewN {B : Nat} {a b : World} (h : Below B a b) (n : Nat) : Below B a (b.drewN n) := ⟨h.os, h.tape, h.output, h.size, h.block⟩

/-- a slice's elements, in a world -/
def RowK (kd : IntKind) (w : World) (a : Option Addr) (zs : List Int) : Prop :=
  ∀ i, i < zs.length → ∃ b off, a = some ⟨b, off, none⟩ ∧ w.cell? ⟨b, off + i, none⟩ = some (.int kd (zs.getD i 0))
theorem RowK.nil (kd : IntKind) (w : World) (a : Option Addr) : RowK kd w a [] := fun i hi => by simp at hi
theorem RowK.below {kd : IntKind} {w w' : World} {a : Option Addr} {zs : List Int} {B : Nat} (h : RowK kd w a zs) (hb : Below B w w') (hB : w.heap.size ≤ B) : RowK kd w' a zs := by
  intro i hi
  obtain ⟨b, off, rfl, hc⟩ := h i hi
  refine ⟨b, off, rfl, ?_⟩
  have := World.block_lt_of_cell? _ _ hc
  rw [hb.cell (p := ⟨b, off + i, none⟩) (by simp only at this ⊢; omega)]
  exact hc
theorem RowK.alloc {kd : IntKind} {w : World} {a : Option Addr} {zs : List Int} (h : RowK kd w a zs) (o : Obj) : RowK kd (w.alloc o) a zs := h.below ((Below.refl w.heap.size w).alloc (Nat.le_refl _) o) (Nat.le_refl _)
theorem RowK.drewN {kd : IntKind} {w : World} {a : Option Addr} {zs : List Int} (h : RowK kd w a zs) (n : Nat) : RowK kd (w.drewN n) a zs := h
/-- all blocks that the slice's elements lie in are below B -/
def RowLt (B : Nat) (a : Option Addr) (zs : List Int) : Prop := 0 < zs.length → ∃ b off, a = some ⟨b, off, none⟩ ∧ b < B
theorem RowK.rowLt {kd : IntKind} {w : World} {a : Option Addr} {zs : List Int} (h : RowK kd w a zs) : RowLt w.heap.size a zs := fun h0 => by
  obtain ⟨b, off, rfl, hc⟩ := h 0 h0
  exact ⟨b, off, rfl, World.block_lt_of_cell? _ _ hc⟩
theorem RowLt.mono {B B' : Nat} {a : Option Addr} {zs : List Int} (h : RowLt B a zs) (hb : B ≤ B') : RowLt B' a zs := fun h0 => by
  obtain ⟨b, off, e, hl⟩ := h h0
  exact ⟨b, off, e, by omega⟩
theorem RowK.below' {kd : IntKind} {w w' : World} {a : Option Addr} {zs : List Int} {B : Nat} (h : RowK kd w a zs) (hl : RowLt B a zs) (hb : Below B w w') : RowK kd w' a zs := by
  intro i hi
  obtain ⟨b, off, rfl, hc⟩ := h i hi
  refine ⟨b, off, rfl, ?_⟩
  obtain ⟨b', off', e, hlt⟩ := hl (by omega)
  simp only [Option.some.injEq, Addr.mk.injEq] at e
  rw [hb.cell (p := ⟨b, off + i, none⟩) (by simp only; omega)]
  exact hc

theorem addr_add (b off i : Nat) : (⟨b, off, none⟩ : Addr).add i = ⟨b, off + i, none⟩ := by unfold Addr.add; split <;> simp_all

/-- where a part of a slice begins -/
def partA (a : Option Addr) (l cap : Nat) : Option Addr := if cap = l then a else a.map (·.add l)
theorem RowK.part {kd : IntKind} {w : World} {a : Option Addr} {zs : List Int} (h : RowK kd w a zs) (l n cap : Nat) (hn : zs.length ≤ cap) : RowK kd w (partA a l cap) ((zs.drop l).take n) := by
  intro i hi
  rw [List.length_take, List.length_drop] at hi
  obtain ⟨b, off, rfl, hc⟩ := h (l + i) (by omega)
  refine ⟨b, off + l, ?_, ?_⟩
  · unfold partA
    rw [if_neg (by omega), Option.map_some, addr_add]
  · rw [Nat.add_assoc, hc]
    congr 2
    simp [List.getD, show i < n by omega]
theorem RowK.rest {kd : IntKind} {w : World} {a : Option Addr} {zs : List Int} (h : RowK kd w a zs) (l cap : Nat) (hn : zs.length ≤ cap) : RowK kd w (partA a l cap) (zs.drop l) := by
  have := h.part l zs.length cap hn
  rw [List.take_of_length_le (by rw [List.length_drop]; omega)] at this
  exact this
theorem RowK.first {kd : IntKind} {w : World} {a : Option Addr} {zs : List Int} (h : RowK kd w a zs) (n cap : Nat) (hn : zs.length ≤ cap) : RowK kd w (partA a 0 cap) (zs.take n) := by
  have := h.part 0 n cap hn
  rw [List.drop_zero] at this
  exact this

theorem Tryd.info3 : (Tryd.prog.info? 3).map (fun i => (i.zero, i.size, i.bytes)) = some (some (.int .i64 0), 1, 8) := by kernel_rfl
theorem Tryd.info5 : (Tryd.prog.info? 5).map (fun i => (i.zero, i.size, i.bytes)) = some (some (.int .u8 0), 1, 1) := by kernel_rfl
theorem size5 (w : World) : (Go.sizeOf 5).run Tryd.prog w = .ok 1 w := by
  obtain ⟨i0, hi, hz0, hz1, hz2⟩ := info_parts Tryd.info5
  simp [Go.sizeOf, typeInfo, hi, hz1]
theorem slice_lh (w : World) (a : Option Addr) (len cap l h : Nat) (zl zh : Int) (el : zl = (l : Int)) (eh : zh = (h : Int)) (h1 : l ≤ h) (h2 : h ≤ cap) :
    (Instr.slice 118 (.slice a len cap) (some (.int .i64 zl)) (some (.int .i64 zh)) none).run Tryd.prog w = .ok (.slice (partA a l cap) (h - l) (cap - l)) w := by
  subst el; subst eh
  have ht' : Tryd.prog.underlying 118 = some (.slice (Tryd.prog.elem 118)) := by simp [Program.elem, Tryd.underlying118]
  have he : Tryd.prog.elem 118 = 5 := by simp [Program.elem, Tryd.underlying118]
  rw [run_slice_lh w 118 _ _ _ ht' .i64 .i64 _ _ (by omega) (by omega) (by omega), he, size5]
  simp [Result.andThen, sliced, partA]
theorem slice_l (w : World) (a : Option Addr) (len cap l : Nat) (zl : Int) (el : zl = (l : Int)) (h1 : l ≤ len) :
    (Instr.slice 118 (.slice a len cap) (some (.int .i64 zl)) none none).run Tryd.prog w = .ok (.slice (partA a l cap) (len - l) (cap - l)) w := by
  subst el
  have ht' : Tryd.prog.underlying 118 = some (.slice (Tryd.prog.elem 118)) := by simp [Program.elem, Tryd.underlying118]
  have he : Tryd.prog.elem 118 = 5 := by simp [Program.elem, Tryd.underlying118]
  rw [run_slice_l w 118 _ _ _ ht' .i64 _ (by omega) (by omega), he, size5]
  simp [Result.andThen, sliced, partA]
theorem slice_h (w : World) (a : Option Addr) (len cap h : Nat) (zh : Int) (eh : zh = (h : Int)) (h1 : h ≤ cap) :
    (Instr.slice 118 (.slice a len cap) none (some (.int .i64 zh)) none).run Tryd.prog w = .ok (.slice (partA a 0 cap) h cap) w := by
  subst eh
  have ht' : Tryd.prog.underlying 118 = some (.slice (Tryd.prog.elem 118)) := by simp [Program.elem, Tryd.underlying118]
  have he : Tryd.prog.elem 118 = 5 := by simp [Program.elem, Tryd.underlying118]
  rw [run_slice_h w 118 _ _ _ ht' .i64 _ (by omega) (by omega), he, size5]
  simp [Result.andThen, sliced, partA]

/-- bytes as a text -/
theorem to_str (w : World) (a : Option Addr) (zs : List Int) (n cap : Nat) (hn : n = zs.length) (h : RowK .u8 w a zs) : (convert 118 9 (.slice a n cap)).run Tryd.prog w = .ok (.string (strOfNums zs)) w := by
  subst hn
  by_cases h0 : 0 < zs.length
  · obtain ⟨b, off, rfl, _⟩ := h 0 h0
    refine run_convert_bytes_arg w 118 5 Tryd.underlying118 Tryd.underlying5 b off zs.length cap zs rfl (fun i hi => ?_) 9 Tryd.underlying9
    obtain ⟨b', off', e, hc⟩ := h i hi
    simp only [Option.some.injEq, Addr.mk.injEq] at e
    obtain ⟨rfl, rfl, _⟩ := e
    exact hc
  · have hz : zs = [] := List.eq_nil_of_length_eq_zero (by omega)
    subst hz
    rw [run_convert_bytes_string w 118 9 5 a _ cap Tryd.underlying118 Tryd.underlying5 Tryd.underlying9]
    cases a with
    | none => simp [Conv.bytesToString, strOfNums]; rfl
    | some a =>
      rw [run_bytesToString w a _ cap [] (by simp [loadCells, loadCellsFrom])]
      simp [strOfNums]; rfl

/-- a row of numbers that the call has made -/
def OwnK (kd : IntKind) (e : TypeId) (w : World) (base : Nat) (v : Value) (zs : List Int) : Prop := w.ownsRow base e 1 v zs.length (zs.map (Value.int kd))

section
variable {kd : IntKind} {e : TypeId}
theorem OwnK.nil (kd : IntKind) (e : TypeId) (w : World) (base : Nat) : OwnK kd e w base (.slice none 0 0) [] := World.ownsRow_nil w base e 1
theorem OwnK.below {w w' : World} {base : Nat} {v : Value} {zs : List Int} (h : OwnK kd e w base v zs) (hb : Below w.heap.size w w') : OwnK kd e w' base v zs :=
  World.ownsRow.kept h (row := none) ⟨hb.os, hb.tape, hb.output, hb.size, fun k hk _ => hb.block k hk⟩ (by cases h : v.ownBlock <;> simp)
theorem OwnK.alloc {w : World} {base : Nat} {v : Value} {zs : List Int} (h : OwnK kd e w base v zs) (o : Obj) : OwnK kd e (w.alloc o) base v zs := World.ownsRow.alloc h o
theorem OwnK.drewN {w : World} {base : Nat} {v : Value} {zs : List Int} (h : OwnK kd e w base v zs) (n : Nat) : OwnK kd e (w.drewN n) base v zs := h
theorem OwnK.lt {w : World} {base : Nat} {v : Value} {zs : List Int} (h : OwnK kd e w base v zs) {g : Nat} (hg : v.ownBlock = some g) : base ≤ g ∧ g < w.heap.size := World.ownsRow.lt h g hg
theorem OwnK.mono {w : World} {base base' : Nat} {v : Value} {zs : List Int} (h : OwnK kd e w base v zs) (hb : base' ≤ base) : OwnK kd e w base' v zs := by
  refine ⟨h.1, ?_⟩
  rcases h.2 with hn | ⟨g, cap, cur, e, h1, h2⟩
  · exact .inl hn
  · exact .inr ⟨g, cap, cur, e, by omega, h2⟩
theorem OwnK.form {w : World} {base : Nat} {v : Value} {zs : List Int} (h : OwnK kd e w base v zs) : ∃ a cap, v = .slice a zs.length cap ∧ RowK kd w a zs ∧ zs.length ≤ cap ∧ cap ≤ 9223372036854775807 := by
  rcases h.2 with ⟨rfl, h0⟩ | ⟨g, cap, cur, rfl, hg, hh, hn, hm, hs, ht⟩
  · exact ⟨none, 0, by rw [h0], fun i hi => by omega, by omega, by omega⟩
  · have hc : ∀ i, i < zs.length → cur[i]? = some (.int kd (zs.getD i 0)) := by
      intro i hi
      have h1 : (cur.toList.take (zs.length * 1))[i]? = cur.toList[i]? := by rw [List.getElem?_take, if_pos (by omega)]
      rw [ht] at h1
      rw [← Array.getElem?_toList, ← h1, List.getElem?_map, List.getD_eq_getElem?_getD, List.getElem?_eq_getElem hi]
      rfl
    refine ⟨_, cap, rfl, fun i hi => ⟨g, 0, rfl, ?_⟩, hn, by simp only [maxLen] at hm; omega⟩
    rw [Nat.zero_add]
    simp [World.cell?, hh, hc i hi]

/-- none of the slice's elements lies in v's own row -/
def Ap (v : Value) (a : Option Addr) (zs : List Int) : Prop := 0 < zs.length → ∀ g, v.ownBlock = some g → ∃ b off, a = some ⟨b, off, none⟩ ∧ b ≠ g
theorem Ap.nil (a : Option Addr) (zs : List Int) : Ap (.slice none 0 0) a zs := fun _ g h => by simp [Value.ownBlock] at h
theorem Ap.of_lt {B : Nat} {v : Value} {a : Option Addr} {ys : List Int} (hl : RowLt B a ys) (hv : ∀ g, v.ownBlock = some g → B ≤ g) : Ap v a ys := fun h0 g hg => by
  obtain ⟨b, off, e, hb⟩ := hl h0
  exact ⟨b, off, e, by have := hv g hg; omega⟩
/-- all of the slice's elements lie from B on -/
def RowGe (B : Nat) (a : Option Addr) (zs : List Int) : Prop := 0 < zs.length → ∃ b off, a = some ⟨b, off, none⟩ ∧ B ≤ b
theorem Ap.of_ge {B : Nat} {v : Value} {a : Option Addr} {ys : List Int} (hl : RowGe B a ys) (hv : ∀ g, v.ownBlock = some g → g < B) : Ap v a ys := fun h0 g hg => by
  obtain ⟨b, off, e, hb⟩ := hl h0
  exact ⟨b, off, e, by have := hv g hg; omega⟩
theorem OwnK.rowGe {w : World} {base : Nat} {a : Option Addr} {n c : Nat} {zs : List Int} (h : OwnK kd e w base (.slice a n c) zs) : RowGe base a zs := fun h0 => by
  rcases h.2 with ⟨hv, h0'⟩ | ⟨g, cap, cur, hv, hg, _⟩
  · omega
  · simp only [Value.slice.injEq] at hv
    exact ⟨g, 0, hv.1, hg⟩

/-- what is told of the world behind more of them -/
structure Grew (kd : IntKind) (e : TypeId) (base : Nat) (W : World) (v : Value) (zs ys : List Int) (v' : Value) (w' : World) : Prop where
  own : OwnK kd e w' base v' (zs ++ ys)
  size : W.heap.size ≤ w'.heap.size
  bel : ∀ B (a : World), Below B a W → B ≤ base → B ≤ W.heap.size → Below B a w'
  oth : ∀ kd2 a2 us, RowK kd2 W a2 us → Ap v a2 us → RowK kd2 w' a2 us ∧ Ap v' a2 us

theorem grew_of {base : Nat} {W W1 : World} {v v' : Value} {zs ys : List Int} {w' : World} (hB : Below W.heap.size W W1) (hown : OwnK kd e W base v zs) (hs : W1.heap.size ≤ w'.heap.size)
    (h2 : OwnK kd e w' base v' (zs ++ ys)) (h3 : W1.grownBy w' v.ownBlock) (h5 : v'.ownBlock = v.ownBlock ∨ v'.ownBlock = some W1.heap.size) : Grew kd e base W v zs ys v' w' := by
  have hWs := hB.size
  refine ⟨h2, by omega, ?_, ?_⟩
  · intro B a0 hb hB1 hB2
    exact (hb.trans (hB.mono hB2)).grown h3 (by omega) (fun g hg => by have := (hown.lt hg).1; omega)
  · intro kd2 a2 us hr hd
    have hr1 : RowK kd2 W1 a2 us := hr.below hB (Nat.le_refl _)
    have hlt := hr.rowLt
    refine ⟨?_, ?_⟩
    · intro i hi
      obtain ⟨b, off, rfl, hc⟩ := hr1 i hi
      refine ⟨b, off, rfl, h3.cell hc ?_⟩
      intro hbv
      obtain ⟨b', off', ee, hne⟩ := hd (by omega) b hbv.symm
      simp only [Option.some.injEq, Addr.mk.injEq] at ee
      exact hne ee.1.symm
    · intro h0 g hg
      rcases h5 with h5 | h5
      · exact hd h0 g (h5.symm.trans hg)
      · obtain ⟨b, off, ee, hb⟩ := hlt h0
        rw [h5] at hg
        injection hg with hg
        exact ⟨b, off, ee, by omega⟩
end

theorem run_row {kd : IntKind} {e t ty : TypeId} {bytes : Nat} (hk : ∀ z, (Value.int kd z).oneCell' = true) (ht : Tryd.prog.underlying t = some (.slice e)) (hinfo : (Tryd.prog.info? e).map (fun i => (i.zero, i.size, i.bytes)) = some (some (.int kd 0), 1, bytes))
    (base : Nat) (W W1 : World) (v : Value) (zs ys : List Int) (a : Option Addr) (n c : Nat) (hB : Below W.heap.size W W1) (hn : n = ys.length) (hown : OwnK kd e W base v zs) (hx : RowK kd W1 a ys) (hlen : (zs.length + ys.length) * bytes ≤ 140737488355328) (hlen2 : zs.length + ys.length ≤ 140737488355328) (hbase : base ≤ W.heap.size) :
    ∃ v' w', (Builtin.append_ #[t, t] ty #[v, .slice a n c]).run Tryd.prog W1 = .ok v' w' ∧ Grew kd e base W v zs ys v' w' := by
  subst hn
  obtain ⟨i0, hi, hz0, hz1, hz2⟩ := info_parts hinfo
  have hown1 := hown.below hB
  have hWs := hB.size
  by_cases h0 : 0 < ys.length
  · obtain ⟨b, off, rfl, _⟩ := hx 0 h0
    obtain ⟨v', w', hr, h2, h3, h4, h5⟩ := run_append_own_at (P := Tryd.prog) W1 base t ty e i0 (.int kd 0) 1 bytes ht hi hz0 hz1 hz2 rfl (by decide) v zs.length (zs.map (Value.int kd)) hown1 ⟨b, off, none⟩ ys.length c (ys.map (Value.int kd)) (by simp)
      (by
        intro j u hu
        have hj : j < ys.length := by
          rcases Nat.lt_or_ge j ys.length with h | h
          · exact h
          · rw [List.getElem?_eq_none (by simpa using h)] at hu; cases hu
        obtain ⟨b', off', ee, hc⟩ := hx j hj
        simp only [Option.some.injEq, Addr.mk.injEq] at ee
        obtain ⟨rfl, rfl, _⟩ := ee
        rw [addr_add, hc, ← hu, List.getElem?_map, List.getD_eq_getElem?_getD, List.getElem?_eq_getElem hj]; rfl)
      (by intro u hu; simp only [List.mem_map] at hu; obtain ⟨z, _, rfl⟩ := hu; exact hk z) (by unfold maxLen; omega) hlen (by omega)
    refine ⟨v', w', hr, grew_of hB hown h3.size ?_ h3 h5⟩
    unfold OwnK
    rw [List.length_append, List.map_append]
    exact h2
  · have hy : ys = [] := List.eq_nil_of_length_eq_zero (by omega)
    subst hy
    have hf : ∀ (x : Option Addr), (Builtin.firstCells 1 0 (.slice x 0 c)).run Tryd.prog W1 = .ok #[] W1 := by
      intro x; cases x <;> simp [Builtin.firstCells, loadCells, loadCellsFrom]
    rcases hown1.2 with ⟨rfl, hz⟩ | ⟨g, cap, cur, rfl, hg, hh, hnc, hm, hs, htk⟩
    · refine ⟨.slice none 0 0, W1, ?_, ⟨by rw [List.append_nil]; exact hown1, hWs, fun B a0 hb h1 h2 => hb.trans (hB.mono h2), fun kd2 a2 us hr hd => ⟨hr.below hB (Nat.le_refl _), hd⟩⟩⟩
      simp [Builtin.append_, run_underlying ht, Go.sizeOf, typeInfo, hi, hz1, Builtin.lenOf, hf]
    · refine ⟨.slice (some ⟨g, 0, none⟩) zs.length cap, W1, ?_, ⟨by rw [List.append_nil]; exact hown1, hWs, fun B a0 hb h1 h2 => hb.trans (hB.mono h2), fun kd2 a2 us hr hd => ⟨hr.below hB (Nat.le_refl _), hd⟩⟩⟩
      simp [Builtin.append_, run_underlying ht, Go.sizeOf, typeInfo, hi, hz1, Builtin.lenOf, hf, hnc, storeCells]
end Go.Proofs.YtjlbpmmckgjajaaDoor

/- One more, a row more, a text more: for the walk. The small functions. -/
namespace Go.Proofs.YtjlbpmmckgjajaaDoor
open Go.RowKit Go.Lib

theorem one_row (kd : IntKind) (e : TypeId) (W : World) (z : Int) : RowK kd (W.alloc (.cells #[.int kd z] e)) (some ⟨W.heap.size, 0, none⟩) [z] := by
  intro i hi
  simp only [List.length_cons, List.length_nil] at hi
  obtain rfl : i = 0 := by omega
  exact ⟨W.heap.size, 0, rfl, by simp⟩

set_option maxHeartbeats 400000 in
theorem wpB_one {ops : Array Oper} {rest : List Oper} {o : Oper} {a : Act} {Q : Exit → Act → World → Prop} (hgd : o.guard = none) (s x : Operand)
    (ho : o.op = .call { callee := .builtin .append, args := #[s, x], argTypes := #[118, 118] }) (base : Nat) (W : World) (v : Value) (zs : List Int) (z : Int) (hs : a.eval s = v) (hown : OwnK .u8 5 W base v zs)
    (hx : a.eval x = .slice (some ⟨W.heap.size, 0, none⟩) 1 1) (hlen : zs.length + 1 ≤ 140737488355328) (hbase : base ≤ W.heap.size)
    (h : ∀ v' w', Grew .u8 5 base W v zs [z] v' w' → wpList Tryd.prog ops Q rest (a.put o.dst v') w') : wpList Tryd.prog ops Q (o :: rest) a (W.alloc (.cells #[.int .u8 z] 5)) := by
  obtain ⟨v', w', hr, hg⟩ := run_row (t := 118) (ty := o.type) (bytes := 1) (fun _ => rfl) Tryd.underlying118 Tryd.info5 base W _ v zs [z] _ 1 1 ((Below.refl W.heap.size W).alloc (Nat.le_refl _) _) rfl hown (one_row .u8 5 W z) (by simpa using hlen) (by simpa using hlen) hbase
  refine wpList_plain hgd fun _ hK => ?_
  unfold Oper.wp execOp
  simp only [ho, resolve, invoke, builtin, Sem.run_bind, Sem.run_pure, Result.andThen_ok, List.map_toArray, List.map_cons, List.map_nil, hs, hx, hr]
  exact hK _ _ (h v' w' hg)

set_option maxHeartbeats 400000 in
theorem wpI_one {ops : Array Oper} {rest : List Oper} {o : Oper} {a : Act} {Q : Exit → Act → World → Prop} (hgd : o.guard = none) (s x : Operand)
    (ho : o.op = .call { callee := .builtin .append, args := #[s, x], argTypes := #[37, 37] }) (base : Nat) (W : World) (v : Value) (zs : List Int) (z : Int) (hs : a.eval s = v) (hown : OwnK .i64 3 W base v zs)
    (hx : a.eval x = .slice (some ⟨W.heap.size, 0, none⟩) 1 1) (hlen : (zs.length + 1) * 8 ≤ 140737488355328) (hbase : base ≤ W.heap.size)
    (h : ∀ v' w', Grew .i64 3 base W v zs [z] v' w' → wpList Tryd.prog ops Q rest (a.put o.dst v') w') : wpList Tryd.prog ops Q (o :: rest) a (W.alloc (.cells #[.int .i64 z] 3)) := by
  obtain ⟨v', w', hr, hg⟩ := run_row (t := 37) (ty := o.type) (bytes := 8) (fun _ => rfl) Tryd.underlying37 Tryd.info3 base W _ v zs [z] _ 1 1 ((Below.refl W.heap.size W).alloc (Nat.le_refl _) _) rfl hown (one_row .i64 3 W z) (by simpa using hlen) (by simp; omega) hbase
  refine wpList_plain hgd fun _ hK => ?_
  unfold Oper.wp execOp
  simp only [ho, resolve, invoke, builtin, Sem.run_bind, Sem.run_pure, Result.andThen_ok, List.map_toArray, List.map_cons, List.map_nil, hs, hx, hr]
  exact hK _ _ (h v' w' hg)

set_option maxHeartbeats 400000 in
theorem wpB_row {ops : Array Oper} {rest : List Oper} {o : Oper} {a : Act} {Q : Exit → Act → World → Prop} (hgd : o.guard = none) (s x : Operand)
    (ho : o.op = .call { callee := .builtin .append, args := #[s, x], argTypes := #[118, 118] }) (base : Nat) (W : World) (v : Value) (zs ys : List Int) (ax : Option Addr) (n c : Nat) (hn : n = ys.length) (hs : a.eval s = v) (hown : OwnK .u8 5 W base v zs)
    (hx : a.eval x = .slice ax n c) (hrow : RowK .u8 W ax ys) (hlen : zs.length + ys.length ≤ 140737488355328) (hbase : base ≤ W.heap.size)
    (h : ∀ v' w', Grew .u8 5 base W v zs ys v' w' → wpList Tryd.prog ops Q rest (a.put o.dst v') w') : wpList Tryd.prog ops Q (o :: rest) a W := by
  obtain ⟨v', w', hr, hg⟩ := run_row (t := 118) (ty := o.type) (bytes := 1) (fun _ => rfl) Tryd.underlying118 Tryd.info5 base W W v zs ys ax n c (Below.refl W.heap.size W) hn hown hrow (by omega) hlen hbase
  refine wpList_plain hgd fun _ hK => ?_
  unfold Oper.wp execOp
  simp only [ho, resolve, invoke, builtin, Sem.run_bind, Sem.run_pure, Result.andThen_ok, List.map_toArray, List.map_cons, List.map_nil, hs, hx, hr]
  exact hK _ _ (h v' w' hg)

theorem strCells_strN (s : ByteArray) : strCells s = (strN s).map (Value.int .u8) := by simp [strCells, strN]

set_option maxHeartbeats 400000 in
theorem wpB_str {ops : Array Oper} {rest : List Oper} {o : Oper} {a : Act} {Q : Exit → Act → World → Prop} (hgd : o.guard = none) (s x : Operand)
    (ho : o.op = .call { callee := .builtin .append, args := #[s, x], argTypes := #[118, 9] }) (base : Nat) (W : World) (v : Value) (zs : List Int) (t : ByteArray) (hs : a.eval s = v) (hown : OwnK .u8 5 W base v zs)
    (hx : a.eval x = .string t) (hlen : zs.length + t.size ≤ 140737488355328) (hbase : base ≤ W.heap.size)
    (h : ∀ v' w', OwnK .u8 5 w' base v' (zs ++ strN t) → Below base W w' → wpList Tryd.prog ops Q rest (a.put o.dst v') w') : wpList Tryd.prog ops Q (o :: rest) a W := by
  obtain ⟨i0, hi, hz0, hz1, hz2⟩ := info_parts Tryd.info5
  obtain ⟨v', w', hr, h2, h3, _⟩ := run_append_own_string (P := Tryd.prog) W base 118 9 o.type 5 i0 Tryd.underlying118 Tryd.underlying9 hi hz0 hz1 hz2 v zs.length _ hown t (by unfold maxLen; omega) hlen hbase
  refine wpList_plain hgd fun _ hK => ?_
  unfold Oper.wp execOp
  simp only [ho, resolve, invoke, builtin, Sem.run_bind, Sem.run_pure, Result.andThen_ok, List.map_toArray, List.map_cons, List.map_nil, hs, hx, hr]
  refine hK _ _ (h v' w' ?_ ((Below.refl base W).grown h3 hbase (fun g hg => (hown.lt hg).1)))
  unfold OwnK
  rw [List.length_append, List.map_append, strN_len, ← strCells_strN]
  exact h2

theorem ret_int {k : IntKind} {a b : Int} (h : a = b) : Ending.returned (.int k a) = .returned (.int k b) := by rw [h]
theorem ret_bool {a b : Bool} (h : a = b) : Ending.returned (.bool a) = .returned (.bool b) := by rw [h]

theorem numB_no {z : Int} (h : numB z = false) : z < 0 ∨ 4611686018427387904 < z := by simp [numB] at h; omega

def needB (g k : Int) : Bool := decide (g = 0 ∧ 1 < k)
def modW (z : Int) : Int := z % 4611686018427387904
set_option maxHeartbeats 400000 in
theorem within_any (z : Int) (w : World) : Calls Tryd.prog 21 #[.int .i64 z, .int .i64 4611686018427387904] w fun e w' => e = .returned (.int .i64 (modW z)) ∧ w = w' := by
  go_enter Tryd.func21, Tryd.ntmps21
  go_wp2
  go_ret
  refine ⟨ret_int ?_, rfl⟩
  unfold modW
  rw [IntKind.wrap_u64, Int.tmod_eq_emod_of_nonneg (by omega)]
  have h : z % 18446744073709551616 % 4611686018427387904 = z % 4611686018427387904 := by omega
  rw [h]
  have h0 : 0 ≤ z % 4611686018427387904 := by omega
  have h1 : z % 4611686018427387904 < 4611686018427387904 := by omega
  generalize z % 4611686018427387904 = y at *
  exact IntWalk.wrap64_in y (by omega)
end Go.Proofs.YtjlbpmmckgjajaaDoor

/- The bytes of a number, put behind others. -/
namespace Go.Proofs.YtjlbpmmckgjajaaDoor
open Go.RowKit Go.Lib
set_option linter.unusedVariables false

def AppPost (base : Nat) (w : World) (zs : List Int) (e : Ending) (w' : World) : Prop := ∃ v', e = .returned v' ∧ OwnK .u8 5 w' base v' zs ∧ Below base w w'
def AppI (base : Nat) (w : World) (all : List Int) (v : Value) (m : Nat) (w' : World) : Prop := ∃ cur, OwnK .u8 5 w' base v cur ∧ cur ++ enc m = all ∧ Below base w w' ∧ base ≤ w'.heap.size
def AppJ (base : Nat) (w : World) (all : List Int) (a' : Act) (w' : World) : Prop :=
  ∃ (v : Value) (m : Nat) (z : Int) (u2 u3 u4 u5 u6 u7 u8 u9 u10 u11 u12 u13 u14 u15 u16 u17 u18 u19 u20 : Value), a' = { tmps := #[v, .int .i64 z, u2, u3, u4, u5, u6, u7, u8, u9, u10, u11, u12, u13, u14, u15, u16, u17, u18, u19, u20], defers := [] } ∧ z = (m : Int) ∧ m ≤ 4611686018427387904 ∧ AppI base w all v m w'

theorem app_last {base : Nat} {w w2 w' : World} {all cur : List Int} {v v' : Value} {m : Nat} {z : Int} (hm : m < 128) (hz : z = (m : Int)) (he : cur ++ enc m = all) (hb : Below base w w2) (hs : base ≤ w2.heap.size) (h : Grew .u8 5 base w2 v cur [z] v' w') : AppPost base w all (.returned v') w' := by
  refine ⟨v', rfl, ?_, h.bel base w hb (Nat.le_refl _) hs⟩
  have := h.own
  rw [hz, ← enc_small hm, he] at this
  exact this
theorem app_next {base : Nat} {w w2 w' : World} {all cur : List Int} {v v' : Value} {m : Nat} {z : Int} (hm : ¬ m < 128) (hz : z = ((m % 128 + 128 : Nat) : Int)) (he : cur ++ enc m = all) (hb : Below base w w2) (hs : base ≤ w2.heap.size) (h : Grew .u8 5 base w2 v cur [z] v' w') : AppI base w all v' (m / 128) w' := by
  refine ⟨cur ++ [z], h.own, ?_, h.bel base w hb (Nat.le_refl _) hs, Nat.le_trans hs h.size⟩
  rw [hz, ← he, enc_big hm, List.append_assoc]
  rfl
theorem app_len {all cur : List Int} {m k : Nat} (he : cur ++ enc m = all) (hl : all.length ≤ k) : cur.length + 1 ≤ k := by
  have h1 := enc_len m
  have h2 := congrArg List.length he
  rw [List.length_append] at h2
  omega

end Go.Proofs.YtjlbpmmckgjajaaDoor

/- The page's Num; the program's Num. -/
namespace Go.Proofs.YtjlbpmmckgjajaaDoor
open Go.RowKit Go.Lib
set_option linter.unusedVariables false

theorem wraps_i64 (n : Int) (h₀ : 0 ≤ n) (h₁ : n < 2 ^ 63) : IntKind.i64.wrap n = n := by rw [IntKind.wrap_i64]; omega
theorem and127 (x : Int) (h0 : 0 ≤ x) (h1 : x ≤ 4611686018427387904) : bits .and .i64 x 127 = x % 128 := bits_mask .i64 63 (by decide) wraps_i64 7 (by decide) x h0 (by omega)
theorem or128 (x : Int) (h0 : 0 ≤ x) (h1 : x < 128) : bits .or .u8 x 128 = x + 128 := by
  have h := bits_join .u8 8 (by decide) wraps_u8 7 128 x (by decide) (by decide) (by decide) h0 (by omega) (by omega)
  obtain ⟨b, rfl⟩ := Int.eq_ofNat_of_zero_le h0
  have e : (128 : Int) = ((128 : Nat) : Int) := rfl
  rw [e] at h ⊢
  rw [(bits_nat .u8 8 (by decide) wraps_u8 128 b (by decide) (by omega)).2] at h
  rw [(bits_nat .u8 8 (by decide) wraps_u8 b 128 (by omega) (by decide)).2, Nat.or_comm, h]
  omega

/-- what Num, Text, Nums tell -/
def BytesPost (w : World) (zs : List Int) (e : Ending) (w' : World) : Prop := ∃ v', e = .returned (.tuple #[v', .int .i64 0]) ∧ OwnK .u8 5 w' w.heap.size v' zs ∧ Below w.heap.size w w'

end Go.Proofs.YtjlbpmmckgjajaaDoor

/- Which number bytes begin with: the program's TakeNum. -/
namespace Go.Proofs.YtjlbpmmckgjajaaDoor
open Go.RowKit Go.Lib
set_option linter.unusedVariables false

def TakePost (bs : List Int) (w : World) (e : Ending) (w' : World) : Prop := e = .returned (.tuple #[.int .i64 (tkN bs).1, .int .i64 ((tkN bs).2.1 : Int), .int .i64 (tkN bs).2.2]) ∧ w = w'
def TakeJ (a : Option Addr) (bs : List Int) (cap : Nat) (w : World) (a' : Act) (w' : World) : Prop :=
  ∃ (i : Nat) (acc z : Int) (u1 u4 u5 u6 u7 u8 u9 u10 u11 u12 u13 u14 u15 u16 u17 u18 u19 u20 u21 u22 u23 u24 u25 u26 u27 u28 u29 u30 u31 u32 u33 u34 u35 u36 u37 u38 u39 u40 u41 u42 u43 u44 u45 u46 u47 u48 u49 : Value), a' = { tmps := #[.slice a bs.length cap, u1, .int .i64 acc, .int .i64 z, u4, u5, u6, u7, u8, u9, u10, u11, u12, u13, u14, u15, u16, u17, u18, u19, u20, u21, u22, u23, u24, u25, u26, u27, u28, u29, u30, u31, u32, u33, u34, u35, u36, u37, u38, u39, u40, u41, u42, u43, u44, u45, u46, u47, u48, u49], defers := [] } ∧ z = (i : Int) ∧ i ≤ 8 ∧ 0 ≤ acc ∧ acc < 128 ^ i ∧ i ≤ bs.length ∧ tk i acc (bs.drop i) = tkN bs ∧ w = w'

theorem tk_at (bs : List Int) (i : Nat) (acc : Int) (h : i < bs.length) : tk i acc (bs.drop i) = if 128 ≤ bs.getD i 0 then (if i = 8 then (0, 0, 1) else tk (i + 1) (acc + bs.getD i 0 % 128 * 128 ^ i) (bs.drop (i + 1))) else if (bs.getD i 0 = 0 ∧ 0 < i) ∨ 4611686018427387904 < acc + bs.getD i 0 % 128 * 128 ^ i then (0, 0, 1) else (acc + bs.getD i 0 % 128 * 128 ^ i, i + 1, 0) := by
  rw [drop_getD bs i h, tk]

theorem tk_form {bs : List Int} {w : World} {i : Nat} {s c g : Int} {R : Int × Nat × Int} (h : tkN bs = if 128 ≤ c then R else if (c = 0 ∧ 0 < i) ∨ 4611686018427387904 < s then (0, 0, 1) else (s, i + 1, 0)) (hl : c < 128) (hg : g = c) (hn : needB g ((i : Int) + 1) = true ∨ numB s = false) (h0 : 0 ≤ s) :
    TakePost bs w (.returned (.tuple #[.int .i64 0, .int .i64 0, .int .i64 1])) w := by
  rw [if_neg (by omega), if_pos ?_] at h
  · exact ⟨by rw [h]; rfl, rfl⟩
  · rcases hn with hn | hn
    · simp only [needB, decide_eq_true_eq] at hn
      exact .inl ⟨by omega, by omega⟩
    · have := numB_no hn
      exact .inr (by omega)
theorem tk_ok {bs : List Int} {w : World} {i : Nat} {s c g : Int} {R : Int × Nat × Int} (h : tkN bs = if 128 ≤ c then R else if (c = 0 ∧ 0 < i) ∨ 4611686018427387904 < s then (0, 0, 1) else (s, i + 1, 0)) (hl : c < 128) (hg : g = c) (hn : needB g ((i : Int) + 1) = false) (hb : numB s = true) :
    TakePost bs w (.returned (.tuple #[.int .i64 s, .int .i64 ((i : Int) + 1), .int .i64 0])) w := by
  simp only [needB, decide_eq_false_iff_not] at hn
  simp only [numB, decide_eq_true_eq] at hb
  rw [if_neg (by omega), if_neg (by omega)] at h
  exact ⟨by rw [h]; rfl, rfl⟩
theorem tk_more {bs : List Int} {i : Nat} {c : Int} {R S : Int × Nat × Int} (h : tkN bs = if 128 ≤ c then (if i = 8 then (0, 0, 1) else R) else S) (hl : ¬ c < 128) (h8 : ¬ i = 8) : R = tkN bs := by
  rw [if_pos (by omega), if_neg h8] at h
  exact h.symm
theorem tk_nine {bs : List Int} {w : World} {c : Int} {R S : Int × Nat × Int} (h : tkN bs = if 128 ≤ c then (if 8 = 8 then (0, 0, 1) else R) else S) (hl : ¬ c < 128) : TakePost bs w (.returned (.tuple #[.int .i64 0, .int .i64 0, .int .i64 1])) w := by
  rw [if_pos (by omega), if_pos rfl] at h
  exact ⟨by rw [h]; rfl, rfl⟩
theorem or_low (i : Nat) (acc p : Int) (ha0 : 0 ≤ acc) (ha1 : acc < 2 ^ i) (hp0 : 0 ≤ p) (hp : p % 2 ^ i = 0) (h : acc + p ≤ 9223372036854775807) : bits .or .i64 acc p = acc + p :=
  bits_join_low .i64 63 (by decide) wraps_i64 i acc p ha0 ha1 (by omega) hp0 hp (by omega)
theorem pow_128 (i : Nat) : (128 : Int) ^ i = 2 ^ (7 * i) := by rw [Int.pow_mul]; rfl
theorem or_at {i : Nat} {acc p g : Int} (hp : p = g * 128 ^ i) (hg0 : 0 ≤ g) (ha0 : 0 ≤ acc) (ha1 : acc < 128 ^ i) (h : acc + p ≤ 9223372036854775807) : bits .or .i64 acc p = acc + p := by
  refine or_low (7 * i) acc p ha0 (by rw [← pow_128]; exact ha1) (by rw [hp]; exact Int.mul_nonneg hg0 (Int.le_of_lt (pow128 i))) ?_ h
  rw [hp, ← pow_128, Int.mul_emod_left]
theorem acc_lt {i : Nat} {acc p g : Int} (hp : p = g * 128 ^ i) (hg1 : g < 128) (ha1 : acc < 128 ^ i) : acc + p < 128 ^ (i + 1) := by
  have h1 : g * 128 ^ i ≤ 127 * 128 ^ i := Int.mul_le_mul_of_nonneg_right (by omega) (Int.le_of_lt (pow128 i))
  rw [hp, Int.pow_succ]
  omega

end Go.Proofs.YtjlbpmmckgjajaaDoor

/- Which number bytes begin with: the page's TakeNum; takeCount; texts. -/
namespace Go.Proofs.YtjlbpmmckgjajaaDoor
open Go.RowKit Go.Lib
set_option linter.unusedVariables false

theorem or_at64 {i : Nat} {acc p g : Int} (hp : p = g * 128 ^ i) (hg0 : 0 ≤ g) (ha0 : 0 ≤ acc) (ha1 : acc < 128 ^ i) (h : acc + p ≤ 9223372036854775807) : bits .or .u64 acc p = acc + p := by
  have hp0 : 0 ≤ p := by rw [hp]; exact Int.mul_nonneg hg0 (Int.le_of_lt (pow128 i))
  refine bits_join_low .u64 64 (by decide) wraps_u64 (7 * i) acc p ha0 (by rw [← pow_128]; exact ha1) (by omega) hp0 ?_ (by omega)
  rw [hp, ← pow_128, Int.mul_emod_left]
theorem and127b (x : Int) (h0 : 0 ≤ x) (h1 : x < 256) : bits .and .u8 x 127 = x % 128 := bits_mask .u8 8 (by decide) wraps_u8 7 (by decide) x h0 (by omega)

theorem tk_bad {bs : List Int} {w : World} {i : Nat} {s c : Int} {R : Int × Nat × Int} (h : tkN bs = if 128 ≤ c then R else if (c = 0 ∧ 0 < i) ∨ 4611686018427387904 < s then (0, 0, 1) else (s, i + 1, 0)) (hl : ¬ 128 ≤ c) (hn : (c = 0 ∧ 0 < i) ∨ 4611686018427387904 < s) :
    TakePost bs w (.returned (.tuple #[.int .i64 0, .int .i64 0, .int .i64 1])) w := by
  rw [if_neg hl, if_pos hn] at h
  exact ⟨by rw [h]; rfl, rfl⟩
theorem tk_good {bs : List Int} {w : World} {i : Nat} {s c : Int} {R : Int × Nat × Int} (h : tkN bs = if 128 ≤ c then R else if (c = 0 ∧ 0 < i) ∨ 4611686018427387904 < s then (0, 0, 1) else (s, i + 1, 0)) (hl : ¬ 128 ≤ c) (hn : ¬ ((c = 0 ∧ 0 < i) ∨ 4611686018427387904 < s)) :
    TakePost bs w (.returned (.tuple #[.int .i64 s, .int .i64 ((i : Int) + 1), .int .i64 0])) w := by
  rw [if_neg hl, if_neg hn] at h
  exact ⟨by rw [h]; rfl, rfl⟩

end Go.Proofs.YtjlbpmmckgjajaaDoor

/- How many follow; texts. -/
namespace Go.Proofs.YtjlbpmmckgjajaaDoor
open Go.RowKit Go.Lib
set_option linter.unusedVariables false

/-- the number that says how many follow, at most so many -/
def tkC (bs : List Int) (m : Int) : Int × Nat × Int := if (tkN bs).2.2 ≠ 0 then (0, 0, (tkN bs).2.2) else if m < (tkN bs).1 then (0, 0, 1) else tkN bs

def TextPost (bs : List Int) (w : World) (e : Ending) (w' : World) : Prop := e = .returned (.tuple #[.string (tkS bs).1, .int .i64 ((tkS bs).2.1 : Int), .int .i64 (tkS bs).2.2]) ∧ w = w'

end Go.Proofs.YtjlbpmmckgjajaaDoor

/- Rows of numbers as bytes. -/
namespace Go.Proofs.YtjlbpmmckgjajaaDoor
open Go.RowKit Go.Lib
set_option linter.unusedVariables false

def numsOK (l : List Int) : Bool := l.all numB && decide (l.length ≤ 1024)

theorem encL_take {l : List Int} {k : Nat} (h : k < l.length) : enc l.length ++ encs (l.take (k + 1)) = enc l.length ++ encs (l.take k) ++ enc (l.getD k 0).toNat := by
  rw [take_getD l k h, encs_snoc, List.append_assoc]
theorem encs_take_len {l : List Int} (k : Nat) (h : (l.take k).all numB = true) (hl : l.length ≤ 1024) : (enc l.length ++ encs (l.take k)).length ≤ 9225 := by
  have h1 := encs_len (l.take k) (fun z hz => (List.all_eq_true.1 h) z hz)
  have h2 := enc_len9 (n := l.length) (by omega)
  rw [List.length_append]
  rw [List.length_take] at h1
  omega

def NoPost (w : World) (e : Ending) (w' : World) : Prop := e = .returned (.tuple #[.slice none 0 0, .int .i64 1]) ∧ Below w.heap.size w w'

def NumsPost (w : World) (l : List Int) (e : Ending) (w' : World) : Prop := if numsOK l then BytesPost w (encL l) e w' else NoPost w e w'
theorem numsPost_no {w w' : World} {l : List Int} {e : Ending} (h : numsOK l = false) (hp : NoPost w e w') : NumsPost w l e w' := by unfold NumsPost; rw [h]; exact hp
theorem numsPost_yes {w w' : World} {l : List Int} {e : Ending} (h : numsOK l = true) (hp : BytesPost w (encL l) e w') : NumsPost w l e w' := by unfold NumsPost; rw [h]; exact hp

end Go.Proofs.YtjlbpmmckgjajaaDoor

/- Rows of numbers out of bytes. -/
namespace Go.Proofs.YtjlbpmmckgjajaaDoor
open Go.RowKit Go.Lib
set_option linter.unusedVariables false

def ListPost (bs : List Int) (w : World) (e : Ending) (w' : World) : Prop := ∃ v, e = .returned (.tuple #[v, .int .i64 ((tkNs bs).2.1 : Int), .int .i64 (tkNs bs).2.2]) ∧ OwnK .i64 3 w' w.heap.size v (tkNs bs).1 ∧ Below w.heap.size w w'
theorem listPost_err' {bs : List Int} {w w' : World} {x : Int} (h : tkNs bs = ([], 0, x)) (hb : Below w.heap.size w w') : ListPost bs w (.returned (.tuple #[.slice none 0 0, .int .i64 0, .int .i64 x])) w' :=
  ⟨.slice none 0 0, by rw [h]; rfl, by rw [h]; exact OwnK.nil _ _ _ _, hb⟩
theorem listPost_err {bs : List Int} {w : World} {x : Int} (h : tkNs bs = ([], 0, x)) : ListPost bs w (.returned (.tuple #[.slice none 0 0, .int .i64 0, .int .i64 x])) w := listPost_err' h (Below.refl _ _)
theorem listPost_ok {bs ls : List Int} {w w' : World} {p : Nat} {v : Value} (h : tkNs bs = (ls, p, 0)) (ho : OwnK .i64 3 w' w.heap.size v ls) (hb : Below w.heap.size w w') : ListPost bs w (.returned (.tuple #[v, .int .i64 (p : Int), .int .i64 0])) w' :=
  ⟨v, by rw [h], by rw [h]; exact ho, hb⟩

end Go.Proofs.YtjlbpmmckgjajaaDoor

/- The laws' small functions: the same row? a copy; written over; too much; awake. -/
namespace Go.Proofs.YtjlbpmmckgjajaaDoor
open Go.RowKit Go.Lib
set_option linter.unusedVariables false

def EqPost (w : World) (e : Ending) (w' : World) : Prop := e = .returned (.bool true) ∧ ∃ n, w' = w.drewN n

set_option maxHeartbeats 400000 in
theorem eqI_yes (a b : Option Addr) (zs : List Int) (n1 n2 c1 c2 : Nat) (w : World) (ha : RowK .i64 w a zs) (hb : RowK .i64 w b zs) (h1 : n1 = zs.length) (h2 : n2 = zs.length) (hl : zs.length ≤ 140737488355328) :
    Calls Tryd.prog 78 #[.slice a n1 c1, .slice b n2 c2] w (EqPost w) := by
  have mixed : Tryd.prog.follows .mixedOrders = true := by kernel_rfl
  subst h1 h2
  have HA := Lib.hid ha
  have HB := Lib.hid hb
  clear ha hb
  go_enter Tryd.func78, Tryd.ntmps78
  go_wp2
  go_loopg [5] zs.length (fun g1 v wr => ∃ k n : Nat, v = .int .i64 k ∧ k ≤ zs.length ∧ zs.length - k ≤ g1 ∧ Hid (wr = w.drewN n))
  case atStart => exact ⟨0, 0, rfl, Nat.zero_le _, by omega, rfl⟩
  case round =>
    obtain ⟨k, n, rfl, hk, hg, HW⟩ := hrel
    by_cases hlt : k < zs.length
    · obtain ⟨b1, o1, rfl, hc1⟩ := HA.out k hlt
      obtain ⟨b2, o2, rfl, hc2⟩ := HB.out k hlt
      have hw := HW.out
      subst hw
      have hd1 : (w.drewN n).cell? ⟨b1, o1 + k, none⟩ = some (.int .i64 (zs.getD k 0)) := hc1
      have hd2 : (w.drewN n).cell? ⟨b2, o2 + k, none⟩ = some (.int .i64 (zs.getD k 0)) := hc2
      have hltz : (k : Int) < (zs.length : Int) := by omega
      generalize zs.getD k 0 = z at *
      have hzz : (z != z) = false := by simp
      go_wp2_with fail
      go_quiet (fail)
      go_wp2
      go_roundg (zs.length - (k + 1))
      case measure => omega
      case rel => exact ⟨k + 1, _, by go_num, by omega, by omega, rfl⟩
    · have hltz : ¬ (k : Int) < (zs.length : Int) := by omega
      go_wp2
      go_ret
      exact ⟨rfl, n, HW.out⟩

theorem OwnK.stored {kd : IntKind} {e : TypeId} {w : World} {base g cap n : Nat} {zs : List Int} (hn : zs.length = n) (h : OwnK kd e w base (.slice (some ⟨g, 0, none⟩) n cap) zs) (j : Nat) (z : Int) : OwnK kd e (w.setCell ⟨g, j, none⟩ (.int kd z)) base (.slice (some ⟨g, 0, none⟩) n cap) (zs.set j z) := by
  subst hn
  have h1 := (World.ownsRow.stored h j (.int kd z)).1
  unfold OwnK
  rw [List.length_set, List.map_set]
  exact h1
theorem OwnK.cellAt {kd : IntKind} {e : TypeId} {w : World} {base g cap n : Nat} {zs : List Int} (hn : zs.length = n) (h : OwnK kd e w base (.slice (some ⟨g, 0, none⟩) n cap) zs) (j : Nat) (hj : j < n) : w.cell? ⟨g, j, none⟩ = some (.int kd (zs.getD j 0)) ∧ w.frozen? ⟨g, j, none⟩ = false ∧ base ≤ g ∧ g < w.heap.size := by
  subst hn
  have h1 := World.ownsRow.cellAt h j (by omega)
  rw [List.getElem?_map, List.getElem?_eq_getElem hj] at h1
  refine ⟨?_, World.ownsRow.frozenAt h j, OwnK.lt h rfl⟩
  rw [h1, List.getD_eq_getElem?_getD, List.getElem?_eq_getElem hj]; rfl

def SpoilPost (w : World) (base : Nat) (e : Ending) (w' : World) : Prop := e = .returned (.tuple #[]) ∧ Below base w w'

/-- too much to be played? -/
def heavyB (s l x : Nat) : Bool := decide (65546 < s ∨ 2000 < l ∨ 3000 < x)
def BoolPost (w : World) (b : Bool) (e : Ending) (w' : World) : Prop := e = .returned (.bool b) ∧ Below w.heap.size w w'

end Go.Proofs.YtjlbpmmckgjajaaDoor

/- Contracts in one form, whether refused or not. -/
namespace Go.Proofs.YtjlbpmmckgjajaaDoor
open Go.RowKit Go.Lib
set_option linter.unusedVariables false

theorem RowK.ofOwn {kd : IntKind} {e : TypeId} {w : World} {base : Nat} {a : Option Addr} {n c : Nat} {zs : List Int} (h : OwnK kd e w base (.slice a n c) zs) : RowK kd w a zs ∧ n = zs.length ∧ zs.length ≤ c := by
  obtain ⟨a', c', e', hr, hc, _⟩ := h.form
  simp only [Value.slice.injEq] at e'
  obtain ⟨rfl, rfl, rfl⟩ := e'
  exact ⟨hr, rfl, hc⟩

def errC (b : Bool) : Int := if b then 0 else 1
def numE (z : Int) : List Int := if numB z then enc z.toNat else []
def textB (s : ByteArray) : Bool := decide (s.size ≤ 65536)
def textE (s : ByteArray) : List Int := if textB s then enc s.size ++ strN s else []
def numsE (l : List Int) : List Int := if numsOK l then encL l else []
def BothPost (w : World) (zs : List Int) (c : Int) (e : Ending) (w' : World) : Prop := ∃ v, e = .returned (.tuple #[v, .int .i64 c]) ∧ OwnK .u8 5 w' w.heap.size v zs ∧ Below w.heap.size w w'

theorem numE_len (z : Int) : (numE z).length ≤ 9 := by
  unfold numE
  split
  · rename_i h; simp only [numB, decide_eq_true_eq] at h; exact enc_len9 (by omega)
  · simp
theorem textE_len (s : ByteArray) (h : s.size ≤ 65546) : (textE s).length ≤ 65555 := by
  unfold textE
  split
  · have := enc_len9 (n := s.size) (by omega); rw [List.length_append, strN_len]; omega
  · simp
theorem numsE_len (l : List Int) : (numsE l).length ≤ 9225 := by
  unfold numsE
  split
  · rename_i h
    unfold numsOK at h
    simp only [Bool.and_eq_true, decide_eq_true_eq] at h
    have := encs_take_len l.length (l := l) (by rw [List.take_length]; exact h.1) h.2
    rw [List.take_length] at this
    exact this
  · simp
theorem numE_isB (z : Int) : IsB (numE z) := by unfold numE; split; exact enc_isB _; exact IsB.nil
theorem textE_isB (s : ByteArray) : IsB (textE s) := by unfold textE; split; exact (enc_isB _).app (strN_isB s); exact IsB.nil
theorem numsE_isB (l : List Int) : IsB (numsE l) := by unfold numsE; split; exact encL_isB l; exact IsB.nil

theorem quiet_left {P : Program} {f : FuncId} {args : Array Value} {w : World} {n : Nat} {v : Value}
    (h : Calls P f args (w.drewN n) fun e w' => e = .returned v ∧ w.drewN n = w') : Calls P f args (w.drewN n) fun e w'' => e = .returned v ∧ ∃ m, w'' = w.drewN m :=
  h.mono fun _ _ ⟨he, hm⟩ => ⟨he, n, hm.symm⟩
end Go.Proofs.YtjlbpmmckgjajaaDoor

/- What CodeBack and CodeRows hold on to; a row appended within a region that draws its order. -/
namespace Go.Proofs.YtjlbpmmckgjajaaDoor
open Go.RowKit Go.Lib
set_option linter.unusedVariables false

theorem OwnK.form' {kd : IntKind} {e : TypeId} {w : World} {base : Nat} {v : Value} {zs : List Int} (h : OwnK kd e w base v zs) : ∃ a n cap, v = .slice a n cap ∧ n = zs.length ∧ RowK kd w a zs ∧ zs.length ≤ cap := by
  obtain ⟨a, c, e', hr, hc, _⟩ := h.form
  exact ⟨a, _, c, e', rfl, hr, hc⟩
set_option maxHeartbeats 400000 in
theorem stepB_row {ops : Array Oper} {o : Oper} {a : Act} {K : Act → World → Prop} {Q : Exit → Act → World → Prop} {E : Prop} (hgd : o.guard = none) (s x : Operand)
    (ho : o.op = .call { callee := .builtin .append, args := #[s, x], argTypes := #[118, 118] }) (base : Nat) (W : World) (v : Value) (zs ys : List Int) (ax : Option Addr) (n c : Nat) (hn : n = ys.length) (hs : a.eval s = v) (hown : OwnK .u8 5 W base v zs)
    (hx : a.eval x = .slice ax n c) (hrow : RowK .u8 W ax ys) (hlen : zs.length + ys.length ≤ 140737488355328) (hbase : base ≤ W.heap.size)
    (h : ∀ v' w', Grew .u8 5 base W v zs ys v' w' → K (a.put o.dst v') w') : if Region.wanted o (yielded ops a.tmps) = true then Oper.wp Tryd.prog o a W K Q else E := by
  have hw : Region.wanted o (yielded ops a.tmps) = true := by simp [Region.wanted, hgd]
  rw [if_pos hw]
  obtain ⟨v', w', hr, hg⟩ := run_row (t := 118) (ty := o.type) (bytes := 1) (fun _ => rfl) Tryd.underlying118 Tryd.info5 base W W v zs ys ax n c (Below.refl W.heap.size W) hn hown hrow (by omega) hlen hbase
  unfold Oper.wp execOp
  simp only [ho, resolve, invoke, builtin, Sem.run_bind, Sem.run_pure, Result.andThen_ok, List.map_toArray, List.map_cons, List.map_nil, hs, hx, hr]
  exact h v' w' hg

/-- a copy with a row behind it: what is told -/
theorem glued {w0 w2 w3 : World} {v2 v3 : Value} {zs ys : List Int} (ho : OwnK .u8 5 w2 w0.heap.size v2 zs) (hb : Below w0.heap.size w0 w2) (hg : Grew .u8 5 w0.heap.size w2 v2 zs ys v3 w3) : OwnK .u8 5 w3 w0.heap.size v3 (zs ++ ys) ∧ Below w0.heap.size w0 w3 :=
  ⟨hg.own, hg.bel _ _ hb (Nat.le_refl _) hb.size⟩
end Go.Proofs.YtjlbpmmckgjajaaDoor

/- A row written over: no other row changes. -/
namespace Go.Proofs.YtjlbpmmckgjajaaDoor
open Go.RowKit Go.Lib
set_option linter.unusedVariables false

theorem grown_setCell (w : World) (a : Addr) (u : Value) : w.grownBy (w.setCell a u) (some a.block) :=
  ⟨rfl, rfl, rfl, by simp [World.setCell], fun k _ hk => Below.heap_setCell _ _ _ k (fun e => hk (by rw [e]))⟩
theorem grown_row {w w' : World} {row : Option Nat} (hg : w.grownBy w' row) {kd : IntKind} {a : Option Addr} {zs : List Int} (hr : RowK kd w a zs) (hne : 0 < zs.length → ∀ b off, a = some ⟨b, off, none⟩ → some b ≠ row) : RowK kd w' a zs := by
  intro i hi
  obtain ⟨b, off, rfl, hc⟩ := hr i hi
  exact ⟨b, off, rfl, hg.cell hc (hne (by omega) b off rfl)⟩
theorem OwnK.grown {kd : IntKind} {e : TypeId} {w w' : World} {base : Nat} {v : Value} {zs : List Int} {row : Option Nat} (h : OwnK kd e w base v zs) (hg : w.grownBy w' row) (hne : v.ownBlock = none ∨ v.ownBlock ≠ row) : OwnK kd e w' base v zs := World.ownsRow.kept h hg hne

set_option maxHeartbeats 400000 in
theorem wpI_grown {ops : Array Oper} {rest : List Oper} {o : Oper} {a : Act} {Q : Exit → Act → World → Prop} (hgd : o.guard = none) (s x : Operand)
    (ho : o.op = .call { callee := .builtin .append, args := #[s, x], argTypes := #[37, 37] }) (base : Nat) (W : World) (v : Value) (zs : List Int) (z : Int) (hs : a.eval s = v) (hown : OwnK .i64 3 W base v zs)
    (hx : a.eval x = .slice (some ⟨W.heap.size, 0, none⟩) 1 1) (hlen : (zs.length + 1) * 8 ≤ 140737488355328) (hbase : base ≤ W.heap.size)
    (h : ∀ v' w', W.grownBy w' v.ownBlock → wpList Tryd.prog ops Q rest (a.put o.dst v') w') : wpList Tryd.prog ops Q (o :: rest) a (W.alloc (.cells #[.int .i64 z] 3)) := by
  obtain ⟨i0, hi, hz0, hz1, hz2⟩ := info_parts Tryd.info3
  obtain ⟨v', w', hr, h2, h3, h4, h5⟩ := run_append_own_at (P := Tryd.prog) (W.alloc (.cells #[.int .i64 z] 3)) base 37 o.type 3 i0 (.int .i64 0) 1 8 Tryd.underlying37 hi hz0 hz1 hz2 rfl (by decide) v zs.length (zs.map (Value.int .i64)) (hown.alloc _) ⟨W.heap.size, 0, none⟩ 1 1 [.int .i64 z] (by simp)
    (by
      intro j u hu
      have hj : j = 0 := by
        rcases Nat.lt_or_ge j 1 with h | h
        · omega
        · rw [List.getElem?_eq_none (by simpa using h)] at hu; cases hu
      subst hj
      simp only [List.getElem?_cons_zero, Option.some.injEq] at hu
      subst hu
      rw [addr_add]
      simp)
    (by intro u hu; simp only [List.mem_singleton] at hu; subst hu; rfl) (by unfold maxLen; omega) hlen (by simp; omega)
  refine wpList_plain hgd fun _ hK => ?_
  unfold Oper.wp execOp
  simp only [ho, resolve, invoke, builtin, Sem.run_bind, Sem.run_pure, Result.andThen_ok, List.map_toArray, List.map_cons, List.map_nil, hs, hx, hr]
  exact hK _ _ (h v' w' ((World.grownBy_alloc W _ v.ownBlock).trans h3))

def OverPost (w : World) (v : Value) (e : Ending) (w' : World) : Prop := e = .returned (.tuple #[]) ∧ w.grownBy w' v.ownBlock
end Go.Proofs.YtjlbpmmckgjajaaDoor
