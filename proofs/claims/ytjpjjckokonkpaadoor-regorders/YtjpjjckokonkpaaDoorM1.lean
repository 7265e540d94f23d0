/- Numbers as bytes, mathematics alone: what is written, what is taken, and that they undo each other. -/
import Derived.Test.YtjpjjckokonkpaaDoorRows
import Derived.Laws.BytesArg
namespace Go.Proofs.YtjpjjckokonkpaaDoor

/-- the bytes of a number -/
def enc (n : Nat) : List Int := if n < 128 then [(n : Int)] else ((n % 128 + 128 : Nat) : Int) :: enc (n / 128)
  termination_by n
  decreasing_by omega

theorem enc_small {n : Nat} (h : n < 128) : enc n = [(n : Int)] := by rw [enc, if_pos h]
theorem enc_big {n : Nat} (h : ¬ n < 128) : enc n = ((n % 128 + 128 : Nat) : Int) :: enc (n / 128) := by rw [enc, if_neg h]

def IsB (zs : List Int) : Prop := ∀ z ∈ zs, 0 ≤ z ∧ z < 256
theorem IsB.nil : IsB [] := fun z h => by simp at h
theorem IsB.cons {c : Int} {r : List Int} (h : IsB (c :: r)) : (0 ≤ c ∧ c < 256) ∧ IsB r := ⟨h c (by simp), fun z hz => h z (by simp [hz])⟩
theorem IsB.mk {c : Int} {r : List Int} (h : 0 ≤ c ∧ c < 256) (hr : IsB r) : IsB (c :: r) := fun z hz => by
  rcases List.mem_cons.1 hz with rfl | h'
  · exact h
  · exact hr z h'
theorem IsB.app {a b : List Int} (ha : IsB a) (hb : IsB b) : IsB (a ++ b) := fun z hz => by
  rcases List.mem_append.1 hz with h | h
  · exact ha z h
  · exact hb z h
theorem IsB.drop {a : List Int} (ha : IsB a) (k : Nat) : IsB (a.drop k) := fun z hz => ha z (List.mem_of_mem_drop hz)
theorem IsB.take {a : List Int} (ha : IsB a) (k : Nat) : IsB (a.take k) := fun z hz => ha z (List.mem_of_mem_take hz)
theorem IsB.getD {a : List Int} (ha : IsB a) {k : Nat} (hk : k < a.length) : 0 ≤ a.getD k 0 ∧ a.getD k 0 < 256 := by
  rw [List.getD_eq_getElem?_getD, List.getElem?_eq_getElem hk]; exact ha _ (List.getElem_mem hk)

theorem enc_isB (n : Nat) : IsB (enc n) := by
  induction n using Nat.strongRecOn with
  | ind n ih =>
    by_cases h : n < 128
    · rw [enc_small h]; exact IsB.mk (by omega) IsB.nil
    · rw [enc_big h]; exact IsB.mk (by omega) (ih _ (by omega))
theorem enc_len (n : Nat) : 1 ≤ (enc n).length := by
  by_cases h : n < 128
  · rw [enc_small h]; simp
  · rw [enc_big h]; simp
theorem enc_len_le (k : Nat) : ∀ n : Nat, n < 128 ^ (k + 1) → (enc n).length ≤ k + 1 := by
  induction k with
  | zero => intro n h; rw [enc_small (by simpa using h)]; simp
  | succ k ih =>
    intro n h
    by_cases h1 : n < 128
    · rw [enc_small h1]; simp
    · rw [enc_big h1, List.length_cons]
      have := ih (n / 128) (by rw [Nat.pow_succ] at h; exact Nat.div_lt_of_lt_mul (by omega))
      omega
theorem enc_len9 {n : Nat} (h : n ≤ 4611686018427387904) : (enc n).length ≤ 9 := by
  have e : (128 : Nat) ^ (8 + 1) = 9223372036854775808 := by decide
  exact enc_len_le 8 n (by omega)

/-- which number bytes begin with, how many they are, the error: from the i-th byte on, with what is there already -/
def tk (i : Nat) (acc : Int) : List Int → Int × Nat × Int
  | [] => (0, 0, 7)
  | c :: r => if 128 ≤ c then (if i = 8 then (0, 0, 1) else tk (i + 1) (acc + c % 128 * 128 ^ i) r) else if (c = 0 ∧ 0 < i) ∨ 4611686018427387904 < acc + c % 128 * 128 ^ i then (0, 0, 1) else (acc + c % 128 * 128 ^ i, i + 1, 0)
def tkN (bs : List Int) : Int × Nat × Int := tk 0 0 bs

theorem pow128 (i : Nat) : (0 : Int) < 128 ^ i := Int.pow_pos (by decide)
theorem pow128_lt {i j : Nat} (h : i ≤ j) : (128 : Int) ^ i ≤ 128 ^ j := by
  have := Nat.pow_le_pow_right (n := 128) (by decide) h
  exact_mod_cast this

theorem step_sum (acc x : Int) (i : Nat) : acc + x % 128 * 128 ^ i + x / 128 * 128 ^ (i + 1) = acc + x * 128 ^ i := by
  rw [Int.pow_succ]
  have h : x * 128 ^ i = (x / 128 * 128 + x % 128) * 128 ^ i := by rw [show x / 128 * 128 + x % 128 = x by omega]
  rw [h, Int.add_mul, Int.mul_assoc, Int.mul_comm 128]
  omega

theorem big_i {acc : Int} {m i : Nat} (h0 : 0 ≤ acc) (hm : 128 ≤ m) (h : acc + (m : Int) * 128 ^ i ≤ 4611686018427387904) : i ≤ 7 := by
  rcases Nat.lt_or_ge i 8 with h' | h'
  · omega
  · exfalso
    have h1 : (128 : Int) ^ 8 ≤ 128 ^ i := pow128_lt h'
    have h2 : (128 : Int) * 128 ^ i ≤ (m : Int) * 128 ^ i := Int.mul_le_mul_of_nonneg_right (by omega) (Int.le_of_lt (pow128 i))
    have h3 : (128 : Int) ^ 8 = 72057594037927936 := by decide
    omega

theorem enc_cons (m : Nat) : ∃ r, enc m = (if m < 128 then (m : Int) else ((m % 128 + 128 : Nat) : Int)) :: r ∧ (m < 128 → r = []) ∧ (¬ m < 128 → r = enc (m / 128)) := by
  by_cases h : m < 128
  · exact ⟨[], by rw [enc_small h, if_pos h], fun _ => rfl, fun h' => absurd h h'⟩
  · exact ⟨enc (m / 128), by rw [enc_big h, if_neg h], fun h' => absurd h' h, fun _ => rfl⟩

theorem tk_enc (m : Nat) : ∀ (i : Nat) (acc : Int) (x : List Int), 0 ≤ acc → (i = 0 ∨ 0 < m) → acc + (m : Int) * 128 ^ i ≤ 4611686018427387904 → tk i acc (enc m ++ x) = (acc + (m : Int) * 128 ^ i, i + (enc m).length, 0) := by
  induction m using Nat.strongRecOn with
  | ind m ih =>
    intro i acc x h0 hi hle
    by_cases h : m < 128
    · rw [enc_small h, List.singleton_append, tk, if_neg (by omega), show (m : Int) % 128 = m by omega, if_neg (by omega)]
      rfl
    · have h7 := big_i h0 (by omega) hle
      have e2 : (((m % 128 + 128 : Nat) : Int)) % 128 = (m : Int) % 128 := by omega
      have hs := step_sum acc m i
      have hp : 0 ≤ (m : Int) % 128 * 128 ^ i := Int.mul_nonneg (by omega) (Int.le_of_lt (pow128 i))
      have e3 : ((m / 128 : Nat) : Int) = (m : Int) / 128 := by omega
      rw [enc_big h, List.cons_append, tk, if_pos (by omega), if_neg (by omega), e2, ih (m / 128) (by omega) (i + 1) _ x (by omega) (.inr (by omega)) (by rw [e3]; omega), e3, hs, List.length_cons]
      simp only [Prod.mk.injEq, true_and, and_true]
      omega

theorem tk_cut (m : Nat) : ∀ (i j : Nat) (acc : Int), 0 ≤ acc → acc + (m : Int) * 128 ^ i ≤ 4611686018427387904 → j < (enc m).length → tk i acc ((enc m).take j) = (0, 0, 7) := by
  induction m using Nat.strongRecOn with
  | ind m ih =>
    intro i j acc h0 hle hj
    rcases Nat.eq_zero_or_pos j with rfl | hjp
    · rw [List.take_zero, tk]
    · by_cases h : m < 128
      · rw [enc_small h] at hj; simp at hj; omega
      · have h7 := big_i h0 (by omega) hle
        have e2 : (((m % 128 + 128 : Nat) : Int)) % 128 = (m : Int) % 128 := by omega
        have hs := step_sum acc m i
        have hp : 0 ≤ (m : Int) % 128 * 128 ^ i := Int.mul_nonneg (by omega) (Int.le_of_lt (pow128 i))
        have e3 : ((m / 128 : Nat) : Int) = (m : Int) / 128 := by omega
        obtain ⟨j', rfl⟩ : ∃ j', j = j' + 1 := ⟨j - 1, by omega⟩
        rw [enc_big h] at hj ⊢
        rw [List.take_succ_cons, tk, if_pos (by omega), if_neg (by omega), e2]
        exact ih (m / 128) (by omega) (i + 1) j' _ (by omega) (by rw [e3]; omega) (by rw [List.length_cons] at hj; omega)

theorem tk_back (bs : List Int) : ∀ (i : Nat) (acc : Int), IsB bs → 0 ≤ acc → (tk i acc bs).2.2 = 0 → ∃ m : Nat, (tk i acc bs).1 = acc + (m : Int) * 128 ^ i ∧ (tk i acc bs).1 ≤ 4611686018427387904 ∧ i < (tk i acc bs).2.1 ∧ (tk i acc bs).2.1 ≤ i + bs.length ∧ enc m = bs.take ((tk i acc bs).2.1 - i) ∧ (0 < i → 0 < m) := by
  induction bs with
  | nil => intro i acc _ _ h; simp [tk] at h
  | cons c r ih =>
    intro i acc hb h0 he
    obtain ⟨⟨c0, c1⟩, hr⟩ := hb.cons
    rw [tk] at he ⊢
    by_cases h : 128 ≤ c
    · rw [if_pos h] at he ⊢
      by_cases h8 : i = 8
      · rw [if_pos h8] at he; simp at he
      · rw [if_neg h8] at he ⊢
        have hp : 0 ≤ c % 128 * 128 ^ i := Int.mul_nonneg (by omega) (Int.le_of_lt (pow128 i))
        obtain ⟨m, h1, h2, h3, h4, h5, h6⟩ := ih (i + 1) _ hr (by omega) he
        have hm := h6 (by omega)
        refine ⟨(c % 128).toNat + 128 * m, ?_, h2, by omega, by rw [List.length_cons]; omega, ?_, fun _ => by omega⟩
        · rw [h1, Int.pow_succ, show (((c % 128).toNat + 128 * m : Nat) : Int) = c % 128 + 128 * (m : Int) by omega, Int.add_mul, show (m : Int) * (128 ^ i * 128) = 128 * (m : Int) * 128 ^ i by rw [← Int.mul_assoc, Int.mul_comm 128, Int.mul_right_comm]]
          omega
        · obtain ⟨k, hk⟩ : ∃ k, (tk (i + 1) (acc + c % 128 * 128 ^ i) r).2.1 - i = k + 1 := ⟨(tk (i + 1) (acc + c % 128 * 128 ^ i) r).2.1 - i - 1, by omega⟩
          have hk' : (tk (i + 1) (acc + c % 128 * 128 ^ i) r).2.1 - (i + 1) = k := by omega
          rw [hk, List.take_succ_cons, enc_big (by omega), show ((c % 128).toNat + 128 * m) / 128 = m by omega, h5, hk']
          congr 1
          omega
    · rw [if_neg h] at he ⊢
      split at he
      · simp at he
      · rename_i hn
        rw [if_neg hn]
        refine ⟨c.toNat, ?_, ?_, by simp, by simp, ?_, fun hi => by omega⟩
        · simp only
          rw [show c % 128 = c by omega, show ((c.toNat : Nat) : Int) = c by omega]
        · simp only; omega
        · rw [enc_small (by omega)]
          simp
          omega

/-- of an error nothing else is told -/
theorem tk_err (bs : List Int) : ∀ (i : Nat) (acc : Int), ((tk i acc bs).2.2 = 0 ∨ (tk i acc bs).2.2 = 1 ∨ (tk i acc bs).2.2 = 7) ∧ ((tk i acc bs).2.2 ≠ 0 → (tk i acc bs).1 = 0 ∧ (tk i acc bs).2.1 = 0) := by
  induction bs with
  | nil => intro i acc; simp [tk]
  | cons c r ih =>
    intro i acc
    rw [tk]
    split
    · split
      · simp
      · exact ih _ _
    · split <;> simp

theorem tkN_enc {n : Nat} (h : n ≤ 4611686018427387904) (x : List Int) : tkN (enc n ++ x) = ((n : Int), (enc n).length, 0) := by
  have := tk_enc n 0 0 x (by omega) (.inl rfl) (by omega)
  rw [tkN, this]
  simp
theorem tkN_cut {n : Nat} (h : n ≤ 4611686018427387904) {j : Nat} (hj : j < (enc n).length) : tkN ((enc n).take j) = (0, 0, 7) := tk_cut n 0 j 0 (by omega) (by omega) hj
theorem tkN_back {bs : List Int} (hb : IsB bs) (h : (tkN bs).2.2 = 0) : 0 ≤ (tkN bs).1 ∧ (tkN bs).1 ≤ 4611686018427387904 ∧ 0 < (tkN bs).2.1 ∧ (tkN bs).2.1 ≤ bs.length ∧ enc (tkN bs).1.toNat = bs.take (tkN bs).2.1 := by
  obtain ⟨m, h1, h2, h3, h4, h5, _⟩ := tk_back bs 0 0 hb (by omega) h
  unfold tkN at *
  refine ⟨by rw [h1]; omega, h2, h3, by omega, ?_⟩
  rw [h1]
  simp only [Int.pow_zero, Int.mul_one, Int.zero_add, Int.toNat_natCast, Nat.sub_zero] at h5 ⊢
  exact h5
theorem tkN_err (bs : List Int) : ((tkN bs).2.2 = 0 ∨ (tkN bs).2.2 = 1 ∨ (tkN bs).2.2 = 7) ∧ ((tkN bs).2.2 ≠ 0 → (tkN bs).1 = 0 ∧ (tkN bs).2.1 = 0) := tk_err bs 0 0

/-- texts -/
def strN (s : ByteArray) : List Int := s.data.toList.map fun b => (b.toNat : Int)
theorem strN_len (s : ByteArray) : (strN s).length = s.size := by simp [strN]
theorem strN_isB (s : ByteArray) : IsB (strN s) := fun z hz => by
  simp only [strN, List.mem_map] at hz
  obtain ⟨b, _, rfl⟩ := hz
  have := b.toNat_lt
  omega
theorem strOf_strN (s : ByteArray) : strOfNums (strN s) = s := by
  apply ByteArray.ext
  apply Array.toList_inj.1
  rw [strOfNums_data, strN, List.map_map]
  conv => rhs; rw [← List.map_id s.data.toList]
  apply List.map_congr_left
  intro b _
  simp

def tkS (bs : List Int) : ByteArray × Nat × Int :=
  if (tkN bs).2.2 ≠ 0 then (⟨#[]⟩, 0, (tkN bs).2.2) else if 65536 < (tkN bs).1 then (⟨#[]⟩, 0, 1) else if (bs.length : Int) - (tkN bs).2.1 < (tkN bs).1 then (⟨#[]⟩, 0, 7)
  else (strOfNums ((bs.drop (tkN bs).2.1).take (tkN bs).1.toNat), (tkN bs).2.1 + (tkN bs).1.toNat, 0)

theorem tkS_enc (s : ByteArray) (h : s.size ≤ 65536) (x : List Int) : tkS (enc s.size ++ strN s ++ x) = (s, (enc s.size ++ strN s).length, 0) := by
  have e := tkN_enc (n := s.size) (by omega) (strN s ++ x)
  unfold tkS
  rw [List.append_assoc, e]
  simp only
  rw [if_neg (by simp), if_neg (by omega), if_neg (by rw [List.length_append, List.length_append, strN_len]; omega)]
  rw [List.drop_left, Int.toNat_natCast, List.take_left' (strN_len s), strOf_strN, List.length_append, strN_len]
theorem tkS_cut (s : ByteArray) (h : s.size ≤ 65536) {j : Nat} (hj : j < (enc s.size ++ strN s).length) : tkS ((enc s.size ++ strN s).take j) = (⟨#[]⟩, 0, 7) := by
  rw [List.length_append, strN_len] at hj
  by_cases hc : j < (enc s.size).length
  · rw [List.take_append_of_le_length (by omega)]
    unfold tkS
    rw [tkN_cut (by omega) hc]
    simp
  · have e : (enc s.size ++ strN s).take j = enc s.size ++ (strN s).take (j - (enc s.size).length) := by
      rw [List.take_append, List.take_of_length_le (by omega)]
    have e2 := tkN_enc (n := s.size) (by omega) ((strN s).take (j - (enc s.size).length))
    unfold tkS
    rw [e, e2]
    simp only
    rw [if_neg (by simp), if_neg (by omega), if_pos (by rw [List.length_append, List.length_take, strN_len]; omega)]

/-- rows of numbers -/
def tkL (bs : List Int) : Nat → Nat → List Int → List Int × Nat × Int
  | 0, p, l => (l, p, 0)
  | c + 1, p, l => if (tkN (bs.drop p)).2.2 ≠ 0 then ([], 0, (tkN (bs.drop p)).2.2) else tkL bs c (p + (tkN (bs.drop p)).2.1) (l ++ [(tkN (bs.drop p)).1])
def tkNs (bs : List Int) : List Int × Nat × Int :=
  if (tkN bs).2.2 ≠ 0 then ([], 0, (tkN bs).2.2) else if 1024 < (tkN bs).1 then ([], 0, 1) else tkL bs (tkN bs).1.toNat (tkN bs).2.1 []

def numB (z : Int) : Bool := decide (0 ≤ z ∧ z ≤ 4611686018427387904)
def encs (l : List Int) : List Int := l.flatMap fun z => enc z.toNat
def encL (l : List Int) : List Int := enc l.length ++ encs l
theorem encs_isB (l : List Int) : IsB (encs l) := fun z hz => by
  obtain ⟨y, _, h⟩ := List.mem_flatMap.1 hz
  exact enc_isB _ z h
theorem encL_isB (l : List Int) : IsB (encL l) := (enc_isB _).app (encs_isB l)
theorem encs_cons (z : Int) (l : List Int) : encs (z :: l) = enc z.toNat ++ encs l := by simp [encs]
theorem encs_snoc (l : List Int) (z : Int) : encs (l ++ [z]) = encs l ++ enc z.toNat := by simp [encs]
theorem encs_len (l : List Int) (h : ∀ z ∈ l, numB z = true) : (encs l).length ≤ 9 * l.length := by
  induction l with
  | nil => simp [encs]
  | cons z r ih =>
    have hz := h z (by simp)
    simp only [numB, decide_eq_true_eq] at hz
    have h9 := enc_len9 (n := z.toNat) (by omega)
    have := ih fun y hy => h y (by simp [hy])
    rw [encs_cons, List.length_append, List.length_cons]
    omega

theorem tkL_enc (bs x : List Int) : ∀ (l : List Int) (p : Nat) (acc : List Int), (∀ z ∈ l, numB z = true) → bs.drop p = encs l ++ x → tkL bs l.length p acc = (acc ++ l, p + (encs l).length, 0) := by
  intro l
  induction l with
  | nil => intro p acc _ _; simp [tkL, encs]
  | cons z r ih =>
    intro p acc h hd
    have hz := h z (by simp)
    simp only [numB, decide_eq_true_eq] at hz
    rw [encs_cons, List.append_assoc] at hd
    have e := tkN_enc (n := z.toNat) (by omega) (encs r ++ x)
    rw [← hd] at e
    rw [List.length_cons, tkL, e]
    simp only
    rw [if_neg (by simp), show ((z.toNat : Nat) : Int) = z by omega, ih _ _ (fun y hy => h y (by simp [hy])) ?_]
    · rw [encs_cons]; simp [Nat.add_assoc]
    · rw [← List.drop_drop, hd, List.drop_left]
theorem tkNs_enc (l x : List Int) (h : ∀ z ∈ l, numB z = true) (hl : l.length ≤ 1024) : tkNs (encL l ++ x) = (l, (encL l).length, 0) := by
  have e := tkN_enc (n := l.length) (by omega) (encs l ++ x)
  unfold tkNs encL
  rw [List.append_assoc, e]
  simp only
  rw [if_neg (by simp), if_neg (by omega), Int.toNat_natCast, tkL_enc _ x l _ _ h (by rw [List.drop_left])]
  simp

/-- what was taken lies among the bytes -/
theorem tkL_le (bs : List Int) (hb : IsB bs) : ∀ (c p : Nat) (acc : List Int), p ≤ bs.length → (tkL bs c p acc).2.1 ≤ bs.length := by
  intro c
  induction c with
  | zero => intro p acc h; exact h
  | succ c ih =>
    intro p acc h
    rw [tkL]
    by_cases he : (tkN (bs.drop p)).2.2 = 0
    · rw [if_neg (by simp [he])]
      have := (tkN_back (hb.drop p) he).2.2.2.1
      rw [List.length_drop] at this
      exact ih _ _ (by omega)
    · rw [if_pos he]; simp

theorem tkN_k (bs : List Int) (hb : IsB bs) : (tkN bs).2.1 ≤ bs.length ∧ 0 ≤ (tkN bs).1 ∧ (tkN bs).1 ≤ 4611686018427387904 := by
  by_cases he : (tkN bs).2.2 = 0
  · have := tkN_back hb he; exact ⟨this.2.2.2.1, this.1, this.2.1⟩
  · have := (tkN_err bs).2 he; rw [this.1, this.2]; omega

theorem numsB_take (l : List Int) (k : Nat) (h : k < l.length) : (l.take (k + 1)).all numB = ((l.take k).all numB && numB (l.getD k 0)) := by
  rw [List.take_succ_eq_append_getElem h, List.all_append]
  simp [List.getD, h]
theorem numsB_no (l : List Int) (k : Nat) (h : k < l.length) (hn : numB (l.getD k 0) = false) : l.all numB = false := by
  rw [List.all_eq_false]
  refine ⟨l.getD k 0, ?_, by rw [hn]; decide⟩
  simp [List.getD, h]
theorem take_getD (l : List Int) (k : Nat) (h : k < l.length) : l.take (k + 1) = l.take k ++ [l.getD k 0] := by
  rw [List.take_succ_eq_append_getElem h]; simp [List.getD, h]
theorem drop_getD (l : List Int) (k : Nat) (h : k < l.length) : l.drop k = l.getD k 0 :: l.drop (k + 1) := by
  rw [List.drop_eq_getElem_cons h]; simp [List.getD, h]
end Go.Proofs.YtjpjjckokonkpaaDoor
