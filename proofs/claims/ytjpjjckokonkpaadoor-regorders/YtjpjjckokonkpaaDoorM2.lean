/- Keys, mathematics alone: the order of texts, what a key is, the key between two, that it lies there, and how often it can be made. -/
import Derived.Test.YtjpjjckokonkpaaDoorV2
namespace Go.Proofs.YtjpjjckokonkpaaDoor.Ky

/-- the order of texts -/
def ltB : List Int → List Int → Bool
  | _, [] => false
  | [], _ :: _ => true
  | a :: x, b :: y => decide (a < b) || (decide (a = b) && ltB x y)

theorem ltB_nil (x : List Int) : ltB x [] = false := by cases x <;> rfl
theorem ltB_irr : ∀ x, ltB x x = false
  | [] => rfl
  | a :: x => by simp [ltB, ltB_irr x]
theorem ltB_asymm : ∀ x y, ltB x y = true → ltB y x = false
  | [], [], h => by simp [ltB] at h
  | _ :: _, [], h => by simp [ltB] at h
  | [], _ :: _, _ => rfl
  | a :: x, b :: y, h => by
    simp only [ltB, Bool.or_eq_true, Bool.and_eq_true, decide_eq_true_eq] at h
    simp only [ltB, Bool.or_eq_false_iff, Bool.and_eq_false_iff, decide_eq_false_iff_not]
    rcases h with h | ⟨h, h'⟩
    · exact ⟨by omega, .inl (by omega)⟩
    · exact ⟨by omega, .inr (ltB_asymm x y h')⟩
theorem ltB_ne {x y : List Int} (h : ltB x y = true) : y ≠ x := fun e => by subst e; rw [ltB_irr] at h; cases h
theorem ltB_empty {x : List Int} (h : x ≠ []) : ltB [] x = true := by cases x with
  | nil => exact absurd rfl h
  | cons => rfl

theorem less_map : ∀ x y : List UInt8, Op.bytesLess x y = ltB (x.map fun b => (b.toNat : Int)) (y.map fun b => (b.toNat : Int))
  | [], [] => rfl
  | _ :: _, [] => rfl
  | [], _ :: _ => rfl
  | a :: x, b :: y => by
    rw [Op.bytesLess, less_map x y, List.map_cons, List.map_cons, ltB]
    have e1 : decide (a < b) = decide ((a.toNat : Int) < (b.toNat : Int)) := by
      rw [decide_eq_decide, UInt8.lt_iff_toNat_lt]; omega
    have e2 : (a == b) = decide ((a.toNat : Int) = (b.toNat : Int)) := by
      rw [Bool.eq_iff_iff, beq_iff_eq, decide_eq_true_eq]
      constructor
      · intro h; rw [h]
      · intro h; exact UInt8.toNat_inj.1 (by omega)
    rw [e1, e2]
theorem less_strN (s t : ByteArray) : Op.bytesLess s.toList t.toList = ltB (strN s) (strN t) := by
  rw [ByteArray.toList_eq, ByteArray.toList_eq, less_map]; rfl
theorem strN_inj {s t : ByteArray} (h : strN s = strN t) : s = t := by rw [← strOf_strN s, ← strOf_strN t, h]
theorem same_strN (s t : ByteArray) : (s.toList == t.toList) = decide (strN s = strN t) := by
  rw [Bool.eq_iff_iff, beq_iff_eq, decide_eq_true_eq, ByteArray.toList_eq, ByteArray.toList_eq]
  constructor
  · intro h; unfold strN; rw [h]
  · intro h; rw [strN_inj h]

/-- its last byte is not 0 (and there is one) -/
def endB : List Int → Bool
  | [] => false
  | [x] => decide (x ≠ 0)
  | _ :: y :: r => endB (y :: r)
theorem endB_cons {x : Int} {r : List Int} (h : r ≠ []) : endB (x :: r) = endB r := by cases r with
  | nil => exact absurd rfl h
  | cons => rfl
theorem endB_ne {r : List Int} (h : endB r = true) : r ≠ [] := by rintro rfl; simp [endB] at h
theorem endB_last : ∀ zs : List Int, endB zs = decide (zs.getD (zs.length - 1) 0 ≠ 0)
  | [] => by simp [endB]
  | [x] => by simp [endB]
  | x :: y :: r => by
    rw [endB, endB_last (y :: r)]
    simp [List.getD]
def keyB (zs : List Int) : Bool := endB zs && decide (zs.length ≤ 64)
def limB (zs : List Int) : Bool := decide (zs = []) || keyB zs
def mayB (a b : List Int) : Bool := limB a && limB b && (decide (a = []) || decide (b = []) || ltB a b)

/-- what is used of the upper limit from the next place on -/
def usedB (x y : Int) (b : List Int) : List Int := if y = x + 1 then [] else b
theorem usedB_yes {x y : Int} (h : y = x + 1) (b : List Int) : usedB x y b = [] := if_pos h
theorem usedB_no {x y : Int} (h : ¬ y = x + 1) (b : List Int) : usedB x y b = b := if_neg h
theorem usedB_nil (x y : Int) : usedB x y [] = [] := by unfold usedB; split <;> rfl
theorem usedB_len (x y : Int) (b : List Int) : (usedB x y b).length ≤ b.length := by unfold usedB; split <;> simp
theorem usedB_drop (x y : Int) (b : List Int) (i : Nat) : (usedB x y b).drop i = usedB x y (b.drop i) := by unfold usedB; split <;> simp

/-- the key between two -/
def mid (a b : List Int) : List Int :=
  if h : a.headD 0 + 2 ≤ b.headD 256 then [a.headD 0 + (b.headD 256 - a.headD 0) / 2]
  else a.headD 0 :: mid a.tail (usedB (a.headD 0) (b.headD 256) b.tail)
  termination_by a.length + b.length
  decreasing_by
    have h0 : a = [] → b = [] → False := by rintro rfl rfl; simp at h
    have h1 := usedB_len (a.headD 0) (b.headD 256) b.tail
    rw [List.length_tail] at h1
    rw [List.length_tail]
    rcases Nat.eq_zero_or_pos a.length with ha | ha
    · have hb : 0 < b.length := by
        rcases Nat.eq_zero_or_pos b.length with hb | hb
        · exact absurd (h0 (List.eq_nil_of_length_eq_zero ha) (List.eq_nil_of_length_eq_zero hb)) id
        · exact hb
      omega
    · omega
theorem mid_yes {a b : List Int} (h : a.headD 0 + 2 ≤ b.headD 256) : mid a b = [a.headD 0 + (b.headD 256 - a.headD 0) / 2] := by rw [mid, dif_pos h]
theorem mid_no {a b : List Int} (h : ¬ a.headD 0 + 2 ≤ b.headD 256) : mid a b = a.headD 0 :: mid a.tail (usedB (a.headD 0) (b.headD 256) b.tail) := by rw [mid, dif_neg h]

theorem headD_drop (l : List Int) (i : Nat) (d : Int) : (l.drop i).headD d = l.getD i d := by
  simp [List.headD_eq_head?_getD, List.getD_eq_getElem?_getD]
theorem mid_stop {a b : List Int} {i : Nat} (h : a.getD i 0 + 2 ≤ b.getD i 256) : mid (a.drop i) (b.drop i) = [a.getD i 0 + (b.getD i 256 - a.getD i 0) / 2] := by
  rw [mid_yes (by rw [headD_drop, headD_drop]; exact h), headD_drop, headD_drop]
theorem mid_go {a b : List Int} {i : Nat} (h : ¬ a.getD i 0 + 2 ≤ b.getD i 256) : mid (a.drop i) (b.drop i) = a.getD i 0 :: mid (a.drop (i + 1)) ((usedB (a.getD i 0) (b.getD i 256) b).drop (i + 1)) := by
  rw [mid_no (by rw [headD_drop, headD_drop]; exact h), headD_drop, headD_drop, List.tail_drop, List.tail_drop, usedB_drop]

theorem mid_len_le : ∀ (n : Nat) (a b : List Int), a.length + b.length ≤ n → (mid a b).length ≤ n + 1 ∧ 1 ≤ (mid a b).length
  | 0, a, b, h => by
    obtain rfl : a = [] := List.eq_nil_of_length_eq_zero (by omega)
    obtain rfl : b = [] := List.eq_nil_of_length_eq_zero (by omega)
    rw [mid_yes (by simp)]; simp
  | n + 1, a, b, h => by
    by_cases hc : a.headD 0 + 2 ≤ b.headD 256
    · rw [mid_yes hc]; simp
    · rw [mid_no hc, List.length_cons]
      have h1 := usedB_len (a.headD 0) (b.headD 256) b.tail
      rw [List.length_tail] at h1
      have h0 : a = [] → b = [] → False := by rintro rfl rfl; simp at hc
      have hp : 0 < a.length ∨ 0 < b.length := by
        rcases Nat.eq_zero_or_pos a.length with ha | ha
        · rcases Nat.eq_zero_or_pos b.length with hb | hb
          · exact absurd (h0 (List.eq_nil_of_length_eq_zero ha) (List.eq_nil_of_length_eq_zero hb)) id
          · exact .inr hb
        · exact .inl ha
      have := mid_len_le n a.tail (usedB (a.headD 0) (b.headD 256) b.tail) (by rw [List.length_tail]; omega)
      omega

/-- the key between two is one, and lies there -/
theorem mid_ok : ∀ (n : Nat) (a b : List Int), a.length + b.length ≤ n → IsB a → IsB b → (b = [] ∨ (endB b = true ∧ ltB a b = true)) →
    endB (mid a b) = true ∧ IsB (mid a b) ∧ ltB a (mid a b) = true ∧ (b = [] ∨ ltB (mid a b) b = true)
  | n, a, b, h, ha, hb, hd => by
    have hx : 0 ≤ a.headD 0 ∧ a.headD 0 < 256 := by
      cases a with
      | nil => simp
      | cons x r => exact ha.cons.1
    have hy : 0 ≤ b.headD 256 ∧ b.headD 256 ≤ 256 := by
      cases b with
      | nil => simp
      | cons y r => have := hb.cons.1; simp only [List.headD_cons]; omega
    by_cases hc : a.headD 0 + 2 ≤ b.headD 256
    · rw [mid_yes hc]
      generalize hm : a.headD 0 + (b.headD 256 - a.headD 0) / 2 = m
      refine ⟨by simp [endB]; omega, IsB.mk (by omega) IsB.nil, ?_, ?_⟩
      · cases a with
        | nil => rfl
        | cons x r => simp only [List.headD_cons] at hc hm hx; simp [ltB]; omega
      · cases b with
        | nil => exact .inl rfl
        | cons y r => simp only [List.headD_cons] at hc hm hy; refine .inr ?_; simp [ltB]; omega
    · rw [mid_no hc]
      have hlt : n ≠ 0 := by
        rintro rfl
        obtain rfl : a = [] := List.eq_nil_of_length_eq_zero (by omega)
        obtain rfl : b = [] := List.eq_nil_of_length_eq_zero (by omega)
        simp at hc
      obtain ⟨m, rfl⟩ : ∃ m, n = m + 1 := ⟨n - 1, by omega⟩
      cases b with
      | nil =>
        cases a with
        | nil => simp at hc
        | cons x r =>
          simp only [List.headD_cons, List.headD_nil, List.tail_cons, List.tail_nil, List.length_cons, List.length_nil, usedB_nil] at *
          obtain ⟨h1, h2, h3, _⟩ := mid_ok m r [] (by simp; omega) ha.cons.2 IsB.nil (.inl rfl)
          exact ⟨by rw [endB_cons (endB_ne h1)]; exact h1, IsB.mk hx h2, by simp [ltB, h3], .inl trivial⟩
      | cons y s =>
        obtain ⟨he, hl⟩ := hd.resolve_left (by simp)
        cases a with
        | nil =>
          simp only [List.headD_cons, List.headD_nil, List.tail_cons, List.tail_nil, List.length_cons, List.length_nil] at *
          by_cases h1y : y = 0 + 1
          · rw [usedB_yes h1y]
            obtain ⟨h1, h2, h3, _⟩ := mid_ok m [] [] (by simp) IsB.nil IsB.nil (.inl rfl)
            exact ⟨by rw [endB_cons (endB_ne h1)]; exact h1, IsB.mk (by omega) h2, rfl, .inr (by simp [ltB]; omega)⟩
          · rw [usedB_no h1y]
            have h0y : y = 0 := by omega
            subst h0y
            have hs : s ≠ [] := by rintro rfl; simp [endB] at he
            rw [endB_cons hs] at he
            obtain ⟨h1, h2, h3, h4⟩ := mid_ok m [] s (by simp; omega) IsB.nil hb.cons.2 (.inr ⟨he, ltB_empty hs⟩)
            exact ⟨by rw [endB_cons (endB_ne h1)]; exact h1, IsB.mk (by omega) h2, rfl, .inr (by simp [ltB, h4.resolve_left hs])⟩
        | cons x r =>
          simp only [List.headD_cons, List.tail_cons, List.length_cons] at *
          simp only [ltB, Bool.or_eq_true, Bool.and_eq_true, decide_eq_true_eq] at hl
          by_cases h1y : y = x + 1
          · rw [usedB_yes h1y]
            obtain ⟨h1, h2, h3, _⟩ := mid_ok m r [] (by simp; omega) ha.cons.2 IsB.nil (.inl rfl)
            exact ⟨by rw [endB_cons (endB_ne h1)]; exact h1, IsB.mk hx h2, by simp [ltB, h3], .inr (by simp [ltB]; omega)⟩
          · rw [usedB_no h1y]
            obtain ⟨hxy, hrs⟩ := hl.resolve_left (by omega)
            have hs : s ≠ [] := by rintro rfl; rw [ltB_nil] at hrs; cases hrs
            rw [endB_cons hs] at he
            obtain ⟨h1, h2, h3, h4⟩ := mid_ok m r s (by omega) ha.cons.2 hb.cons.2 (.inr ⟨he, hrs⟩)
            exact ⟨by rw [endB_cons (endB_ne h1)]; exact h1, IsB.mk hx h2, by simp [ltB, h3], .inr (by simp [ltB, h4.resolve_left hs, hxy])⟩

theorem limB_cases {z : List Int} (h : limB z = true) : z = [] ∨ (endB z = true ∧ z.length ≤ 64) := by
  simpa [limB, keyB] using h
theorem limB_len {z : List Int} (h : limB z = true) : z.length ≤ 64 := by
  rcases limB_cases h with rfl | h
  · simp
  · exact h.2
theorem mayB_parts {a b : List Int} (h : mayB a b = true) : limB a = true ∧ limB b = true ∧ (b = [] ∨ (endB b = true ∧ ltB a b = true)) := by
  simp only [mayB, Bool.and_eq_true, Bool.or_eq_true, decide_eq_true_eq] at h
  obtain ⟨⟨h1, h2⟩, h3⟩ := h
  refine ⟨h1, h2, ?_⟩
  rcases limB_cases h2 with rfl | ⟨h4, _⟩
  · exact .inl rfl
  · refine .inr ⟨h4, ?_⟩
    rcases h3 with (rfl | rfl) | h3
    · exact ltB_empty (endB_ne h4)
    · simp [endB] at h4
    · exact h3
/-- what may be asked for, told by the key -/
theorem mid_may {a b : List Int} (ha : IsB a) (hb : IsB b) (h : mayB a b = true) (hl : (mid a b).length ≤ 64) :
    keyB (mid a b) = true ∧ IsB (mid a b) ∧ ltB a (mid a b) = true ∧ (b = [] ∨ ltB (mid a b) b = true) := by
  obtain ⟨h1, h2, h3, h4⟩ := mid_ok _ a b (Nat.le_refl _) ha hb (mayB_parts h).2.2
  exact ⟨by simp [keyB, h1, hl], h2, h3, h4⟩
theorem mayB_low {a b m : List Int} (h : mayB a b = true) (hm : keyB m = true) (h4 : b = [] ∨ ltB m b = true) : mayB m b = true := by
  obtain ⟨_, h2, _⟩ := mayB_parts h
  rcases h4 with rfl | h4
  · simp [mayB, limB, hm]
  · simp [mayB, h2, h4]; simp [limB, hm]
theorem mayB_high {a b m : List Int} (h : mayB a b = true) (hm : keyB m = true) (h3 : ltB a m = true) : mayB a m = true := by
  obtain ⟨h1, _, _⟩ := mayB_parts h
  simp [mayB, h1, h3]; simp [limB, hm]

/-- k places ahead; a gap of two to the power of j at the next one -/
def gapAt : Nat → Nat → List Int → List Int → Prop
  | 0, j, a, b => a.length ≤ 1 ∧ b.headD 256 = a.headD 0 + 2 ^ j
  | k + 1, j, a, b => ¬ a.headD 0 + 2 ≤ b.headD 256 ∧ gapAt k j a.tail (usedB (a.headD 0) (b.headD 256) b.tail)
theorem gap_len : ∀ (k j : Nat) (a b : List Int), gapAt k (j + 1) a b → (mid a b).length = k + 1
  | 0, j, a, b, h => by
    have hp := Int.pow_pos (n := 2) (m := j) (by decide)
    have e : (2 : Int) ^ (j + 1) = 2 * 2 ^ j := by rw [Int.pow_succ]; omega
    have := h.2
    rw [mid_yes (by omega)]; rfl
  | k + 1, j, a, b, h => by rw [mid_no h.1, List.length_cons, gap_len k j _ _ h.2]
theorem gap_next : ∀ (k j : Nat) (a b : List Int), gapAt k (j + 2) a b → gapAt k (j + 1) (mid a b) b ∧ gapAt k (j + 1) a (mid a b)
  | 0, j, a, b, h => by
    have hp := Int.pow_pos (n := 2) (m := j) (by decide)
    have e : (2 : Int) ^ (j + 2) = 4 * 2 ^ j := by rw [Int.pow_succ, Int.pow_succ]; omega
    have e1 : (2 : Int) ^ (j + 1) = 2 * 2 ^ j := by rw [Int.pow_succ]; omega
    have := h.2
    rw [mid_yes (by omega)]
    refine ⟨⟨by simp, ?_⟩, ⟨h.1, ?_⟩⟩
    · simp only [List.headD_cons]; omega
    · simp only [List.headD_cons]; omega
  | k + 1, j, a, b, h => by
    obtain ⟨h1, h2⟩ := gap_next k j _ _ h.2
    have hn := h.1
    rw [mid_no h.1]
    refine ⟨⟨by simpa using hn, by simpa using h1⟩, ⟨by simp; omega, ?_⟩⟩
    simp only [List.headD_cons, List.tail_cons]
    rw [usedB_no (by omega)]
    exact h2
theorem gap_last : ∀ (k : Nat) (a b : List Int), gapAt k 1 a b → gapAt (k + 1) 8 (mid a b) b ∧ gapAt (k + 1) 8 a (mid a b)
  | 0, a, b, h => by
    have := h.2
    have hl := h.1
    rw [mid_yes (by omega)]
    refine ⟨⟨?_, ?_⟩, ⟨?_, ?_⟩⟩
    · simp only [List.headD_cons]; omega
    · rw [usedB_yes (by simp only [List.headD_cons]; omega)]
      exact ⟨by simp, by simp⟩
    · simp only [List.headD_cons]; omega
    · rw [usedB_yes (by simp only [List.headD_cons]; omega)]
      have e : a.tail = [] := List.eq_nil_of_length_eq_zero (by rw [List.length_tail]; omega)
      rw [e]
      exact ⟨by simp, by simp⟩
  | k + 1, a, b, h => by
    obtain ⟨h1, h2⟩ := gap_last k _ _ h.2
    have hn := h.1
    rw [mid_no h.1]
    refine ⟨⟨by simpa using hn, by simpa using h1⟩, ⟨by simp; omega, ?_⟩⟩
    simp only [List.headD_cons, List.tail_cons]
    rw [usedB_no (by omega)]
    exact h2
/-- placed n times -/
def stepAt (n : Nat) (a b : List Int) : Prop := gapAt (n / 8) (8 - n % 8) a b
theorem step_zero : stepAt 0 [] [] := ⟨by simp, by simp⟩
theorem step_len {n : Nat} {a b : List Int} (h : stepAt n a b) : (mid a b).length = n / 8 + 1 := by
  unfold stepAt at h
  obtain ⟨j, hj⟩ : ∃ j, 8 - n % 8 = j + 1 := ⟨7 - n % 8, by omega⟩
  rw [hj] at h
  exact gap_len _ _ _ _ h
theorem step_next {n : Nat} {a b : List Int} (h : stepAt n a b) : stepAt (n + 1) (mid a b) b ∧ stepAt (n + 1) a (mid a b) := by
  unfold stepAt at h ⊢
  by_cases h7 : n % 8 = 7
  · rw [h7] at h
    rw [show (n + 1) / 8 = n / 8 + 1 by omega, show 8 - (n + 1) % 8 = 8 by omega]
    exact gap_last _ _ _ h
  · obtain ⟨j, hj⟩ : ∃ j, 8 - n % 8 = j + 2 := ⟨6 - n % 8, by omega⟩
    rw [hj] at h
    rw [show (n + 1) / 8 = n / 8 by omega, show 8 - (n + 1) % 8 = j + 1 by omega]
    exact gap_next _ _ _ _ h

theorem strN_of {zs : List Int} (h : IsB zs) : strN (strOfNums zs) = zs := by
  unfold strN
  rw [strOfNums_data, List.map_map]
  conv => rhs; rw [← List.map_id zs]
  refine List.map_congr_left fun z hz => ?_
  have := h z hz
  simp only [Function.comp, id]
  simp
  omega
end Go.Proofs.YtjpjjckokonkpaaDoor.Ky
