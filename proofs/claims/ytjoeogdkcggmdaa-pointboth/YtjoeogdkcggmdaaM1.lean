/- Plain mathematics of float64: whole numbers are exact. -/
import Derived.Laws.FloatArith
import Derived.Laws.ComplexArith
namespace Go.Proofs.Ytjoeogdkcggmdaa

/-- the unit's worth: a whole 1 in the format's smallest steps -/
def U : Int := 2 ^ 1074
theorem U_eq : U = 2 ^ 1074 := rfl
theorem U_pos : 0 < U := by rw [U_eq]; exact Int.pow_pos (by decide)
theorem U_split (k : Nat) (h : k ≤ 1074) : U = 2 ^ k * 2 ^ (1074 - k) := by
  rw [U_eq, ← Int.pow_add, show k + (1074 - k) = 1074 by omega]

/-- a datum's worth in the format's smallest steps -/
def dval : Ieee.Datum → Option Int
  | .number s m i => some (Ieee.signed s m (i + 1074).toNat)
  | _ => none
def fin (b : Nat) : Option Int := dval (Ieee.double.read b)
def fl (n : Int) : Nat := floatOfInt .f64 n

theorem signed_eq (s : Bool) (m up : Nat) : Ieee.signed s m up = (if s then -(m : Int) else (m : Int)) * 2 ^ up := by
  unfold Ieee.signed
  rw [Nat.shiftLeft_eq]
  cases s
  · simp
  · simp [Int.neg_mul]

theorem signed_add (s : Bool) (m a k : Nat) : Ieee.signed s m (a + k) = Ieee.signed s m a * 2 ^ k := by
  rw [signed_eq, signed_eq, Int.pow_add, Int.mul_assoc]

theorem ppos (k : Nat) : (0 : Int) < 2 ^ k := Int.pow_pos (by decide)

/-- what a datum of the format keeps to -/
def Dok : Ieee.Datum → Prop
  | .number _ m i => -1074 ≤ i ∧ m < 2 ^ 53 ∧ (i ≠ -1074 → 2 ^ 52 ≤ m)
  | _ => True

theorem read_ok (b : Nat) : Dok (Ieee.double.read b) := by
  unfold Ieee.Format.read
  have e1 : Ieee.double.binade = 2 ^ 52 := rfl
  have e2 : Ieee.double.leastPlace = -1074 := by decide
  dsimp only
  rw [e1, e2]
  split
  · rename_i h
    refine ⟨by omega, by omega, fun h => absurd rfl h⟩
  · split
    · refine ⟨by omega, ?_, fun _ => ?_⟩
      · have := Nat.mod_lt (b % Ieee.double.signWeight) (show 2 ^ 52 > 0 by decide)
        omega
      · omega
    · split <;> trivial

theorem opp_ok {d : Ieee.Datum} (h : Dok d) : Dok d.opposite := by
  cases d <;> exact h

theorem opp_val {d : Ieee.Datum} {v : Int} (h : dval d = some v) : dval d.opposite = some (-v) := by
  cases d with
  | number s m i =>
    simp only [dval, Option.some.injEq] at h
    simp only [dval, Ieee.Datum.opposite, Option.some.injEq]
    rw [signed_eq] at h ⊢
    rw [← h]
    cases s
    · simp [Int.neg_mul]
    · simp [Int.neg_mul]
  | infinity s => simp [dval] at h
  | nan s t => simp [dval] at h

theorem cmp_int (a b : Int) : compare a b = if a < b then .lt else if a = b then .eq else .gt := rfl

theorem cmp_mul (a b c : Int) (hc : 0 < c) : compare (a * c) (b * c) = compare a b := by
  rw [cmp_int, cmp_int]
  rcases Int.lt_trichotomy a b with h | h | h
  · have h2 := Int.mul_lt_mul_of_pos_right h hc
    rw [if_pos h, if_pos h2]
  · subst h
    simp
  · have h2 := Int.mul_lt_mul_of_pos_right h hc
    rw [if_neg (by omega), if_neg (by omega), if_neg (by omega), if_neg (by omega)]

theorem order_fin {x y : Nat} {p q : Int} (hx : fin x = some p) (hy : fin y = some q) : FloatKind.f64.format.order x y = some (compare p q) := by
  change Ieee.double.order x y = _
  unfold Ieee.Format.order
  unfold fin at hx hy
  have ox := read_ok x
  have oy := read_ok y
  generalize Ieee.double.read x = d at *
  generalize Ieee.double.read y = e at *
  cases d with
  | infinity s => simp [dval] at hx
  | nan s t => simp [dval] at hx
  | number s m i =>
  cases e with
  | infinity s => simp [dval] at hy
  | nan s t => simp [dval] at hy
  | number t n j =>
  simp only [dval, Option.some.injEq] at hx hy
  simp only [Dok] at ox oy
  simp only [Ieee.Datum.order, Option.some.injEq]
  have e1 : (i + 1074).toNat = (i - min i j).toNat + (min i j + 1074).toNat := by omega
  have e2 : (j + 1074).toNat = (j - min i j).toNat + (min i j + 1074).toNat := by omega
  rw [e1, signed_add] at hx
  rw [e2, signed_add] at hy
  rw [← hx, ← hy, cmp_mul _ _ _ (ppos _)]

theorem cut_zero (way : Ieee.Toward) (neg : Bool) (n : Nat) (hw : way = .even ∨ way = .zero) : way.cut neg n 0 = n := by
  unfold Ieee.Toward.cut
  rcases hw with rfl | rfl <;> simp [Nat.mod_one]

theorem log2_le (n : Nat) (h0 : 0 < n) (h : n < 2 ^ 53) : n.log2 ≤ 52 := by
  have := (Nat.log2_lt (by omega : n ≠ 0)).2 h
  omega

theorem log2_mul_pow (n k : Nat) (h0 : 0 < n) : (n * 2 ^ k).log2 = n.log2 + k := by
  have hp := Nat.two_pow_pos k
  have hlo : 2 ^ n.log2 ≤ n := Nat.log2_self_le (by omega)
  have hhi : n < 2 ^ (n.log2 + 1) := Nat.lt_log2_self
  rw [Nat.log2_eq_iff (Nat.ne_of_gt (Nat.mul_pos h0 hp))]
  refine ⟨?_, ?_⟩
  · rw [Nat.pow_add]
    exact Nat.mul_le_mul_right _ hlo
  · rw [show n.log2 + k + 1 = n.log2 + 1 + k by omega, Nat.pow_add]
    exact Nat.mul_lt_mul_of_pos_right hhi hp

theorem nearest_whole (neg : Bool) (n k : Nat) (h0 : 0 < n) (h : n < 2 ^ 53) :
    Ieee.double.nearest neg (n * 2 ^ k) (-(k : Int)) = Ieee.double.word neg ((n.log2 + 1022) * 2 ^ 52 + n * 2 ^ (52 - n.log2)) := by
  have hL := log2_le n h0 h
  have hpos : 0 < n * 2 ^ k := Nat.mul_pos h0 (Nat.two_pow_pos k)
  have hlog := log2_mul_pow n k h0
  unfold Ieee.Format.nearest
  rw [if_neg (by omega)]
  have e1 : Ieee.double.binade = 2 ^ 52 := rfl
  have e2 : Ieee.double.leastPlace = -1074 := by decide
  have e3 : Ieee.double.fractionBits = 52 := rfl
  have e4 : Ieee.double.infRung = 2047 * 2 ^ 52 := by decide
  dsimp only
  rw [e1, e2, e3, e4, hlog]
  have el : max (-(k : Int) + ((n.log2 + k : Nat) : Int) - ((52 : Nat) : Int)) (-1074) = (n.log2 : Int) - 52 := by omega
  rw [el]
  have ek : Ieee.Toward.even.cut neg ((n * 2 ^ k) <<< (-(k : Int) - ((n.log2 : Int) - 52)).toNat) (((n.log2 : Int) - 52) - -(k : Int)).toNat = n * 2 ^ (52 - n.log2) := by
    by_cases hk : n.log2 + k ≤ 52
    · rw [show (((n.log2 : Int) - 52) - -(k : Int)).toNat = 0 by omega, cut_zero _ _ _ (.inl rfl), show (-(k : Int) - ((n.log2 : Int) - 52)).toNat = 52 - n.log2 - k by omega, Nat.shiftLeft_eq, Nat.mul_assoc, ← Nat.pow_add, show k + (52 - n.log2 - k) = 52 - n.log2 by omega]
    · rw [show (-(k : Int) - ((n.log2 : Int) - 52)).toNat = 0 by omega, show (((n.log2 : Int) - 52) - -(k : Int)).toNat = n.log2 + k - 52 by omega, Nat.shiftLeft_zero]
      unfold Ieee.Toward.cut
      rw [hlog, Nat.min_eq_left (by omega)]
      have hs : n * 2 ^ k = n * 2 ^ (52 - n.log2) * 2 ^ (n.log2 + k - 52) := by
        rw [Nat.mul_assoc, ← Nat.pow_add, show 52 - n.log2 + (n.log2 + k - 52) = k by omega]
      rw [hs, Nat.shiftLeft_eq, Nat.one_mul]
      have hp := Nat.two_pow_pos (n.log2 + k - 52)
      dsimp only
      rw [Nat.mul_div_cancel _ hp, Nat.mul_mod_left]
      simp
  rw [ek]
  have hlo : 2 ^ n.log2 ≤ n := Nat.log2_self_le (by omega)
  have hhi : n < 2 ^ (n.log2 + 1) := Nat.lt_log2_self
  have b2 : n * 2 ^ (52 - n.log2) < 2 ^ 53 := by
    have := Nat.mul_lt_mul_of_pos_right hhi (Nat.two_pow_pos (52 - n.log2))
    rw [← Nat.pow_add, show n.log2 + 1 + (52 - n.log2) = 53 by omega] at this
    exact this
  congr 1
  rw [show ((n.log2 : Int) - 52 - -1074).toNat = n.log2 + 1022 by omega]
  exact Nat.min_eq_left (by omega)

theorem signed_shift (neg : Bool) (n J M : Nat) : Ieee.signed neg (n * 2 ^ J) M = Ieee.signed neg n (J + M) := by
  rw [signed_eq, signed_eq, Int.pow_add, ← Int.mul_assoc]
  congr 1
  cases neg <;> simp [Int.neg_mul]

theorem fin_word (neg : Bool) (n : Nat) (h0 : 0 < n) (h : n < 2 ^ 53) :
    fin (Ieee.double.word neg ((n.log2 + 1022) * 2 ^ 52 + n * 2 ^ (52 - n.log2))) = some (Ieee.signed neg n 1074) := by
  have hL := log2_le n h0 h
  have hlo : 2 ^ n.log2 ≤ n := Nat.log2_self_le (by omega)
  have hhi : n < 2 ^ (n.log2 + 1) := Nat.lt_log2_self
  have b2 : n * 2 ^ (52 - n.log2) < 2 ^ 53 := by
    have := Nat.mul_lt_mul_of_pos_right hhi (Nat.two_pow_pos (52 - n.log2))
    rw [← Nat.pow_add, show n.log2 + 1 + (52 - n.log2) = 53 by omega] at this
    exact this
  have b1 : 2 ^ 52 ≤ n * 2 ^ (52 - n.log2) := by
    have := Nat.mul_le_mul_right (2 ^ (52 - n.log2)) hlo
    rw [← Nat.pow_add, show n.log2 + (52 - n.log2) = 52 by omega] at this
    exact this
  have hval : Ieee.signed neg (n * 2 ^ (52 - n.log2)) (n.log2 + 1022) = Ieee.signed neg n 1074 := by
    rw [signed_shift, show 52 - n.log2 + (n.log2 + 1022) = 1074 by omega]
  generalize hK : n * 2 ^ (52 - n.log2) = K at *
  generalize n.log2 = L at *
  unfold fin Ieee.Format.read
  have e1 : Ieee.double.binade = 2 ^ 52 := rfl
  have e2 : Ieee.double.leastPlace = -1074 := by decide
  have e4 : Ieee.double.infRung = 2047 * 2 ^ 52 := by decide
  have e5 : Ieee.double.signWeight = 2 ^ 63 := by decide
  have er : Ieee.double.word neg ((L + 1022) * 2 ^ 52 + K) % Ieee.double.signWeight = (L + 1022) * 2 ^ 52 + K := by
    unfold Ieee.Format.word
    rw [e5]
    cases neg <;> simp <;> omega
  have es : (Ieee.double.word neg ((L + 1022) * 2 ^ 52 + K) / Ieee.double.signWeight % 2 == 1) = neg := by
    unfold Ieee.Format.word
    rw [e5]
    cases neg
    · simp; omega
    · simp; omega
  dsimp only
  rw [er, es, e1, e2, e4, if_neg (by omega), if_pos (by omega)]
  have m1 : 2 ^ 52 + ((L + 1022) * 2 ^ 52 + K) % 2 ^ 52 = K := by omega
  have m2 : ((L + 1022) * 2 ^ 52 + K) / 2 ^ 52 - 1 = L + 1022 := by omega
  rw [m1, m2]
  simp only [dval, Option.some.injEq]
  rw [show (-1074 + ((L + 1022 : Nat) : Int) + 1074).toNat = L + 1022 by omega]
  exact hval

theorem fin_zero (neg : Bool) : fin (Ieee.double.word neg 0) = some 0 := by
  cases neg <;> rfl

/-- a whole number at any place, written and read -/
theorem fin_nearest (neg : Bool) (n k : Nat) (h : n < 2 ^ 53) : fin (Ieee.double.nearest neg (n * 2 ^ k) (-(k : Int))) = some (Ieee.signed neg n 1074) := by
  by_cases h0 : n = 0
  · subst h0
    rw [Nat.zero_mul]
    unfold Ieee.Format.nearest
    rw [if_pos rfl, fin_zero]
    cases neg <;> simp [Ieee.signed]
  · rw [nearest_whole neg n k (by omega) h, fin_word neg n (by omega) h]

theorem signed_int (p : Int) : Ieee.signed (decide (p < 0)) p.natAbs 1074 = p * U := by
  rw [signed_eq, U_eq]
  congr 1
  by_cases h : p < 0
  · simp [h]; omega
  · simp [h]; omega

theorem fl_eq (n : Int) : fl n = Ieee.double.nearest (decide (n < 0)) n.natAbs 0 := rfl

theorem fin_fl (n : Int) (h1 : -9007199254740992 < n) (h2 : n < 9007199254740992) : fin (fl n) = some (n * U) := by
  have := fin_nearest (decide (n < 0)) n.natAbs 0 (by omega)
  rw [signed_int, Nat.pow_zero, Nat.mul_one] at this
  exact this

theorem fl_zero : fl 0 = 0 := by decide

/-- the places of whole numbers -/
theorem whole_place {s : Bool} {m : Nat} {i : Int} {p : Int} (ok : Dok (.number s m i)) (h : dval (.number s m i) = some (p * U)) (h1 : -4503599627370496 ≤ p) (h2 : p ≤ 4503599627370496) : i ≤ 0 := by
  obtain ⟨o1, o2, o3⟩ := ok
  simp only [dval, Option.some.injEq] at h
  by_cases hi : i ≤ 0
  · exact hi
  · exfalso
    have o4 := o3 (by omega)
    rw [show (i + 1074).toNat = i.toNat + 1074 by omega, signed_add, ← U_eq] at h
    have h3 := Int.eq_of_mul_eq_mul_right (Int.ne_of_gt U_pos) h
    rw [signed_eq] at h3
    have hi2 : (2 : Int) ≤ 2 ^ i.toNat := by
      rw [show i.toNat = (i.toNat - 1) + 1 by omega, Int.pow_succ]
      have := ppos (i.toNat - 1)
      omega
    have h4 : (4503599627370496 : Int) * 2 ≤ (m : Int) * 2 ^ i.toNat := Int.mul_le_mul (by omega) hi2 (by decide) (by omega)
    cases s
    · simp at h3; omega
    · simp [Int.neg_mul] at h3; omega

theorem cancel_pow {a p : Int} {k : Nat} (hk : k ≤ 1074) (h : a * 2 ^ (1074 - k) = p * U) : a = p * 2 ^ k := by
  rw [U_split k hk, ← Int.mul_assoc] at h
  exact Int.eq_of_mul_eq_mul_right (Int.ne_of_gt (ppos _)) h

theorem sum_whole {d e : Ieee.Datum} {p q : Int} (od : Dok d) (oe : Dok e) (hd : dval d = some (p * U)) (he : dval e = some (q * U))
    (hp1 : -2251799813685248 ≤ p) (hp2 : p ≤ 2251799813685248) (hq1 : -2251799813685248 ≤ q) (hq2 : q ≤ 2251799813685248) :
    ∃ r, (d.sum e).map Ieee.double.write = some r ∧ fin r = some ((p + q) * U) := by
  cases d with
  | infinity s => simp [dval] at hd
  | nan s t => simp [dval] at hd
  | number s m i =>
  cases e with
  | infinity s => simp [dval] at he
  | nan s t => simp [dval] at he
  | number t n j =>
  have hi := whole_place od hd (by omega) (by omega)
  have hj := whole_place oe he (by omega) (by omega)
  simp only [Dok] at od oe
  simp only [dval, Option.some.injEq] at hd he
  obtain ⟨k, hk⟩ : ∃ k : Nat, min i j = -(k : Int) := ⟨(-(min i j)).toNat, by omega⟩
  rw [show (i + 1074).toNat = (i - min i j).toNat + (1074 - k) by omega, signed_add] at hd
  rw [show (j + 1074).toNat = (j - min i j).toNat + (1074 - k) by omega, signed_add] at he
  have hd2 := cancel_pow (by omega) hd
  have he2 := cancel_pow (by omega) he
  simp only [Ieee.Datum.sum, Option.map_some, Option.some.injEq, exists_eq_left']
  rw [hd2, he2, ← Int.add_mul, hk]
  simp only [Ieee.Format.write]
  have hn : ((p + q) * 2 ^ k).natAbs = (p + q).natAbs * 2 ^ k := by
    rw [Int.natAbs_mul, Int.natAbs_pow]; rfl
  rw [hn]
  by_cases hz : p + q = 0
  · rw [hz]
    simp only [Int.zero_mul, Int.natAbs_zero, Nat.zero_mul, if_true]
    unfold Ieee.Format.nearest
    rw [if_pos rfl, fin_zero]
  · rw [if_neg (fun h => (Int.mul_eq_zero.1 h).elim hz (Int.ne_of_gt (ppos k)))]
    rw [fin_nearest _ _ _ (by omega), ← signed_int]
    congr 2
    have hk2 := ppos k
    by_cases hneg : p + q < 0
    · have := Int.mul_neg_of_neg_of_pos hneg hk2
      simp [hneg, this]
    · have := Int.mul_nonneg (show 0 ≤ p + q by omega) (Int.le_of_lt hk2)
      simp [hneg, this]

theorem add_whole {x y : Nat} {p q : Int} (hx : fin x = some (p * U)) (hy : fin y = some (q * U))
    (hp1 : -2251799813685248 ≤ p) (hp2 : p ≤ 2251799813685248) (hq1 : -2251799813685248 ≤ q) (hq2 : q ≤ 2251799813685248) :
    ∃ r, floatBits .add .f64 x y = some r ∧ fin r = some ((p + q) * U) :=
  sum_whole (read_ok x) (read_ok y) hx hy hp1 hp2 hq1 hq2

theorem sub_whole {x y : Nat} {p q : Int} (hx : fin x = some (p * U)) (hy : fin y = some (q * U))
    (hp1 : -2251799813685248 ≤ p) (hp2 : p ≤ 2251799813685248) (hq1 : -2251799813685248 ≤ q) (hq2 : q ≤ 2251799813685248) :
    ∃ r, floatBits .sub .f64 x y = some r ∧ fin r = some ((p - q) * U) := by
  have h := sum_whole (read_ok x) (opp_ok (read_ok y)) hx (by rw [opp_val hy, ← Int.neg_mul]) hp1 hp2 (by omega : -2251799813685248 ≤ -q) (by omega)
  rw [← Int.sub_eq_add_neg] at h
  exact h

theorem cut_div (neg : Bool) (m k : Nat) : Ieee.Toward.zero.cut neg m k = m / 2 ^ k := by
  unfold Ieee.Toward.cut
  simp only [Bool.toNat_false, Nat.add_zero, Nat.shiftLeft_eq, Nat.one_mul]
  by_cases h : k ≤ m.log2 + 2
  · rw [Nat.min_eq_left h]
  · rw [Nat.min_eq_right (by omega)]
    have h1 : m < 2 ^ (m.log2 + 1) := Nat.lt_log2_self
    have h2 : m < 2 ^ (m.log2 + 2) := Nat.lt_of_lt_of_le h1 (Nat.pow_le_pow_right (by decide) (by omega))
    have h3 : m < 2 ^ k := Nat.lt_of_lt_of_le h1 (Nat.pow_le_pow_right (by decide) (by omega))
    rw [Nat.div_eq_of_lt h2, Nat.div_eq_of_lt h3]

/-- a finite float cut to an int -/
theorem toInt_fin {b : Nat} {v C : Int} (h : fin b = some v) (hC0 : 0 ≤ C) (hC : C ≤ 4611686018427387904) (h1 : -(C * U) ≤ v) (h2 : v ≤ C * U) :
    ∃ n, floatToIntVal .f64 b .i64 = some n ∧ -C ≤ n ∧ n ≤ C ∧ ∀ p, v = p * U → n = p := by
  have ok := read_ok b
  unfold fin at h
  unfold floatToIntVal FloatKind.decode
  change ∃ n, (match (Ieee.double.read b).toInt .zero with | some n => if IntKind.i64.min ≤ n ∧ n ≤ IntKind.i64.max then some n else none | none => none) = some n ∧ _
  generalize Ieee.double.read b = d at *
  cases d with
  | infinity s => simp [dval] at h
  | nan s t => simp [dval] at h
  | number s m i =>
  simp only [Dok] at ok
  simp only [dval, Option.some.injEq] at h
  simp only [Ieee.Datum.toInt, Ieee.Datum.integral]
  rw [cut_div]
  -- the magnitude
  have key : ∃ Q : Nat, (m <<< i.toNat) / 2 ^ (-i).toNat = Q ∧ (Q : Int) ≤ C ∧ ∀ p : Int, v = p * U → (if s then -(Q : Int) else (Q : Int)) = p := by
    refine ⟨_, rfl, ?_, ?_⟩
    · have habs : (m : Int) * 2 ^ (i + 1074).toNat ≤ C * U := by
        rw [signed_eq] at h
        cases s
        · simp at h; omega
        · simp [Int.neg_mul] at h; omega
      by_cases hi : i ≤ 0
      · rw [show i.toNat = 0 by omega, Nat.shiftLeft_zero]
        obtain ⟨k, hk⟩ : ∃ k : Nat, i = -(k : Int) := ⟨(-i).toNat, by omega⟩
        subst hk
        rw [show (-(-(k : Int))).toNat = k by omega]
        rw [show (-(k : Int) + 1074).toNat = 1074 - k by omega, U_split k (by omega), ← Int.mul_assoc] at habs
        have h3 := Int.le_of_mul_le_mul_right habs (ppos _)
        obtain ⟨c, rfl⟩ := Int.eq_ofNat_of_zero_le hC0
        have h4 : m ≤ c * 2 ^ k := by
          have : (m : Int) ≤ ((c * 2 ^ k : Nat) : Int) := by rw [Int.natCast_mul, Int.natCast_pow]; exact h3
          exact_mod_cast this
        have h5 := Nat.div_le_of_le_mul (by rw [Nat.mul_comm] at h4; exact h4 : m ≤ 2 ^ k * c)
        exact_mod_cast h5
      · rw [show (-i).toNat = 0 by omega, Nat.pow_zero, Nat.div_one, Nat.shiftLeft_eq]
        rw [show (i + 1074).toNat = i.toNat + 1074 by omega, Int.pow_add, ← Int.mul_assoc, ← U_eq] at habs
        have h3 := Int.le_of_mul_le_mul_right habs U_pos
        rw [Int.natCast_mul, Int.natCast_pow]
        exact h3
    · intro p hp
      rw [hp, signed_eq] at h
      by_cases hi : i ≤ 0
      · rw [show i.toNat = 0 by omega, Nat.shiftLeft_zero]
        obtain ⟨k, hk⟩ : ∃ k : Nat, i = -(k : Int) := ⟨(-i).toNat, by omega⟩
        subst hk
        rw [show (-(-(k : Int))).toNat = k by omega]
        rw [show (-(k : Int) + 1074).toNat = 1074 - k by omega] at h
        have h3 := cancel_pow (by omega) h
        have hk2 := ppos k
        cases s
        · simp at h3 ⊢
          have h0 : 0 ≤ p := by
            by_cases hp0 : 0 ≤ p
            · exact hp0
            · have := Int.mul_neg_of_neg_of_pos (show p < 0 by omega) hk2
              omega
          rw [h3, Int.mul_ediv_cancel _ (Int.ne_of_gt hk2)]
        · simp at h3 ⊢
          have h4 : (m : Int) = (-p) * 2 ^ k := by rw [Int.neg_mul, ← h3, Int.neg_neg]
          rw [h4, Int.mul_ediv_cancel _ (Int.ne_of_gt hk2), Int.neg_neg]
      · rw [show (-i).toNat = 0 by omega, Nat.pow_zero, Nat.div_one, Nat.shiftLeft_eq]
        rw [show (i + 1074).toNat = i.toNat + 1074 by omega, Int.pow_add, ← Int.mul_assoc, ← U_eq] at h
        have h3 := Int.eq_of_mul_eq_mul_right (Int.ne_of_gt U_pos) h
        rw [Int.natCast_mul, Int.natCast_pow, ← h3]
        cases s <;> simp [Int.neg_mul]
  obtain ⟨Q, hQ, hQC, hQp⟩ := key
  rw [hQ]
  have es : Ieee.signed s Q 0 = if s then -(Q : Int) else (Q : Int) := by rw [signed_eq]; simp
  rw [es]
  have em : IntKind.i64.min = -9223372036854775808 := by decide
  have ex : IntKind.i64.max = 9223372036854775807 := by decide
  have bd : -C ≤ (if s then -(Q : Int) else (Q : Int)) ∧ (if s then -(Q : Int) else (Q : Int)) ≤ C := by
    cases s
    · simp; omega
    · simp; omega
  refine ⟨_, if_pos (by rw [em, ex]; omega), bd.1, bd.2, hQp⟩

end Go.Proofs.Ytjoeogdkcggmdaa
