/- Parts of points: which floats are whole coordinates. -/
import Derived.Test.YtjoeogdkcggmdaaM1
import Derived.KernelRfl
namespace Go.Proofs.Ytjoeogdkcggmdaa

def Wh (b : Nat) (n : Int) : Prop := fin b = some (n * U)
def inB (v : Int) : Bool := decide (-(1099511627776 * U) ≤ v) && decide (v ≤ 1099511627776 * U) && decide (v % U = 0)
def isPart (b : Nat) : Bool := match fin b with
  | some v => inB v
  | none => false
def partOf (b : Nat) : Int := match fin b with
  | some v => v / U
  | none => 0

theorem isPart_out {b : Nat} (h : isPart b = true) : Wh b (partOf b) ∧ -1099511627776 ≤ partOf b ∧ partOf b ≤ 1099511627776 := by
  unfold isPart at h
  unfold Wh partOf
  split at h
  · rename_i v hv
    rw [hv]
    simp only [inB, Bool.and_eq_true, decide_eq_true_eq] at h
    obtain ⟨⟨h1, h2⟩, h3⟩ := h
    have hU := U_pos
    have e : v / U * U = v := Int.ediv_mul_cancel (Int.dvd_of_emod_eq_zero h3)
    refine ⟨by simp only [e], ?_, ?_⟩
    · have : -1099511627776 * U ≤ v / U * U := by rw [e, Int.neg_mul]; exact h1
      exact Int.le_of_mul_le_mul_right this hU
    · have : v / U * U ≤ 1099511627776 * U := by rw [e]; exact h2
      exact Int.le_of_mul_le_mul_right this hU
  · simp at h

theorem mulU_le {a b : Int} (h : a ≤ b) : a * U ≤ b * U := Int.mul_le_mul_of_nonneg_right h (Int.le_of_lt U_pos)

theorem isPart_of {b : Nat} {n : Int} (h : Wh b n) (h1 : -1099511627776 ≤ n) (h2 : n ≤ 1099511627776) : isPart b = true ∧ partOf b = n := by
  unfold Wh at h
  unfold isPart partOf
  rw [h]
  refine ⟨?_, Int.mul_ediv_cancel _ (Int.ne_of_gt U_pos)⟩
  simp only [inB, Bool.and_eq_true, decide_eq_true_eq]
  refine ⟨⟨?_, mulU_le h2⟩, Int.mul_emod_left _ _⟩
  rw [← Int.neg_mul]
  exact mulU_le h1

theorem wh_fl (n : Int) (h1 : -9007199254740992 < n) (h2 : n < 9007199254740992) : Wh (fl n) n := fin_fl n h1 h2
theorem wh_zero : Wh 0 0 := by
  have := wh_fl 0 (by decide) (by decide)
  rw [fl_zero] at this
  exact this

theorem ord_wh {x y : Nat} {p q : Int} (hx : Wh x p) (hy : Wh y q) : FloatKind.f64.format.order x y = some (if p < q then .lt else if p = q then .eq else .gt) := by
  rw [order_fin hx hy, cmp_mul _ _ _ U_pos, cmp_int]

theorem eq_wh {x y : Nat} {p q : Int} (hx : Wh x p) (hy : Wh y q) : (FloatKind.f64.format.order x y == some .eq) = decide (p = q) := by
  rw [ord_wh hx hy]
  by_cases h : p < q
  · rw [if_pos h]; simp; omega
  · rw [if_neg h]
    by_cases g : p = q
    · rw [if_pos g]; simp [g]
    · rw [if_neg g]; simp [g]
theorem ge_wh {x y : Nat} {p q : Int} (hx : Wh x p) (hy : Wh y q) : (FloatKind.f64.format.order x y == some .gt || FloatKind.f64.format.order x y == some .eq) = decide (q ≤ p) := by
  rw [ord_wh hx hy]
  by_cases h : p < q
  · rw [if_pos h]; simp; omega
  · rw [if_neg h]
    by_cases g : p = q
    · rw [if_pos g]; simp [g]
    · rw [if_neg g]; simp; omega
theorem gt_wh {x y : Nat} {p q : Int} (hx : Wh x p) (hy : Wh y q) : (FloatKind.f64.format.order x y == some .gt) = decide (q < p) := by
  rw [ord_wh hx hy]
  by_cases h : p < q
  · rw [if_pos h]; simp; omega
  · rw [if_neg h]
    by_cases g : p = q
    · rw [if_pos g]; simp [g]
    · rw [if_neg g]; simp; omega
theorem lt_wh {x y : Nat} {p q : Int} (hx : Wh x p) (hy : Wh y q) : (FloatKind.f64.format.order x y == some .lt) = decide (p < q) := by
  rw [ord_wh hx hy]
  by_cases h : p < q
  · rw [if_pos h]; simp [h]
  · rw [if_neg h]
    by_cases g : p = q
    · rw [if_pos g]; simp [g]
    · rw [if_neg g]; simp; omega

theorem bits_hi : fl 1099511627776 = 4787326403894837248 := by kernel_rfl
theorem bits_lo : fl (-1099511627776) = 14010698440749613056 := by kernel_rfl
theorem bits_1 : fl 1 = 4607182418800017408 := by kernel_rfl
theorem bits_2 : fl 2 = 4611686018427387904 := by kernel_rfl
theorem wh_hi : Wh 4787326403894837248 1099511627776 := by rw [← bits_hi]; exact wh_fl _ (by decide) (by decide)
theorem wh_lo : Wh 14010698440749613056 (-1099511627776) := by rw [← bits_lo]; exact wh_fl _ (by decide) (by decide)

theorem order_none {x y : Nat} (hx : fin x = none) : FloatKind.f64.format.order x y = none ∨ (∃ s, Ieee.double.read x = .infinity s) := by
  unfold fin at hx
  change Ieee.double.order x y = none ∨ _
  unfold Ieee.Format.order
  cases h : Ieee.double.read x with
  | number s m i => rw [h] at hx; simp [dval] at hx
  | infinity s => exact .inr ⟨s, rfl⟩
  | nan s t =>
    left
    cases Ieee.double.read y <;> rfl

/-- the three ways of the test -/
theorem part_cases (b : Nat) :
    ((FloatKind.f64.format.order b 14010698440749613056 == some .gt || FloatKind.f64.format.order b 14010698440749613056 == some .eq) = false ∧ isPart b = false) ∨
    ((FloatKind.f64.format.order b 14010698440749613056 == some .gt || FloatKind.f64.format.order b 14010698440749613056 == some .eq) = true ∧ (FloatKind.f64.format.order b 4787326403894837248 == some .lt || FloatKind.f64.format.order b 4787326403894837248 == some .eq) = false ∧ isPart b = false) ∨
    ((FloatKind.f64.format.order b 14010698440749613056 == some .gt || FloatKind.f64.format.order b 14010698440749613056 == some .eq) = true ∧ (FloatKind.f64.format.order b 4787326403894837248 == some .lt || FloatKind.f64.format.order b 4787326403894837248 == some .eq) = true ∧
      ∃ n, floatToIntVal .f64 b .i64 = some n ∧ (FloatKind.f64.format.order (fl n) b == some .eq) = isPart b ∧ (FloatKind.f64.format.order b (fl n) == some .eq) = isPart b) := by
  cases hf : fin b with
  | none =>
    have hp : isPart b = false := by unfold isPart; rw [hf]
    rcases order_none (y := 14010698440749613056) hf with h | ⟨s, hs⟩
    · left
      rw [h]
      exact ⟨rfl, hp⟩
    · have o1 : FloatKind.f64.format.order b 14010698440749613056 = some (if s then .lt else .gt) := by
        change Ieee.double.order _ _ = _
        unfold Ieee.Format.order
        rw [hs]
        have := wh_lo
        unfold Wh fin at this
        cases h : Ieee.double.read 14010698440749613056 with
        | number t n j => rfl
        | infinity t => rw [h] at this; simp [dval] at this
        | nan t u => rw [h] at this; simp [dval] at this
      have o2 : FloatKind.f64.format.order b 4787326403894837248 = some (if s then .lt else .gt) := by
        change Ieee.double.order _ _ = _
        unfold Ieee.Format.order
        rw [hs]
        have := wh_hi
        unfold Wh fin at this
        cases h : Ieee.double.read 4787326403894837248 with
        | number t n j => rfl
        | infinity t => rw [h] at this; simp [dval] at this
        | nan t u => rw [h] at this; simp [dval] at this
      cases s
      · right; left
        rw [o1, o2]
        exact ⟨rfl, rfl, hp⟩
      · left
        rw [o1]
        exact ⟨rfl, hp⟩
  | some v =>
    have e1 : FloatKind.f64.format.order b 14010698440749613056 = some (compare v (-1099511627776 * U)) := order_fin hf wh_lo
    have e2 : FloatKind.f64.format.order b 4787326403894837248 = some (compare v (1099511627776 * U)) := order_fin hf wh_hi
    have g1 : (FloatKind.f64.format.order b 14010698440749613056 == some .gt || FloatKind.f64.format.order b 14010698440749613056 == some .eq) = decide (-(1099511627776 * U) ≤ v) := by
      rw [e1, cmp_int]
      rw [Int.neg_mul]
      by_cases h : v < -(1099511627776 * U)
      · rw [if_pos h]; simp; omega
      · rw [if_neg h]
        by_cases g : v = -(1099511627776 * U)
        · rw [if_pos g]; simp; omega
        · rw [if_neg g]; simp; omega
    have g2 : (FloatKind.f64.format.order b 4787326403894837248 == some .lt || FloatKind.f64.format.order b 4787326403894837248 == some .eq) = decide (v ≤ 1099511627776 * U) := by
      rw [e2, cmp_int]
      by_cases h : v < 1099511627776 * U
      · rw [if_pos h]; simp; omega
      · rw [if_neg h]
        by_cases g : v = 1099511627776 * U
        · rw [if_pos g]; simp; omega
        · rw [if_neg g]; simp; omega
    have hp : isPart b = inB v := by unfold isPart; rw [hf]
    rw [g1, g2, hp]
    by_cases c1 : -(1099511627776 * U) ≤ v
    · by_cases c2 : v ≤ 1099511627776 * U
      · right; right
        refine ⟨by simp [c1], by simp [c2], ?_⟩
        obtain ⟨n, hn, n1, n2, n3⟩ := toInt_fin hf (C := 1099511627776) (by decide) (by decide) c1 c2
        have hw := wh_fl n (by omega) (by omega)
        refine ⟨n, hn, ?_, ?_⟩
        · rw [order_fin hw hf]
          have : inB v = decide (v % U = 0) := by simp [inB, c1, c2]
          rw [this, cmp_int]
          by_cases g : n * U = v
          · rw [← g]
            simp
          · have hne : ¬ v % U = 0 := by
              intro hm
              have e : v / U * U = v := Int.ediv_mul_cancel (Int.dvd_of_emod_eq_zero hm)
              have := n3 _ e.symm
              rw [this] at g
              exact g e
            by_cases h : n * U < v
            · rw [if_pos h]; simp [hne]
            · rw [if_neg h, if_neg g]; simp [hne]
        · rw [order_fin hf hw]
          have : inB v = decide (v % U = 0) := by simp [inB, c1, c2]
          rw [this, cmp_int]
          by_cases g : v = n * U
          · rw [g]
            simp
          · have hne : ¬ v % U = 0 := by
              intro hm
              have e : v / U * U = v := Int.ediv_mul_cancel (Int.dvd_of_emod_eq_zero hm)
              have := n3 _ e.symm
              rw [this] at g
              exact g e.symm
            by_cases h : v < n * U
            · rw [if_pos h]; simp [hne]
            · rw [if_neg h, if_neg g]; simp [hne]
      · right; left
        exact ⟨by simp [c1], by simp [c2], by simp [inB, c2]⟩
    · left
      exact ⟨by simp [c1], by simp [inB, c1]⟩

/-- a whole float as an int -/
theorem int_wh {b : Nat} {n : Int} (h : Wh b n) (h1 : -4398046511104 ≤ n) (h2 : n ≤ 4398046511104) : floatToIntVal .f64 b .i64 = some n := by
  obtain ⟨m, hm, _, _, e⟩ := toInt_fin h (C := 4398046511104) (by decide) (by decide) (by rw [← Int.neg_mul]; exact mulU_le h1) (mulU_le h2)
  rw [hm, e n rfl]

theorem addc_wh {a b c d : Nat} {p q r s : Int} (ha : Wh a p) (hb : Wh b q) (hc : Wh c r) (hd : Wh d s)
    (p1 : -4398046511104 ≤ p) (p2 : p ≤ 4398046511104) (q1 : -4398046511104 ≤ q) (q2 : q ≤ 4398046511104) (r1 : -4398046511104 ≤ r) (r2 : r ≤ 4398046511104) (s1 : -4398046511104 ≤ s) (s2 : s ≤ 4398046511104) :
    ∃ x y, cSumBits .add .f64 a b c d = some (x, y) ∧ Wh x (p + r) ∧ Wh y (q + s) := by
  obtain ⟨x, hx, wx⟩ := add_whole ha hc (by omega) (by omega) (by omega) (by omega)
  obtain ⟨y, hy, wy⟩ := add_whole hb hd (by omega) (by omega) (by omega) (by omega)
  exact ⟨x, y, by unfold cSumBits; rw [hx, hy]; rfl, wx, wy⟩

theorem subc_wh {a b c d : Nat} {p q r s : Int} (ha : Wh a p) (hb : Wh b q) (hc : Wh c r) (hd : Wh d s)
    (p1 : -4398046511104 ≤ p) (p2 : p ≤ 4398046511104) (q1 : -4398046511104 ≤ q) (q2 : q ≤ 4398046511104) (r1 : -4398046511104 ≤ r) (r2 : r ≤ 4398046511104) (s1 : -4398046511104 ≤ s) (s2 : s ≤ 4398046511104) :
    ∃ x y, cSumBits .sub .f64 a b c d = some (x, y) ∧ Wh x (p - r) ∧ Wh y (q - s) := by
  obtain ⟨x, hx, wx⟩ := sub_whole ha hc (by omega) (by omega) (by omega) (by omega)
  obtain ⟨y, hy, wy⟩ := sub_whole hb hd (by omega) (by omega) (by omega) (by omega)
  exact ⟨x, y, by unfold cSumBits; rw [hx, hy]; rfl, wx, wy⟩

end Go.Proofs.Ytjoeogdkcggmdaa
