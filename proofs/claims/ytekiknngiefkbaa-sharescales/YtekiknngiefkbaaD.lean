/- Contracts of Add, Sub, MulDiv, Mul, Clamp. -/
import Derived.Test.YtekiknngiefkbaaC
import Derived.Deep.RegionWith
namespace Go.Proofs.Ytekiknngiefkbaa
open Go.RowKit
set_option linter.unusedVariables false

theorem are3 (a b c : Int) (w : World) :
    Calls Try.prog 23 #[.slice (some ⟨w.heap.size, 0, none⟩) 3 3] (w.alloc (.cells #[.int .i64 a, .int .i64 b, .int .i64 c] 3)) fun e w' => e = .returned (.bool (coordB a && coordB b && coordB c)) ∧ (w.alloc (.cells #[.int .i64 a, .int .i64 b, .int .i64 c] 3)) = w' := by
  have h := areCoords_any w.heap.size [a, b, c] (w.alloc (.cells #[.int .i64 a, .int .i64 b, .int .i64 c] 3)) (by simp) (by
    intro i hi
    match i, hi with
    | 0, _ => simp [go_sem]
    | 1, _ => simp [go_sem]
    | 2, _ => simp [go_sem])
  simpa [Bool.and_assoc] using h

def hiW (p : Int) : Int := p / 18446744073709551616
def loW (p : Int) : Int := p % 18446744073709551616

theorem product_of (a b p : Int) (w : World) (hp : p = a * b) (ha : 0 ≤ a) (ha' : a ≤ 1099511627776) (hb : 0 ≤ b) (hb' : b ≤ 1099511627776) :
    Calls Try.prog 24 #[.int .u64 a, .int .u64 b] w fun e w' => e = .returned (.tuple #[.int .u64 (hiW p), .int .u64 (loW p)]) ∧ w = w' := by
  subst hp
  exact product_any a b w ha ha' hb hb'

theorem quotient_of' (p c s r : Int) (w : World) (hs : s = pS p c) (hr : r = pR p c) (hp : 0 ≤ p) (hd0 : 0 < c) (hd' : c ≤ 1099511627776) :
    Calls Try.prog 26 #[.int .u64 (hiW p), .int .u64 (loW p), .int .u64 c] w fun e w' => e = .returned (.tuple #[.int .u64 s, .int .u64 r]) ∧ w = w' := by
  subst hs hr
  exact quotient_of p c w hp hd0 hd'

set_option maxHeartbeats 400000 in
theorem muldiv_yes (a b c : Int) (w : World) (ha : coordB a = true) (hb : coordB b = true) (hc : coordB c = true) (hc0 : 0 < c) :
    Calls Try.prog 21 #[.int .i64 a, .int .i64 b, .int .i64 c] w fun e w' => e = .returned (.tuple #[.int .i64 (satI (a * b / c)), .int .i64 0]) ∧ Below w.heap.size w w' := by
  have h1 := are3 a b c w
  rw [ha, hb, hc] at h1
  have H1 := Lib.hid h1
  have HA := Lib.hid ha
  have HB := Lib.hid hb
  simp [coordB] at ha hb hc
  obtain ⟨ha1, ha2⟩ := ha
  obtain ⟨hb1, hb2⟩ := hb
  obtain ⟨hc1, hc2⟩ := hc
  clear h1
  obtain ⟨m, hm⟩ : ∃ m : Int, m = (a.natAbs : Int) := ⟨_, rfl⟩
  obtain ⟨n, hn⟩ : ∃ n : Int, n = (b.natAbs : Int) := ⟨_, rfl⟩
  obtain ⟨p, hp⟩ : ∃ p : Int, p = m * n := ⟨_, rfl⟩
  have hm1 : 0 ≤ m := by omega
  have hm2 : m ≤ 1099511627776 := by omega
  have hn1 : 0 ≤ n := by omega
  have hn2 : n ≤ 1099511627776 := by omega
  have hp0 : 0 ≤ p := by rw [hp]; exact Int.mul_nonneg hm1 hn1
  obtain ⟨s, hs⟩ : ∃ s, s = pS p c := ⟨_, rfl⟩
  obtain ⟨r, hr⟩ : ∃ r, r = pR p c := ⟨_, rfl⟩
  have hbd := pS_bd p c hp0 hc0
  rw [← hs, ← hr] at hbd
  obtain ⟨s0, s1, r0, r1, sr⟩ := hbd
  have hsr : r = 0 ∨ s < 1099511627776 := by
    by_cases g : s = 1099511627776
    · exact .inl (sr g)
    · exact .inr (by omega)
  have c1 := fun w => magnitude_any a w HA.out
  have c2 := fun w => magnitude_any b w HB.out
  rw [← hm] at c1
  rw [← hn] at c2
  have C1 := Lib.hid c1
  have C2 := Lib.hid c2
  have C3 := Lib.hid (fun w => product_of m n p w hp hm1 hm2 hn1 hn2)
  have C4 := Lib.hid (fun w => quotient_of' p c s r w hs hr hp0 hc0 hc2)
  have e1 : (a < 0) = (b < 0) → a * b = p := by
    intro h
    rw [hp, hm, hn]
    by_cases ga : a < 0
    · have gb : b < 0 := by rw [← h]; exact ga
      rw [Int.ofNat_natAbs_of_nonpos (by omega), Int.ofNat_natAbs_of_nonpos (by omega), Int.neg_mul_neg]
    · have gb : ¬ b < 0 := by rw [← h]; exact ga
      rw [Int.natAbs_of_nonneg (by omega), Int.natAbs_of_nonneg (by omega)]
  have e2 : ¬ (a < 0) = (b < 0) → a * b = -p := by
    intro h
    rw [hp, hm, hn]
    by_cases ga : a < 0
    · have gb : ¬ b < 0 := by intro gb; exact h (by rw [eq_true ga, eq_true gb])
      rw [Int.ofNat_natAbs_of_nonpos (by omega), Int.natAbs_of_nonneg (by omega), Int.neg_mul, Int.neg_neg]
    · have gb : b < 0 := by
        by_cases gb : b < 0
        · exact gb
        · exact absurd (by rw [eq_false ga, eq_false gb]) h
      rw [Int.natAbs_of_nonneg (by omega), Int.ofNat_natAbs_of_nonpos (by omega), Int.mul_neg, Int.neg_neg]
  have E1 := Lib.hid e1
  have E2 := Lib.hid e2
  have HS := Lib.hid hs
  have HR := Lib.hid hr
  have q1 := sat_pos p c hp0 hc0
  have q2 := sat_neg p c hp0 hc0
  rw [← hs] at q1
  rw [← hs, ← hr] at q2
  have Q1 := Lib.hid q1
  have Q2 := Lib.hid q2
  clear c1 c2 hm hn hp hs hr sr e1 e2 q1 q2
  go_enter Try.func21, Try.ntmps21
  go_wp2_with (first | (go_at_call 23; refine (H1.out).mono ?_; rintro e w' ⟨rfl, rfl⟩) | (go_at_call_of 25 (Value.int IntKind.i64 a); refine (C1.out _).mono ?_; rintro e w' ⟨rfl, rfl⟩) | (go_at_call_of 25 (Value.int IntKind.i64 b); refine (C2.out _).mono ?_; rintro e w' ⟨rfl, rfl⟩) | (go_at_call 24; refine (C3.out _).mono ?_; rintro e w' ⟨rfl, rfl⟩) | (go_at_call 26; refine (C4.out _).mono ?_; rintro e w' ⟨rfl, rfl⟩))
  · have h : (decide (a < 0) == decide (b < 0)) = true := by assumption
    have h' : (a < 0) = (b < 0) := by simpa using h
    go_ret2
    refine ⟨?_, (Below.refl _ _).alloc (Nat.le_refl _) _⟩
    rw [(E1.out) h', Q1.out]
    rfl
  · have h : (decide (a < 0) == decide (b < 0)) = false := by assumption
    have h' : ¬ (a < 0) = (b < 0) := by simpa using h
    have hr : 0 < r := by assumption
    go_ret2
    refine ⟨?_, (Below.refl _ _).alloc (Nat.le_refl _) _⟩
    rw [(E2.out) h', Q2.out, if_pos hr]
    rfl
  · have h : (decide (a < 0) == decide (b < 0)) = false := by assumption
    have h' : ¬ (a < 0) = (b < 0) := by simpa using h
    have hr : ¬ 0 < r := by omega
    go_ret2
    refine ⟨?_, (Below.refl _ _).alloc (Nat.le_refl _) _⟩
    rw [(E2.out) h', Q2.out, if_neg hr]
    rfl

set_option maxHeartbeats 400000 in
theorem muldiv_no (a b c : Int) (w : World) (h : (coordB a && coordB b && coordB c && decide (0 < c)) = false) :
    Calls Try.prog 21 #[.int .i64 a, .int .i64 b, .int .i64 c] w fun e w' => e = .returned (.tuple #[.int .i64 0, .int .i64 1]) ∧ Below w.heap.size w w' := by
  have h1 := are3 a b c w
  by_cases g : (coordB a && coordB b && coordB c) = true
  · rw [g] at h1 h
    have hc : c ≤ 0 := by simpa using h
    have H1 := Lib.hid h1
    clear h1 h g
    go_enter Try.func21, Try.ntmps21
    go_wp2_with (go_at_call 23; refine (H1.out).mono ?_; rintro e w' ⟨rfl, rfl⟩)
    go_ret2
    exact ⟨rfl, (Below.refl _ _).alloc (Nat.le_refl _) _⟩
  · rw [Bool.eq_false_iff.mpr g] at h1
    have H1 := Lib.hid h1
    clear h1 h g
    go_enter Try.func21, Try.ntmps21
    go_wp2_with (go_at_call 23; refine (H1.out).mono ?_; rintro e w' ⟨rfl, rfl⟩)
    go_ret2
    exact ⟨rfl, (Below.refl _ _).alloc (Nat.le_refl _) _⟩

theorem coord64 : coordB 64 = true := by decide

def clampI (x low high : Int) : Int := max low (if high = -1 then x else min x high)

end Go.Proofs.Ytekiknngiefkbaa
