/- Within; the walk of FixedLaws. -/
import Derived.Test.YtladhdpmphmbpaaF
namespace Go.Proofs.Ytladhdpmphmbpaa
open Go.RowKit
set_option linter.unusedVariables false

def withinI (i n : Int) : Int := i % 18446744073709551616 % n

set_option maxHeartbeats 400000 in
theorem within_any (i n : Int) (w : World) (hn : 0 < n) (hn' : n ≤ 4611686018427387904) :
    Calls Try.prog 26 #[.int .i64 i, .int .i64 n] w fun e w' => e = .returned (.int .i64 (withinI i n)) ∧ w = w' := by
  have hz : (n == 0) = false := by simp; omega
  go_enter Try.func26, Try.ntmps26
  go_wp2
  go_ret
  have h1 := Int.emod_nonneg (i % 18446744073709551616) (Int.ne_of_gt hn)
  have h2 := Int.emod_lt_of_pos (i % 18446744073709551616) hn
  exact ⟨ret_int (by unfold withinI; rw [IntKind.wrap_u64, Int.tmod_eq_emod_of_nonneg (by omega), IntWalk.wrap64_in _ (by omega)]), rfl⟩

theorem sat_in (a : Int) (h : -1099511627776 ≤ a) (h' : a ≤ 1099511627776) : satI a = a := by
  unfold satI; split <;> (try split) <;> omega

theorem coord_mk (a : Int) (h : -1099511627776 ≤ a) (h' : a ≤ 1099511627776) : coordB a = true := by
  unfold coordB; simp; omega

/-- what the law's round asks of the numbers -/
theorem laws_math (a b c : Int) (ha : -536870912 ≤ a) (ha' : a < 536870912) (hb : -536870912 ≤ b) (hb' : b < 536870912) (hc : 1 ≤ c) (hc' : c ≤ 1073741824) :
    satI (a * c / c) = a ∧ satI (b * a / c) = satI (a * b / c) ∧ (-1099511627776 < satI (a * b / c) → satI (a * b / c) < 1099511627776 → 0 ≤ a * b - satI (a * b / c) * c ∧ a * b - satI (a * b / c) * c < c) := by
  refine ⟨?_, by rw [Int.mul_comm b a], ?_⟩
  · rw [Int.mul_ediv_cancel _ (by omega)]
    exact sat_in a (by omega) (by omega)
  · intro h1 h2
    have e : satI (a * b / c) = a * b / c := by
      unfold satI at h1 h2 ⊢
      split <;> (try split) <;> simp_all
    rw [e]
    have h3 := Int.mul_ediv_add_emod (a * b) c
    have h4 := Int.emod_nonneg (a * b) (show c ≠ 0 by omega)
    have h5 := Int.emod_lt_of_pos (a * b) (show 0 < c by omega)
    rw [Int.mul_comm (a * b / c) c]
    omega

theorem mul_range (a b : Int) (ha : -536870912 ≤ a) (ha' : a < 536870912) (hb : -536870912 ≤ b) (hb' : b < 536870912) : -288230376151711744 ≤ a * b ∧ a * b ≤ 288230376151711744 := by
  have h1 : (a.natAbs : Int) ≤ 536870912 := by omega
  have h2 : (b.natAbs : Int) ≤ 536870912 := by omega
  have h3 := mul_bd a.natAbs b.natAbs 536870912 536870912 (by omega) h1 (by omega) h2
  have h4 : ((a * b).natAbs : Int) = (a.natAbs : Int) * (b.natAbs : Int) := by rw [Int.natAbs_mul]; rfl
  omega

set_option maxRecDepth 100000 in
set_option maxHeartbeats 4000000 in
theorem laws_walk (a : Option Addr) (zs : List Int) (cap : Nat) (w : World) (hrow : RowIs w a zs) :
    Calls Try.prog 6 #[.slice a zs.length cap] w fun e w' => e = .returned (.bool true) ∧ Below w.heap.size w w' := by
  have HR := Lib.hid hrow
  clear hrow
  go_enter Try.func6, Try.ntmps6
  go_wp2_with fail
  go_loopw [3] (fun i wr => ∃ k : Nat, k ≤ 40 ∧ i = .int .i64 k ∧ Below w.heap.size w wr) (fun i _ => 40 - (intOf i).toNat)
  case atStart => exact ⟨0, Nat.zero_le _, rfl, Below.refl _ _⟩
  case round =>
    obtain ⟨k, hk, rfl, hb⟩ := hrel
    by_cases hlt : k + 2 < zs.length
    · by_cases h40 : k < 40
      · obtain ⟨bl, off, rfl, hc0⟩ := HR.out k (by omega)
        obtain ⟨bl1, off1, e1, hc1⟩ := HR.out (k + 1) (by omega)
        obtain ⟨bl2, off2, e2, hc2⟩ := HR.out (k + 2) (by omega)
        simp only [Option.some.injEq, Addr.mk.injEq, and_true] at e1 e2
        obtain ⟨rfl, rfl⟩ := e1
        obtain ⟨rfl, rfl⟩ := e2
        have hbl := World.block_lt_of_cell? _ _ hc0
        have hx : wr.cell? ⟨bl, off + k, none⟩ = some (.int .i64 (zs.getD k 0)) := (hb.cell (p := ⟨bl, off + k, none⟩) hbl).trans hc0
        have hy : wr.cell? ⟨bl, off + (k + 1), none⟩ = some (.int .i64 (zs.getD (k + 1) 0)) := (hb.cell (p := ⟨bl, off + (k + 1), none⟩) hbl).trans hc1
        have hz : wr.cell? ⟨bl, off + (k + 2), none⟩ = some (.int .i64 (zs.getD (k + 2) 0)) := (hb.cell (p := ⟨bl, off + (k + 2), none⟩) hbl).trans hc2
        generalize zs.getD k 0 = x at *
        generalize zs.getD (k + 1) 0 = y at *
        generalize zs.getD (k + 2) 0 = z at *
        obtain ⟨A, hA⟩ : ∃ A, withinI x 1073741824 = A := ⟨_, rfl⟩
        obtain ⟨B, hB⟩ : ∃ B, withinI y 1073741824 = B := ⟨_, rfl⟩
        obtain ⟨C, hC⟩ : ∃ C, withinI z 1073741824 = C := ⟨_, rfl⟩
        have bA : 0 ≤ A ∧ A < 1073741824 := by rw [← hA]; unfold withinI; omega
        have bB : 0 ≤ B ∧ B < 1073741824 := by rw [← hB]; unfold withinI; omega
        have bC : 0 ≤ C ∧ C < 1073741824 := by rw [← hC]; unfold withinI; omega
        obtain ⟨p, hp⟩ : ∃ p, IntKind.i64.wrap (A - 536870912) = p := ⟨_, rfl⟩
        obtain ⟨q, hq⟩ : ∃ q, IntKind.i64.wrap (B - 536870912) = q := ⟨_, rfl⟩
        obtain ⟨r, hr⟩ : ∃ r, IntKind.i64.wrap (1 + C) = r := ⟨_, rfl⟩
        have ep : p = A - 536870912 := by rw [← hp]; exact IntWalk.i64_in _ (by omega)
        have eq : q = B - 536870912 := by rw [← hq]; exact IntWalk.i64_in _ (by omega)
        have er : r = 1 + C := by rw [← hr]; exact IntWalk.i64_in _ (by omega)
        have p0 : -536870912 ≤ p := by omega
        have p1 : p < 536870912 := by omega
        have q0 : -536870912 ≤ q := by omega
        have q1 : q < 536870912 := by omega
        have r0 : 1 ≤ r := by omega
        have r1 : r ≤ 1073741824 := by omega
        clear ep eq er bA bB bC hc0 hc1 hc2
        have i1 : IntKind.i64.wrap ((k : Int) + 1) = (k : Int) + 1 := IntWalk.i64_in _ (by omega)
        have i2 : IntKind.i64.wrap ((k : Int) + 2) = (k : Int) + 2 := IntWalk.i64_in _ (by omega)
        have i3 : ((k : Int) + 1).toNat = k + 1 := by omega
        have i4 : ((k : Int) + 2).toNat = k + 2 := by omega
        have i5 : (0 : Int) ≤ (k : Int) + 1 := by omega
        have i6 : (0 : Int) ≤ (k : Int) + 2 := by omega
        have i7 : (k : Int) + 1 < (zs.length : Int) := by omega
        have i8 : (k : Int) + 2 < (zs.length : Int) := by omega
        go_wp2_with fail
        go_quiet ((go_at_call 26; exact quiet_left (within_any _ _ _ (by decide) (by decide))))
        clear hA hB hC hp hq hr i1 i2 i3 i4 i5 i6 i7 i8
        have hb0 : Below w.heap.size w (wr.drewN nq) := below_drewN hb _
        generalize wr.drewN nq = v0 at *
        clear hx hy hz hb
        obtain ⟨s, hs⟩ : ∃ s, s = p + q := ⟨_, rfl⟩
        obtain ⟨m, hm⟩ : ∃ m, m = satI (p * q / r) := ⟨_, rfl⟩
        have hmath := laws_math p q r p0 p1 q0 q1 r0 r1
        rw [← hm] at hmath
        obtain ⟨m1, m2, m3⟩ := hmath
        have hmr := mul_range p q p0 p1 q0 q1
        have hcp := coord_mk p (by omega) (by omega)
        have hcq := coord_mk q (by omega) (by omega)
        have hcr := coord_mk r (by omega) (by omega)
        have hcs := coord_mk s (by omega) (by omega)
        have c1 := fun w => add_yes p q w hcp hcq
        rw [sat_in (p + q) (by omega) (by omega), ← hs] at c1
        have c2 := fun w => add_yes q p w hcq hcp
        rw [sat_in (q + p) (by omega) (by omega), show q + p = s by omega] at c2
        have c3 := fun w => sub_yes s q w hcs hcq
        rw [sat_in (s - q) (by omega) (by omega), show s - q = p by omega] at c3
        have c4 := fun w => muldiv_yes p r r w hcp hcr hcr (by omega)
        rw [m1] at c4
        have c5 := fun w => muldiv_yes p q r w hcp hcq hcr (by omega)
        rw [← hm] at c5
        have c6 := fun w => muldiv_yes q p r w hcq hcp hcr (by omega)
        rw [m2] at c6
        have C1 := Lib.hid c1
        have C2 := Lib.hid c2
        have C3 := Lib.hid c3
        have C4 := Lib.hid c4
        have C5 := Lib.hid c5
        have C6 := Lib.hid c6
        have hne : (s != p + q) = false := by rw [hs]; simp
        obtain ⟨hm0, hm9⟩ := hmr
        have M3 := Lib.hid m3
        clear c1 c2 c3 c4 c5 c6 hcp hcq hcr hcs hs hm m1 m2 m3
        go_wp2_with fail
        refine ((C1.out) _).mono ?_
        rintro e v1 ⟨rfl, hB⟩
        have hb1 : Below w.heap.size w v1 := hb0.trans (hB.mono hb0.size)
        clear hB
        go_wp2_with fail
        refine ((C2.out) _).mono ?_
        rintro e v2 ⟨rfl, hB⟩
        have hb2 : Below w.heap.size w v2 := hb1.trans (hB.mono hb1.size)
        clear hB
        go_wp2_with fail
        refine ((C3.out) _).mono ?_
        rintro e v3 ⟨rfl, hB⟩
        have hb3 : Below w.heap.size w v3 := hb2.trans (hB.mono hb2.size)
        clear hB
        go_wp2_with (go_at_call 9; refine (num_any _ _).mono ?_; rintro e w' ⟨rfl, rfl⟩)
        refine ((C4.out) _).mono ?_
        rintro e v4 ⟨rfl, hB⟩
        have hb4 : Below w.heap.size w v4 := hb3.trans (hB.mono hb3.size)
        clear hB
        go_wp2_with fail
        refine ((C5.out) _).mono ?_
        rintro e v5 ⟨rfl, hB⟩
        have hb5 : Below w.heap.size w v5 := hb4.trans (hB.mono hb4.size)
        clear hB
        go_wp2_with fail
        refine ((C6.out) _).mono ?_
        rintro e v6 ⟨rfl, hB⟩
        have hb6 : Below w.heap.size w v6 := hb5.trans (hB.mono hb5.size)
        clear hB
        clear C1 C2 C3 C4 C5 C6 hne
        by_cases g1 : -1099511627776 < m
        · by_cases g2 : m < 1099511627776
          · obtain ⟨n1, n2⟩ := (M3.out) g1 g2
            have n3 : -1152921504606846976 ≤ m * r := by omega
            have n4 : m * r ≤ 1152921504606846976 := by omega
            go_wp2_with (go_at_call 9; refine (num_any _ _).mono ?_; rintro e w' ⟨rfl, rfl⟩)
            go_roundw
            case rel => exact ⟨k + 1, by omega, by go_num, hb6⟩
            case measure => simp [intOf]; omega
          · go_wp2_with (go_at_call 9; refine (num_any _ _).mono ?_; rintro e w' ⟨rfl, rfl⟩)
            go_roundw
            case rel => exact ⟨k + 1, by omega, by go_num, hb6⟩
            case measure => simp [intOf]; omega
        · go_wp2_with (go_at_call 9; refine (num_any _ _).mono ?_; rintro e w' ⟨rfl, rfl⟩)
          go_roundw
          case rel => exact ⟨k + 1, by omega, by go_num, hb6⟩
          case measure => simp [intOf]; omega
      · go_wp2_with (go_at_call 19; refine (wakes_any _).mono ?_; rintro e w9 ⟨rfl, h9⟩)
        go_ret
        exact ⟨rfl, hb.trans (Below.mono (by assumption) hb.size)⟩
    · go_wp2_with (go_at_call 19; refine (wakes_any _).mono ?_; rintro e w9 ⟨rfl, h9⟩)
      go_ret
      exact ⟨rfl, hb.trans (Below.mono (by assumption) hb.size)⟩
end Go.Proofs.Ytladhdpmphmbpaa
