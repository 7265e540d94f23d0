/- The walk of FixedEnds. -/
import Derived.Test.YtladhdpmphmbpaaF
namespace Go.Proofs.Ytladhdpmphmbpaa
open Go.RowKit
set_option linter.unusedVariables false

theorem end0 (w : World) : Calls Try.prog 14 #[.int .i64 1099511627776, .int .i64 1] w fun e w' => e = .returned (.tuple #[.int .i64 1099511627776, .int .i64 0]) ∧ Below w.heap.size w w' := by
  have h := add_yes 1099511627776 1 w (by decide) (by decide)
  rw [show satI (1099511627776 + 1) = 1099511627776 by decide] at h
  exact h
theorem end1 (w : World) : Calls Try.prog 15 #[.int .i64 (-1099511627776), .int .i64 1] w fun e w' => e = .returned (.tuple #[.int .i64 (-1099511627776), .int .i64 0]) ∧ Below w.heap.size w w' := by
  have h := sub_yes (-1099511627776) 1 w (by decide) (by decide)
  rw [show satI ((-1099511627776) - 1) = (-1099511627776) by decide] at h
  exact h
theorem end2 (w : World) : Calls Try.prog 20 #[.int .i64 1099511627776, .int .i64 1099511627776, .int .i64 1] w fun e w' => e = .returned (.tuple #[.int .i64 1099511627776, .int .i64 0]) ∧ Below w.heap.size w w' := by
  have h := muldiv_yes 1099511627776 1099511627776 1 w (by decide) (by decide) (by decide) (by decide)
  rw [show satI (1099511627776 * 1099511627776 / 1) = 1099511627776 by decide] at h
  exact h
theorem end3 (w : World) : Calls Try.prog 20 #[.int .i64 1099511627776, .int .i64 (-1099511627776), .int .i64 1] w fun e w' => e = .returned (.tuple #[.int .i64 (-1099511627776), .int .i64 0]) ∧ Below w.heap.size w w' := by
  have h := muldiv_yes 1099511627776 (-1099511627776) 1 w (by decide) (by decide) (by decide) (by decide)
  rw [show satI (1099511627776 * (-1099511627776) / 1) = (-1099511627776) by decide] at h
  exact h
theorem end4 (w : World) : Calls Try.prog 20 #[.int .i64 (-1), .int .i64 1, .int .i64 1099511627776] w fun e w' => e = .returned (.tuple #[.int .i64 (-1), .int .i64 0]) ∧ Below w.heap.size w w' := by
  have h := muldiv_yes (-1) 1 1099511627776 w (by decide) (by decide) (by decide) (by decide)
  rw [show satI ((-1) * 1 / 1099511627776) = (-1) by decide] at h
  exact h
theorem end5 (w : World) : Calls Try.prog 20 #[.int .i64 1099511627776, .int .i64 1099511627776, .int .i64 1099511627776] w fun e w' => e = .returned (.tuple #[.int .i64 1099511627776, .int .i64 0]) ∧ Below w.heap.size w w' := by
  have h := muldiv_yes 1099511627776 1099511627776 1099511627776 w (by decide) (by decide) (by decide) (by decide)
  rw [show satI (1099511627776 * 1099511627776 / 1099511627776) = 1099511627776 by decide] at h
  exact h
theorem end6 (w : World) : Calls Try.prog 24 #[.int .i64 1099511627776, .int .i64 5, .int .i64 (-1)] w fun e w' => e = .returned (.tuple #[.int .i64 1099511627776, .int .i64 0]) ∧ Below w.heap.size w w' := by
  have h := clamp_yes 1099511627776 5 (-1) w (by decide)
  rw [show clampI 1099511627776 5 (-1) = 1099511627776 by decide] at h
  exact h
theorem end7 (w : World) : Calls Try.prog 24 #[.int .i64 7, .int .i64 9, .int .i64 3] w fun e w' => e = .returned (.tuple #[.int .i64 9, .int .i64 0]) ∧ Below w.heap.size w w' := by
  have h := clamp_yes 7 9 3 w (by decide)
  rw [show clampI 7 9 3 = 9 by decide] at h
  exact h
theorem end8 (w : World) : Calls Try.prog 14 #[.int .i64 1099511627777, .int .i64 0] w fun e w' => e = .returned (.tuple #[.int .i64 0, .int .i64 1]) ∧ Below w.heap.size w w' := by
  exact add_no 1099511627777 0 w (by decide)
theorem end9 (w : World) : Calls Try.prog 20 #[.int .i64 1, .int .i64 1, .int .i64 0] w fun e w' => e = .returned (.tuple #[.int .i64 0, .int .i64 1]) ∧ Below w.heap.size w w' := by
  exact muldiv_no 1 1 0 w (by decide)
theorem end10 (w : World) : Calls Try.prog 24 #[.int .i64 1, .int .i64 2, .int .i64 (-1099511627778)] w fun e w' => e = .returned (.tuple #[.int .i64 0, .int .i64 1]) ∧ Below w.heap.size w w' := by
  exact clamp_no 1 2 (-1099511627778) w (by decide)

set_option maxRecDepth 100000 in
set_option maxHeartbeats 4000000 in
theorem ends_walk (a : Option Addr) (zs : List Int) (cap : Nat) (w : World) (hrow : RowIs w a zs) :
    Calls Try.prog 7 #[.slice a zs.length cap] w fun e w' => e = .returned (.bool true) ∧ Below w.heap.size w w' := by
  have hn : decide ((0 : Int) ≤ (zs.length : Int)) = true := by simp
  have hb0 := Below.refl w.heap.size w
  clear hrow
  go_enter Try.func7, Try.ntmps7
  go_wp2_with fail
  refine (end0 _).mono ?_
  rintro e v0 ⟨rfl, hB⟩
  have hb1 : Below w.heap.size w v0 := hb0.trans (hB.mono hb0.size)
  clear hB hb0
  go_wp2_with fail
  refine (end1 _).mono ?_
  rintro e v1 ⟨rfl, hB⟩
  have hb2 : Below w.heap.size w v1 := hb1.trans (hB.mono hb1.size)
  clear hB hb1
  go_wp2_with fail
  refine (end2 _).mono ?_
  rintro e v2 ⟨rfl, hB⟩
  have hb3 : Below w.heap.size w v2 := hb2.trans (hB.mono hb2.size)
  clear hB hb2
  go_wp2_with fail
  refine (end3 _).mono ?_
  rintro e v3 ⟨rfl, hB⟩
  have hb4 : Below w.heap.size w v3 := hb3.trans (hB.mono hb3.size)
  clear hB hb3
  go_wp2_with fail
  refine (end4 _).mono ?_
  rintro e v4 ⟨rfl, hB⟩
  have hb5 : Below w.heap.size w v4 := hb4.trans (hB.mono hb4.size)
  clear hB hb4
  go_wp2_with fail
  refine (end5 _).mono ?_
  rintro e v5 ⟨rfl, hB⟩
  have hb6 : Below w.heap.size w v5 := hb5.trans (hB.mono hb5.size)
  clear hB hb5
  go_wp2_with fail
  refine (end6 _).mono ?_
  rintro e v6 ⟨rfl, hB⟩
  have hb7 : Below w.heap.size w v6 := hb6.trans (hB.mono hb6.size)
  clear hB hb6
  go_wp2_with fail
  refine (end7 _).mono ?_
  rintro e v7 ⟨rfl, hB⟩
  have hb8 : Below w.heap.size w v7 := hb7.trans (hB.mono hb7.size)
  clear hB hb7
  go_wp2_with fail
  refine (end8 _).mono ?_
  rintro e v8 ⟨rfl, hB⟩
  have hb9 : Below w.heap.size w v8 := hb8.trans (hB.mono hb8.size)
  clear hB hb8
  go_wp2_with fail
  refine (end9 _).mono ?_
  rintro e v9 ⟨rfl, hB⟩
  have hb10 : Below w.heap.size w v9 := hb9.trans (hB.mono hb9.size)
  clear hB hb9
  go_wp2_with fail
  refine (end10 _).mono ?_
  rintro e v10 ⟨rfl, hB⟩
  have hb11 : Below w.heap.size w v10 := hb10.trans (hB.mono hb10.size)
  clear hB hb10
  go_wp2_with (go_at_call 9; refine (num_any _ _).mono ?_; rintro e w' ⟨rfl, rfl⟩)
  have hb12 : Below w.heap.size w (v10.alloc (.cells #[.int .i64 0, .int .i64 0, .int .i64 0, .int .i64 0, .int .i64 0, .int .i64 0, .int .i64 0, .int .i64 0] 3)) := hb11.alloc hb11.size _
  have hcells : ∀ i, i < 8 → (v10.alloc (.cells #[.int .i64 0, .int .i64 0, .int .i64 0, .int .i64 0, .int .i64 0, .int .i64 0, .int .i64 0, .int .i64 0] 3)).cell? ⟨v10.heap.size, i, none⟩ = some (.int .i64 0) := by
    intro i hi
    match i, hi with
    | 0, _ => simp [go_sem]
    | 1, _ => simp [go_sem]
    | 2, _ => simp [go_sem]
    | 3, _ => simp [go_sem]
    | 4, _ => simp [go_sem]
    | 5, _ => simp [go_sem]
    | 6, _ => simp [go_sem]
    | 7, _ => simp [go_sem]
  generalize v10.alloc (.cells #[.int .i64 0, .int .i64 0, .int .i64 0, .int .i64 0, .int .i64 0, .int .i64 0, .int .i64 0, .int .i64 0] 3) = v at *
  generalize v10.heap.size = g at *
  have HC := Lib.hid hcells
  clear hcells
  go_loop [26] (fun i => ∃ k : Nat, k ≤ 8 ∧ i = .int .i64 k) (fun i => 8 - (intOf i).toNat)
  case atStart => exact ⟨0, Nat.zero_le _, rfl⟩
  case round =>
    obtain ⟨k, hk, rfl⟩ := hrel
    by_cases hlt : k < 8
    · have hc := HC.out k hlt
      go_wp2_with fail
      go_round
      case rel => exact ⟨k + 1, by omega, by go_num⟩
      case measure => simp [intOf]; omega
    · go_wp2_with (first | (go_at_call 9; refine (num_any _ _).mono ?_; rintro e w' ⟨rfl, rfl⟩) | (go_at_call 19; refine (wakes_any _).mono ?_; rintro e w9 ⟨rfl, h9⟩))
      go_ret
      exact ⟨rfl, hb12.trans (Below.mono (by assumption) hb12.size)⟩
end Go.Proofs.Ytladhdpmphmbpaa
