/- Sums of numbers; whether weights may be. -/
import Derived.Test.YtekiknngiefkbaaV
namespace Go.Proofs.Ytekiknngiefkbaa
open Go.Shelf Go.RowKit Go.Lib Go.Sort Go.Proofs

theorem take_getD (xs : List Int) (k : Nat) (h : k < xs.length) : xs.take (k + 1) = xs.take k ++ [xs.getD k 0] := by
  rw [List.take_succ_eq_append_getElem h, List.getD_eq_getElem?_getD, List.getElem?_eq_getElem h]; rfl
theorem sum_take (xs : List Int) (k : Nat) (h : k < xs.length) : (xs.take (k + 1)).sum = (xs.take k).sum + xs.getD k 0 := by
  rw [take_getD xs k h, List.sum_append]; simp
theorem sum_take_bd (xs : List Int) (B : Int) (hb : ∀ i, i < xs.length → 0 ≤ xs.getD i 0 ∧ xs.getD i 0 ≤ B) (k : Nat) (hk : k ≤ xs.length) : 0 ≤ (xs.take k).sum ∧ (xs.take k).sum ≤ (k : Int) * B := by
  induction k with
  | zero => simp
  | succ k ih =>
    have h1 := ih (by omega)
    have h2 := hb k (by omega)
    rw [sum_take xs k (by omega)]
    have e : ((k + 1 : Nat) : Int) * B = (k : Int) * B + B := by rw [Int.natCast_add, Int.add_mul]; simp
    rw [e]
    omega
theorem sum_all (xs : List Int) : (xs.take xs.length).sum = xs.sum := by rw [List.take_length]

set_option maxHeartbeats 400000 in
theorem sum_any (a : Option Addr) (xs : List Int) (cap : Nat) (w : World) (hrow : RowIs w a xs) (hb : ∀ i, i < xs.length → 0 ≤ xs.getD i 0 ∧ xs.getD i 0 ≤ 1099511627777) (hl : xs.length ≤ 65536) :
    Calls Try.prog 18 #[.slice a xs.length cap] w fun e w' => e = .returned (.int .i64 xs.sum) ∧ w = w' := by
  have HR := Lib.hid hrow
  have HB := Lib.hid hb
  clear hrow hb
  go_enter Try.func18, Try.ntmps18
  go_wp2
  go_loop [3, 8] (fun v i => ∃ k : Nat, k ≤ xs.length ∧ i = .int .i64 k ∧ v = .int .i64 (xs.take k).sum) (fun _ i => xs.length - (intOf i).toNat)
  case atStart => exact ⟨0, Nat.zero_le _, rfl, rfl⟩
  case round =>
    obtain ⟨k, hk, rfl, rfl⟩ := hrel
    have hbd := sum_take_bd xs 1099511627777 HB.out k hk
    obtain ⟨hs0, hs1⟩ := hbd
    by_cases hlt : k < xs.length
    · obtain ⟨b, off, rfl, hc⟩ := HR.out k hlt
      have hst := sum_take xs k hlt
      have HST := Lib.hid hst
      obtain ⟨hz0, hz1⟩ := HB.out k hlt
      clear hst
      generalize xs.getD k 0 = z at *
      generalize (xs.take k).sum = s at *
      go_wp2
      go_round
      case rel => exact ⟨k + 1, by omega, by go_num, by rw [HST.out]⟩
      case measure => simp [intOf]; omega
    · have he : (xs.take k).sum = xs.sum := by rw [List.take_of_length_le (by omega)]
      have HE := Lib.hid he
      clear he hs0 hs1
      go_wp2
      go_ret
      exact ⟨ret_int HE.out, rfl⟩

def okOne (z : Int) : Bool := decide (0 ≤ z ∧ z ≤ 1048576)
/-- weights that may be -/
def okW (ws : List Int) : Bool := decide (0 < ws.length ∧ ws.length ≤ 256) && (ws.all okOne && decide (0 < ws.sum))
theorem okW_iff (ws : List Int) : okW ws = true ↔ (0 < ws.length ∧ ws.length ≤ 256) ∧ (∀ i, i < ws.length → 0 ≤ ws.getD i 0 ∧ ws.getD i 0 ≤ 1048576) ∧ 0 < ws.sum := by
  unfold okW
  simp only [Bool.and_eq_true, decide_eq_true_eq, List.all_eq_true, okOne]
  constructor
  · rintro ⟨h1, h2, h3⟩
    refine ⟨h1, fun i hi => ?_, h3⟩
    rw [List.getD_eq_getElem?_getD, List.getElem?_eq_getElem hi]
    exact h2 _ (List.getElem_mem hi)
  · rintro ⟨h1, h2, h3⟩
    refine ⟨h1, fun z hz => ?_, h3⟩
    obtain ⟨i, hi, rfl⟩ := List.getElem_of_mem hz
    have := h2 i hi
    rw [List.getD_eq_getElem?_getD, List.getElem?_eq_getElem hi] at this
    exact this

set_option maxHeartbeats 1000000 in
theorem areWeights_any (a : Option Addr) (ws : List Int) (cap : Nat) (w : World) (hrow : RowIs w a ws) (hl : ws.length ≤ 65536) :
    Calls Try.prog 15 #[.slice a ws.length cap] w fun e w' => e = .returned (.bool (okW ws)) ∧ w = w' := by
  have mixed : Try.prog.follows .mixedOrders = true := by kernel_rfl
  have HR := Lib.hid hrow
  clear hrow
  by_cases h0 : ws.length = 0
  · have hn : okW ws = false := by rw [← Bool.not_eq_true, okW_iff]; omega
    have HNO := Lib.hid hn
    have t1 : ((ws.length : Int) == 0) = true := beq_iff_eq.2 (by omega)
    have t2 : (ws.length == 0) = true := beq_iff_eq.2 (by omega)
    clear hn
    go_enter Try.func15, Try.ntmps15
    go_wp2
    go_ret
    exact ⟨ret_bool HNO.out.symm, rfl⟩
  · have t1 : ((ws.length : Int) == 0) = false := beq_eq_false_iff_ne.2 (by omega)
    have t2 : (ws.length == 0) = false := beq_eq_false_iff_ne.2 (by omega)
    have t0 : 0 < ws.length := by omega
    by_cases h256 : 256 < ws.length
    · have hn : okW ws = false := by rw [← Bool.not_eq_true, okW_iff]; omega
      have HNO := Lib.hid hn
      have t3 : decide ((256 : Int) < (ws.length : Int)) = true := decide_eq_true (by omega)
      have t4 : (256 : Int) < (ws.length : Int) := by omega
      clear hn
      go_enter Try.func15, Try.ntmps15
      go_wp2
      go_ret
      exact ⟨ret_bool HNO.out.symm, rfl⟩
    · have t3 : decide ((256 : Int) < (ws.length : Int)) = false := decide_eq_false (by omega)
      have t4 : ¬ (256 : Int) < (ws.length : Int) := by omega
      go_enter Try.func15, Try.ntmps15
      go_wp2
      go_loop [15] (fun i => ∃ k : Nat, k ≤ ws.length ∧ i = .int .i64 k ∧ Hid (∀ j, j < k → 0 ≤ ws.getD j 0 ∧ ws.getD j 0 ≤ 1048576)) (fun i => ws.length - (intOf i).toNat)
      case atStart => exact ⟨0, Nat.zero_le _, rfl, fun j hj => by omega⟩
      case round =>
        obtain ⟨k, hk, rfl, HO⟩ := hrel
        by_cases hlt : k < ws.length
        · obtain ⟨b, off, rfl, hc⟩ := HR.out k hlt
          have hltz : (k : Int) < (ws.length : Int) := by omega
          by_cases hz0 : ws.getD k 0 < 0
          · have hn : okW ws = false := by rw [← Bool.not_eq_true, okW_iff]; intro h; have := h.2.1 k hlt; omega
            have HNO := Lib.hid hn
            clear hn
            generalize ws.getD k 0 = z at *
            have t5 : decide (z < 0) = true := decide_eq_true hz0
            go_wp2
            go_ret
            exact ⟨ret_bool HNO.out.symm, rfl⟩
          · by_cases hz1 : 1048576 < ws.getD k 0
            · have hn : okW ws = false := by rw [← Bool.not_eq_true, okW_iff]; intro h; have := h.2.1 k hlt; omega
              have HNO := Lib.hid hn
              clear hn
              generalize ws.getD k 0 = z at *
              have t5 : decide (z < 0) = false := decide_eq_false hz0
              have t6 : decide (1048576 < z) = true := decide_eq_true hz1
              go_wp2
              go_ret
              exact ⟨ret_bool HNO.out.symm, rfl⟩
            · have HO2 : Hid (∀ j, j < k + 1 → 0 ≤ ws.getD j 0 ∧ ws.getD j 0 ≤ 1048576) := fun j hj => by
                by_cases e : j = k
                · subst e; omega
                · exact HO.out j (by omega)
              clear HO
              generalize ws.getD k 0 = z at *
              have t5 : decide (z < 0) = false := decide_eq_false hz0
              have t6 : decide (1048576 < z) = false := decide_eq_false hz1
              go_wp2
              go_round
              case rel => exact ⟨k + 1, by omega, by go_num, HO2⟩
              case measure => simp [intOf]; omega
        · have hltz : ¬ (k : Int) < (ws.length : Int) := by omega
          have HA : Hid (∀ j, j < ws.length → 0 ≤ ws.getD j 0 ∧ ws.getD j 0 ≤ 1048576) := fun j hj => HO.out j (by omega)
          have HS := Lib.hid (sum_any a ws cap w HR.out (fun i hi => by have := HA.out i hi; omega) hl)
          have HK : Hid (okW ws = decide (0 < ws.sum)) := by
            rw [Bool.eq_iff_iff]
            rw [okW_iff, decide_eq_true_eq]
            exact ⟨fun h => h.2.2, fun h => ⟨⟨t0, by omega⟩, HA.out, h⟩⟩
          clear HO
          go_wp2_with fail
          refine (HS.out).mono ?_
          rintro e w' ⟨rfl, rfl⟩
          go_wp2
          go_ret
          exact ⟨ret_bool HK.out.symm, rfl⟩
end Go.Proofs.Ytekiknngiefkbaa
