/- Four, three, three; whether a total may be divided, by the page. -/
import Derived.Test.YtekiknngiefkbaaX1
namespace Go.Proofs.Ytekiknngiefkbaa
open Go.Shelf Go.RowKit Go.Lib Go.Sort Go.Proofs

theorem split3 (ord : List Nat) (h : OrdOk (rsL 10 [1, 1, 1]) ord) : splitL 10 [1, 1, 1] ord = [4, 3, 3] := by
  have hr : rsL 10 [1, 1, 1] = [1, 1, 1] := by decide
  rw [hr] at h
  have hl := h.length
  match ord, hl with
  | [a, b, c], _ =>
    have h1 := h.up 0 1 (by decide) (by simp)
    have h2 := h.up 1 2 (by decide) (by simp)
    have l0 := h.lt (t := 0) (by decide)
    have l1 := h.lt (t := 1) (by decide)
    have l2 := h.lt (t := 2) (by decide)
    simp only [List.getD_cons_zero, List.getD_cons_succ, List.length_cons, List.length_nil] at h1 h2 l0 l1 l2
    have ga : ∀ x : Nat, x < 3 → ([1, 1, 1] : List Int).getD x 0 = 1 := by
      intro x hx
      match x, hx with
      | 0, _ => rfl
      | 1, _ => rfl
      | 2, _ => rfl
    unfold keyR at h1 h2
    rw [ga a (by omega), ga b (by omega)] at h1
    rw [ga b (by omega), ga c (by omega)] at h2
    obtain rfl : a = 0 := by omega
    obtain rfl : b = 1 := by omega
    obtain rfl : c = 2 := by omega
    decide

theorem may3 : May 10 [1, 1, 1] := by
  rw [may_iff]
  exact ⟨by decide, by decide⟩

theorem row3 (w : World) (a b c : Int) : RowIs (w.alloc (.cells #[.int .i64 a, .int .i64 b, .int .i64 c] 3)) (some ⟨w.heap.size, 0, none⟩) [a, b, c] := by
  intro i hi
  refine ⟨w.heap.size, 0, rfl, ?_⟩
  match i, hi with
  | 0, _ => simp
  | 1, _ => simp
  | 2, _ => simp

def WakePost (w : World) (e : Ending) (w' : World) : Prop := e = .returned (.bool true) ∧ Below w.heap.size w w'

set_option maxHeartbeats 1000000 in
theorem wakes_any (w : World) : Calls Try.prog 13 #[] w (WakePost w) := by
  have mixed : Try.prog.follows .mixedOrders = true := by kernel_rfl
  have HS := Lib.hid (split_yes (some ⟨w.heap.size, 0, none⟩) [1, 1, 1] 3 10 (w.alloc (.cells #[.int .i64 1, .int .i64 1, .int .i64 1] 3)) (row3 w 1 1 1) may3)
  have HN := Lib.hid (fun W => num_any 0 W)
  go_enter Try.func13, Try.ntmps13
  go_wp2_with fail
  refine (HS.out).mono ?_
  rintro e w1 ⟨v, ord, rfl, hord, hown, hbl⟩
  rw [split3 ord hord] at hown
  obtain ⟨a, cap, rfl, hr, hx⟩ := hown.form
  have hsz := hbl.size
  simp only [World.size_alloc] at hsz
  have HE := Lib.hid (eq_yes a (some ⟨w1.heap.size, 0, none⟩) [4, 3, 3] cap 3 (w1.alloc (.cells #[.int .i64 4, .int .i64 3, .int .i64 3] 3)) (hr.below ((Below.refl w1.heap.size w1).alloc (Nat.le_refl _) _) (Nat.le_refl _)) (row3 w1 4 3 3) (by decide))
  have HB : Hid (∀ n, Below w.heap.size w ((w1.alloc (.cells #[.int .i64 4, .int .i64 3, .int .i64 3] 3)).drewN n)) := fun n => by
    have h1 : Below w.heap.size w w1 := ((Below.refl _ _).alloc (Nat.le_refl _) _).trans (hbl.mono (by simp))
    have h2 := h1.alloc (by omega) (.cells #[.int .i64 4, .int .i64 3, .int .i64 3] 3)
    exact ⟨h2.os, h2.tape, h2.output, h2.size, h2.block⟩
  clear hord hown hbl hr hx HS
  go_wp2_with fail
  refine (HN.out _).mono ?_
  rintro e w' ⟨rfl, rfl⟩
  go_wp2_with fail
  refine (HE.out).mono ?_
  rintro e w2 ⟨rfl, n, rfl⟩
  have HZ := Lib.hid (HB.out n)
  clear HB HE
  go_wp2
  go_ret
  exact ⟨rfl, HZ.out⟩

set_option maxHeartbeats 400000 in
theorem refnum_any (n m : Int) (w : World) : Calls Try.prog 20 #[.int .i64 n, .int .i64 m] w fun e w' => e = .returned (.bool (decide (0 ≤ n ∧ n ≤ m))) ∧ w = w' := by
  by_cases h1 : 0 ≤ n
  · by_cases h2 : n ≤ m
    · rw [decide_eq_true ⟨h1, h2⟩]
      go_enter Try.func20, Try.ntmps20
      go_wp2
      go_ret
      exact ⟨rfl, rfl⟩
    · rw [decide_eq_false (fun h => h2 h.2)]
      go_enter Try.func20, Try.ntmps20
      go_wp2
      go_ret
      exact ⟨rfl, rfl⟩
  · rw [decide_eq_false (fun h => h1 h.1)]
    go_enter Try.func20, Try.ntmps20
    go_wp2
    go_ret
    exact ⟨rfl, rfl⟩

set_option maxHeartbeats 400000 in
theorem size_any (n : Int) (w : World) : Calls Try.prog 19 #[.int .i64 n] w fun e w' => e = .returned (.bool (decide (0 ≤ n ∧ n ≤ 1099511627776))) ∧ w = w' := by
  have H := Lib.hid (refnum_any n 1099511627776 w)
  generalize decide (0 ≤ n ∧ n ≤ 1099511627776) = b at H ⊢
  go_enter Try.func19, Try.ntmps19
  go_wp2_with fail
  refine (H.out).mono ?_
  rintro e w' ⟨rfl, rfl⟩
  go_wp2
  go_ret
  exact ⟨rfl, rfl⟩

def mayB (total : Int) (ws : List Int) : Bool := decide (0 ≤ total ∧ total ≤ 1099511627776) && okW ws
theorem mayB_iff (total : Int) (ws : List Int) : mayB total ws = true ↔ May total ws := by
  unfold mayB
  rw [may_iff, Bool.and_eq_true, decide_eq_true_eq]

set_option maxHeartbeats 1000000 in
theorem maySplit_any (a : Option Addr) (ws : List Int) (cap : Nat) (total : Int) (w : World) (hrow : RowIs w a ws) (hl : ws.length ≤ 65536) :
    Calls Try.prog 8 #[.int .i64 total, .slice a ws.length cap] w fun e w' => e = .returned (.bool (mayB total ws)) ∧ w = w' := by
  have mixed : Try.prog.follows .mixedOrders = true := by kernel_rfl
  have HR := Lib.hid hrow
  clear hrow
  have HZ := Lib.hid (size_any total w)
  by_cases ht : 0 ≤ total ∧ total ≤ 1099511627776
  · rw [decide_eq_true ht] at HZ
    by_cases h0 : ws.length < 1
    · have hn : mayB total ws = false := by rw [← Bool.not_eq_true, mayB_iff]; intro h; have := h.n0; omega
      have HNO := Lib.hid hn
      have t1 : decide ((ws.length : Int) < 1) = true := decide_eq_true (by omega)
      have t2 : (ws.length : Int) < 1 := by omega
      have t3 : ws.length < 1 := by omega
      clear hn ht
      go_enter Try.func8, Try.ntmps8
      go_wp2_with fail
      refine (HZ.out).mono ?_
      rintro e w' ⟨rfl, rfl⟩
      go_wp2
      go_ret
      exact ⟨ret_bool HNO.out.symm, rfl⟩
    · have t1 : decide ((ws.length : Int) < 1) = false := decide_eq_false (by omega)
      have t2 : ¬ (ws.length : Int) < 1 := by omega
      have t0 : 0 < ws.length := by omega
      by_cases h256 : 256 < ws.length
      · have hn : mayB total ws = false := by rw [← Bool.not_eq_true, mayB_iff]; intro h; have := h.n1; omega
        have HNO := Lib.hid hn
        have t3 : decide ((256 : Int) < (ws.length : Int)) = true := decide_eq_true (by omega)
        have t4 : (256 : Int) < (ws.length : Int) := by omega
        clear hn ht
        go_enter Try.func8, Try.ntmps8
        go_wp2_with fail
        refine (HZ.out).mono ?_
        rintro e w' ⟨rfl, rfl⟩
        go_wp2
        go_ret
        exact ⟨ret_bool HNO.out.symm, rfl⟩
      · have t3 : decide ((256 : Int) < (ws.length : Int)) = false := decide_eq_false (by omega)
        have t4 : ¬ (256 : Int) < (ws.length : Int) := by omega
        have HT := Lib.hid ht
        clear ht
        go_enter Try.func8, Try.ntmps8
        go_wp2_with fail
        refine (HZ.out).mono ?_
        rintro e w' ⟨rfl, rfl⟩
        go_wp2
        go_loop [5, 6] (fun s i => ∃ k : Nat, k ≤ ws.length ∧ i = .int .i64 k ∧ s = .int .i64 (ws.take k).sum ∧ Hid (∀ j, j < k → 0 ≤ ws.getD j 0 ∧ ws.getD j 0 ≤ 1048576)) (fun _ i => ws.length - (intOf i).toNat)
        case atStart => exact ⟨0, Nat.zero_le _, rfl, rfl, fun j hj => by omega⟩
        case round =>
          obtain ⟨k, hk, rfl, rfl, HO⟩ := hrel
          have hbd := sum_take_bd (ws.take k) 1048576 (fun i hi => by
            rw [List.length_take] at hi
            have := HO.out i (by omega)
            rw [List.getD_eq_getElem?_getD, List.getElem?_take, if_pos (by omega), ← List.getD_eq_getElem?_getD]
            exact this) k (by rw [List.length_take]; omega)
          rw [List.take_take, Nat.min_self] at hbd
          obtain ⟨hs0, hs1⟩ := hbd
          by_cases hlt : k < ws.length
          · obtain ⟨b, off, rfl, hc⟩ := HR.out k hlt
            have hltz : (k : Int) < (ws.length : Int) := by omega
            have HZ1 := Lib.hid (refnum_any (ws.getD k 0) 1048576 w)
            by_cases hz : 0 ≤ ws.getD k 0 ∧ ws.getD k 0 ≤ 1048576
            · have HO2 : Hid (∀ j, j < k + 1 → 0 ≤ ws.getD j 0 ∧ ws.getD j 0 ≤ 1048576) := fun j hj => by
                by_cases e : j = k
                · subst e; exact hz
                · exact HO.out j (by omega)
              have HST := Lib.hid (sum_take ws k hlt)
              rw [decide_eq_true hz] at HZ1
              obtain ⟨hz0, hz1⟩ := hz
              clear HO
              generalize ws.getD k 0 = z at *
              generalize (ws.take k).sum = s at *
              go_wp2_with fail
              refine (HZ1.out).mono ?_
              rintro e w' ⟨rfl, rfl⟩
              go_wp2
              go_round
              case rel => exact ⟨k + 1, by omega, by go_num, by rw [HST.out], HO2⟩
              case measure => simp [intOf]; omega
            · have hn : mayB total ws = false := by rw [← Bool.not_eq_true, mayB_iff]; intro h; exact hz (h.w0 k hlt)
              have HNO := Lib.hid hn
              rw [decide_eq_false hz] at HZ1
              clear hn hz HO
              generalize ws.getD k 0 = z at *
              go_wp2_with fail
              refine (HZ1.out).mono ?_
              rintro e w' ⟨rfl, rfl⟩
              go_wp2
              go_ret
              exact ⟨ret_bool HNO.out.symm, rfl⟩
          · have hltz : ¬ (k : Int) < (ws.length : Int) := by omega
            have HK : Hid (mayB total ws = decide (0 < (ws.take k).sum)) := by
              rw [List.take_of_length_le (by omega)]
              rw [Bool.eq_iff_iff, mayB_iff, decide_eq_true_eq]
              exact ⟨fun h => h.s0, fun h => ⟨HT.out.1, HT.out.2, t0, by omega, fun i hi => HO.out i (by omega), h⟩⟩
            clear HO
            generalize (ws.take k).sum = s at *
            go_wp2
            go_ret
            exact ⟨ret_bool HK.out.symm, rfl⟩
  · rw [decide_eq_false ht] at HZ
    have hn : mayB total ws = false := by rw [← Bool.not_eq_true, mayB_iff]; intro h; exact ht ⟨h.t0, h.t1⟩
    have HNO := Lib.hid hn
    clear hn ht
    go_enter Try.func8, Try.ntmps8
    go_wp2_with fail
    refine (HZ.out).mono ?_
    rintro e w' ⟨rfl, rfl⟩
    go_wp2
    go_ret
    exact ⟨ret_bool HNO.out.symm, rfl⟩
end Go.Proofs.Ytekiknngiefkbaa
