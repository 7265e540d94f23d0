/- Each share rounded down, and the rest of its division. -/
import Derived.Test.YtekiknngiefkbaaW1
namespace Go.Proofs.Ytekiknngiefkbaa
open Go.Shelf Go.RowKit Go.Lib Go.Sort Go.Proofs

def qsL (total : Int) (ws : List Int) : List Int := ws.map fun x => total * x / ws.sum
def rsL (total : Int) (ws : List Int) : List Int := ws.map fun x => total * x % ws.sum
theorem qsL_len (total : Int) (ws : List Int) : (qsL total ws).length = ws.length := by simp [qsL]
theorem rsL_len (total : Int) (ws : List Int) : (rsL total ws).length = ws.length := by simp [rsL]
theorem map_getD (f : Int → Int) (ws : List Int) (i : Nat) (h : i < ws.length) : (ws.map f).getD i 0 = f (ws.getD i 0) := by
  rw [List.getD_eq_getElem?_getD, List.getD_eq_getElem?_getD, List.getElem?_map, List.getElem?_eq_getElem h]; rfl
theorem take_map_succ (f : Int → Int) (ws : List Int) (k : Nat) (h : k < ws.length) : (ws.map f).take (k + 1) = (ws.map f).take k ++ [f (ws.getD k 0)] := by
  rw [take_getD _ k (by simpa using h), map_getD f ws k h]

/-- total and weights that may be -/
structure May (total : Int) (ws : List Int) : Prop where
  t0 : 0 ≤ total
  t1 : total ≤ 1099511627776
  n0 : 0 < ws.length
  n1 : ws.length ≤ 256
  w0 : ∀ i, i < ws.length → 0 ≤ ws.getD i 0 ∧ ws.getD i 0 ≤ 1048576
  s0 : 0 < ws.sum

theorem May.sum_le {total : Int} {ws : List Int} (h : May total ws) : ws.sum ≤ 268435456 := by
  have h1 := (sum_take_bd ws 1048576 h.w0 ws.length (Nat.le_refl _)).2
  rw [sum_all] at h1
  have h2 := h.n1
  omega
theorem le_sum (ws : List Int) (B : Int) (hb : ∀ i, i < ws.length → 0 ≤ ws.getD i 0 ∧ ws.getD i 0 ≤ B) (i : Nat) (hi : i < ws.length) : ws.getD i 0 ≤ ws.sum := by
  have key : ∀ k, i < k → k ≤ ws.length → ws.getD i 0 ≤ (ws.take k).sum := by
    intro k
    induction k with
    | zero => intro h; omega
    | succ k ih =>
      intro h1 h2
      rw [sum_take ws k (by omega)]
      have hk := hb k (by omega)
      by_cases e : i = k
      · subst e
        have := (sum_take_bd ws B hb i (by omega)).1
        omega
      · have := ih (by omega) (by omega)
        omega
  have := key ws.length hi (Nat.le_refl _)
  rw [sum_all] at this
  exact this

theorem part_bd {total : Int} {ws : List Int} (h : May total ws) (i : Nat) (hi : i < ws.length) :
    0 ≤ total * ws.getD i 0 ∧ total * ws.getD i 0 ≤ 1152921504606846976 ∧ 0 ≤ total * ws.getD i 0 / ws.sum ∧ total * ws.getD i 0 / ws.sum ≤ total ∧ 0 ≤ total * ws.getD i 0 / ws.sum * ws.sum ∧ total * ws.getD i 0 / ws.sum * ws.sum ≤ total * ws.getD i 0 ∧ total * ws.getD i 0 - total * ws.getD i 0 / ws.sum * ws.sum = total * ws.getD i 0 % ws.sum := by
  have hw := h.w0 i hi
  have hs := le_sum ws 1048576 h.w0 i hi
  have h1 : 0 ≤ total * ws.getD i 0 := Int.mul_nonneg h.t0 hw.1
  have h2 : total * ws.getD i 0 ≤ 1099511627776 * 1048576 := Int.mul_le_mul h.t1 hw.2 hw.1 (by omega)
  have h3 : total * ws.getD i 0 ≤ total * ws.sum := Int.mul_le_mul_of_nonneg_left hs h.t0
  have hd := Int.mul_ediv_add_emod (total * ws.getD i 0) ws.sum
  have hm := Int.emod_nonneg (total * ws.getD i 0) (show ws.sum ≠ 0 by have := h.s0; omega)
  have hq0 := Int.ediv_nonneg h1 (Int.le_of_lt h.s0)
  have hq1 : total * ws.getD i 0 / ws.sum ≤ total := by
    have := Int.ediv_le_ediv h.s0 h3
    rwa [Int.mul_ediv_cancel _ (by have := h.s0; omega)] at this
  have hq2 : 0 ≤ total * ws.getD i 0 / ws.sum * ws.sum := Int.mul_nonneg hq0 (Int.le_of_lt h.s0)
  rw [Int.mul_comm ws.sum] at hd
  refine ⟨h1, by omega, hq0, hq1, hq2, by omega, by omega⟩

def RoundPost (w : World) (total : Int) (ws : List Int) (e : Ending) (w' : World) : Prop :=
  ∃ v1 v2, e = .returned (.tuple #[v1, v2, .int .i64 0]) ∧ OwnI w' w.heap.size v1 (qsL total ws) ∧ OwnI w' w.heap.size v2 (rsL total ws) ∧ Dj v1 v2 ∧ Below w.heap.size w w'

def RdI (w : World) (total : Int) (ws : List Int) (k : Nat) (v1 v2 : Value) (wr : World) : Prop :=
  OwnI wr w.heap.size v1 ((qsL total ws).take k) ∧ OwnI wr w.heap.size v2 ((rsL total ws).take k) ∧ Dj v1 v2 ∧ Below w.heap.size w wr

set_option maxHeartbeats 1000000 in
theorem roundDown_any (a : Option Addr) (ws : List Int) (cap : Nat) (total : Int) (w : World) (hrow : RowIs w a ws) (hm : May total ws) :
    Calls Try.prog 16 #[.int .i64 total, .slice a ws.length cap] w (RoundPost w total ws) := by
  have mixed : Try.prog.follows .mixedOrders = true := by kernel_rfl
  have HR := Lib.hid hrow
  have HM := Lib.hid hm
  have hn0 := hm.n0
  have hn1 := hm.n1
  have hs0 := hm.s0
  have hs1 := hm.sum_le
  have HS := Lib.hid (sum_any a ws cap w hrow (fun i hi => by have := hm.w0 i hi; omega) (by omega))
  have HD := Lib.hid (show ∀ (z : Int) (W : World), 0 ≤ z → z ≤ 1048576 → 0 ≤ total * z / ws.sum → total * z / ws.sum ≤ total → Calls Try.prog 21 #[.int .i64 total, .int .i64 z, .int .i64 ws.sum] W fun e w' => e = .returned (.tuple #[.int .i64 (total * z / ws.sum), .int .i64 0]) ∧ Below W.heap.size W w' from by
    intro z W h1 h2 h3 h4
    have := muldiv_yes total z ws.sum W (by have := hm.t0; have := hm.t1; simp [coordB]; omega) (by simp [coordB]; omega) (by simp [coordB]; omega) hs0
    rw [show satI (total * z / ws.sum) = total * z / ws.sum from by have := hm.t1; unfold satI; rw [if_neg (by omega), if_neg (by omega)]] at this
    exact this)
  clear hrow hm
  go_enter Try.func16, Try.ntmps16
  go_wp2_with fail
  refine (HS.out).mono ?_
  rintro e w' ⟨rfl, rfl⟩
  go_wp2
  go_loopg [7, 8, 18] ws.length (fun g1 v1 v2 i wr => ∃ k : Nat, i = .int .i64 k ∧ k ≤ ws.length ∧ ws.length - k ≤ g1 ∧ Hid (RdI w total ws k v1 v2 wr))
  case atStart => exact ⟨0, rfl, Nat.zero_le _, by omega, ⟨OwnI.nil _ _, OwnI.nil _ _, Dj.nil_left _, Below.refl _ _⟩⟩
  case round =>
    obtain ⟨k, rfl, hk, hg1, HI⟩ := hrel
    by_cases hlt : k < ws.length
    · have hltz : (k : Int) < (ws.length : Int) := by omega
      obtain ⟨b, off, rfl, hc0⟩ := HR.out k hlt
      have hc : wr.cell? ⟨b, off + k, none⟩ = some (.int .i64 (ws.getD k 0)) := by
        have := World.block_lt_of_cell? _ _ hc0
        rw [HI.out.2.2.2.cell (p := ⟨b, off + k, none⟩) this]; exact hc0
      clear hc0
      obtain ⟨p1, p2, p3, p4, p5, p6, p7⟩ := part_bd HM.out k hlt
      obtain ⟨z0, z1⟩ := HM.out.w0 k hlt
      have HQ := Lib.hid (take_map_succ (fun x => total * x / ws.sum) ws k hlt)
      have HT := Lib.hid (take_map_succ (fun x => total * x % ws.sum) ws k hlt)
      have P7 := Lib.hid p7
      have hD := HD.out (ws.getD k 0) wr z0 z1 p3 p4
      have HD1 := Lib.hid hD
      clear p7 hD
      generalize ws.getD k 0 = z at *
      go_wp2_with fail
      refine (HD1.out).mono ?_
      rintro e w1 ⟨rfl, hb1⟩
      have hsz1 := hb1.size
      have hbs := HI.out.2.2.2.size
      have HI1 : Hid (RdI w total ws k u7 u8 w1) := ⟨HI.out.1.below hb1, HI.out.2.1.below hb1, HI.out.2.2.1, HI.out.2.2.2.trans (hb1.mono hbs)⟩
      clear hb1 HD1 HI hc
      generalize total * z / ws.sum = q at *
      have hA0 : 0 ≤ total * z := p1
      go_wp2_with (first
        | (at_builtin
           refine wpList_push rfl _ _ rfl w.heap.size w1 u7 ((qsL total ws).take k) q rfl HI1.out.1 rfl (by rw [List.length_take]; omega) (by omega) ?_
           intro v1 w2 hp1
           have hsz2 := hp1.size
           have HI2 : Hid (OwnI w2 w.heap.size v1 ((qsL total ws).take (k + 1)) ∧ OwnI w2 w.heap.size u8 ((rsL total ws).take k) ∧ Dj v1 u8 ∧ Below w.heap.size w w2) := by
             obtain ⟨o1, o2⟩ := hp1.oth _ _ _ HI1.out.2.1 HI1.out.2.2.1
             exact ⟨by unfold qsL; rw [HQ.out]; exact hp1.own, o1, o2, hp1.bel _ _ HI1.out.2.2.2 (Nat.le_refl _) (by omega)⟩
           clear hp1 HI1 HQ)
        | (at_builtin
           refine wpList_push rfl _ _ rfl w.heap.size w2 u8 ((rsL total ws).take k) (total * z - q * ws.sum) rfl HI2.out.2.1 rfl (by rw [List.length_take]; omega) (by omega) ?_
           intro v2 w3 hp2
           have HI3 : Hid (RdI w total ws (k + 1) v1 v2 w3) := by
             obtain ⟨o1, o2⟩ := hp2.oth _ _ _ HI2.out.1 HI2.out.2.2.1.symm
             exact ⟨o1, by unfold rsL; rw [HT.out, ← P7.out]; exact hp2.own, o2.symm, hp2.bel _ _ HI2.out.2.2.2 (Nat.le_refl _) (by omega)⟩
           clear hp2 HI2 HT))
      go_roundg (ws.length - (k + 1))
      case measure => omega
      case rel => exact ⟨k + 1, by go_num, by omega, by omega, HI3⟩
    · have hltz : ¬ (k : Int) < (ws.length : Int) := by omega
      have HF : Hid (RoundPost w total ws (.returned (.tuple #[u7, u8, .int .i64 0])) wr) := by
        obtain ⟨o1, o2, o3, o4⟩ := HI.out
        rw [List.take_of_length_le (by rw [qsL_len]; omega)] at o1
        rw [List.take_of_length_le (by rw [rsL_len]; omega)] at o2
        exact ⟨u7, u8, rfl, o1, o2, o3, o4⟩
      clear HI
      go_wp2
      go_ret3
      exact HF.out
end Go.Proofs.Ytekiknngiefkbaa
