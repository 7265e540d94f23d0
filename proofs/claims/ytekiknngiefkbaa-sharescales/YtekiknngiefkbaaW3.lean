/- share.Split: what may be divided, and what is refused. -/
import Derived.Test.YtekiknngiefkbaaW2
namespace Go.Proofs.Ytekiknngiefkbaa
open Go.Shelf Go.RowKit Go.Lib Go.Sort Go.Proofs

def leftI (total : Int) (ws : List Int) : Int := total - (qsL total ws).sum
def splitL (total : Int) (ws : List Int) (ord : List Nat) : List Int := (List.range ws.length).map fun i => gotL (qsL total ws) ord 0 (leftI total ws).toNat i
theorem splitL_len (total : Int) (ws : List Int) (ord : List Nat) : (splitL total ws ord).length = ws.length := by simp [splitL]
theorem splitL_get (total : Int) (ws : List Int) (ord : List Nat) (i : Nat) (h : i < ws.length) : (splitL total ws ord).getD i 0 = gotL (qsL total ws) ord 0 (leftI total ws).toNat i := by
  unfold splitL
  rw [List.getD_eq_getElem?_getD, List.getElem?_map, List.getElem?_range h]
  rfl

theorem rest_sum {total : Int} {ws : List Int} (h : May total ws) (k : Nat) (hk : k ≤ ws.length) :
    total * (ws.take k).sum = ws.sum * ((qsL total ws).take k).sum + ((rsL total ws).take k).sum ∧ 0 ≤ ((rsL total ws).take k).sum ∧ ((rsL total ws).take k).sum ≤ (k : Int) * (ws.sum - 1) := by
  induction k with
  | zero => simp
  | succ k ih =>
    obtain ⟨h1, h2, h3⟩ := ih (by omega)
    rw [sum_take ws k (by omega), sum_take (qsL total ws) k (by rw [qsL_len]; omega), sum_take (rsL total ws) k (by rw [rsL_len]; omega)]
    rw [show (qsL total ws).getD k 0 = total * ws.getD k 0 / ws.sum from map_getD _ ws k (by omega), show (rsL total ws).getD k 0 = total * ws.getD k 0 % ws.sum from map_getD _ ws k (by omega)]
    have hd := Int.mul_ediv_add_emod (total * ws.getD k 0) ws.sum
    have hm0 := Int.emod_nonneg (total * ws.getD k 0) (show ws.sum ≠ 0 by have := h.s0; omega)
    have hm1 := Int.emod_lt_of_pos (total * ws.getD k 0) h.s0
    have e : ((k + 1 : Nat) : Int) * (ws.sum - 1) = (k : Int) * (ws.sum - 1) + (ws.sum - 1) := by rw [Int.natCast_add, Int.add_mul]; simp
    rw [e, Int.mul_add, Int.mul_add]
    refine ⟨by omega, by omega, by omega⟩

theorem left_bd {total : Int} {ws : List Int} (h : May total ws) : 0 ≤ leftI total ws ∧ leftI total ws < ws.length := by
  obtain ⟨h1, h2, h3⟩ := rest_sum h ws.length (Nat.le_refl _)
  rw [List.take_length, List.take_of_length_le (by rw [qsL_len]; exact Nat.le_refl _), List.take_of_length_le (by rw [rsL_len]; exact Nat.le_refl _)] at h1
  rw [List.take_of_length_le (by rw [rsL_len]; exact Nat.le_refl _)] at h2 h3
  have hs := h.s0
  have hn := h.n0
  have e : ws.sum * leftI total ws = (rsL total ws).sum := by
    unfold leftI
    rw [Int.mul_sub, Int.mul_comm ws.sum total]
    omega
  constructor
  · apply Int.not_lt.1
    intro hc
    have := Int.mul_neg_of_pos_of_neg hs hc
    omega
  · apply Int.not_le.1
    intro hc
    have h4 := Int.mul_le_mul_of_nonneg_left hc (Int.le_of_lt hs)
    rw [e, Int.mul_comm] at h4
    rw [Int.mul_sub] at h3
    omega

theorem q_bd {total : Int} {ws : List Int} (h : May total ws) (i : Nat) (hi : i < ws.length) : 0 ≤ (qsL total ws).getD i 0 ∧ (qsL total ws).getD i 0 ≤ total := by
  have hp := part_bd h i hi
  rw [show (qsL total ws).getD i 0 = total * ws.getD i 0 / ws.sum from map_getD _ ws i hi]
  exact ⟨hp.2.2.1, hp.2.2.2.1⟩

theorem ownI_of {w : World} {base g cap : Nat} {cs : Array Value} {zs : List Int} (hb : base ≤ g) (hB : Bk w g cs) (hs : cs.size = cap) (hn : zs.length ≤ cap) (hm : cap ≤ maxLen) (hc : ∀ i, i < zs.length → cs[i]? = some (.int .i64 (zs.getD i 0))) : OwnI w base (.slice (some ⟨g, 0, none⟩) zs.length cap) zs := by
  refine ⟨by simp, .inr ⟨g, cap, cs, rfl, hb, hB, hn, hm, by omega, ?_⟩⟩
  apply List.ext_getElem?
  intro i
  rw [List.getElem?_take, List.getElem?_map]
  by_cases hi : i < zs.length
  · rw [if_pos (by omega), Array.getElem?_toList, hc i hi, List.getD_eq_getElem?_getD, List.getElem?_eq_getElem hi]
    rfl
  · rw [if_neg (by omega), List.getElem?_eq_none (by omega)]; rfl

def SplitPost (w : World) (total : Int) (ws : List Int) (e : Ending) (w' : World) : Prop :=
  ∃ v ord, e = .returned (.tuple #[v, .int .i64 0]) ∧ OrdOk (rsL total ws) ord ∧ OwnI w' w.heap.size v (splitL total ws ord) ∧ Below w.heap.size w w'

theorem may_iff (total : Int) (ws : List Int) : May total ws ↔ (0 ≤ total ∧ total ≤ 1099511627776) ∧ okW ws = true := by
  rw [okW_iff]
  constructor
  · rintro ⟨a, b, c, d, e, f⟩; exact ⟨⟨a, b⟩, ⟨c, d⟩, e, f⟩
  · rintro ⟨⟨a, b⟩, ⟨c, d⟩, e, f⟩; exact ⟨a, b, c, d, e, f⟩

set_option maxHeartbeats 1000000 in
theorem split_no (a : Option Addr) (ws : List Int) (cap : Nat) (total : Int) (w : World) (hrow : RowIs w a ws) (hl : ws.length ≤ 65536) (hno : ¬ May total ws) :
    Calls Try.prog 7 #[.int .i64 total, .slice a ws.length cap] w fun e w' => e = .returned (.tuple #[.slice none 0 0, .int .i64 1]) ∧ w = w' := by
  have mixed : Try.prog.follows .mixedOrders = true := by kernel_rfl
  have HW := Lib.hid (areWeights_any a ws cap w hrow hl)
  rw [may_iff] at hno
  clear hrow
  by_cases h1 : total < 0
  · have t1 : decide (total < 0) = true := decide_eq_true h1
    clear hno
    go_enter Try.func7, Try.ntmps7
    go_wp2
    go_ret2
    exact ⟨rfl, rfl⟩
  · have t1 : decide (total < 0) = false := decide_eq_false h1
    by_cases h2 : 1099511627776 < total
    · have t2 : decide (1099511627776 < total) = true := decide_eq_true h2
      clear hno
      go_enter Try.func7, Try.ntmps7
      go_wp2
      go_ret2
      exact ⟨rfl, rfl⟩
    · have t2 : decide (1099511627776 < total) = false := decide_eq_false h2
      have h3 : okW ws = false := by
        rw [← Bool.not_eq_true]; intro h; exact hno ⟨⟨by omega, by omega⟩, h⟩
      rw [h3] at HW
      clear hno h3
      go_enter Try.func7, Try.ntmps7
      go_wp2_with fail
      refine (HW.out).mono ?_
      rintro e w' ⟨rfl, rfl⟩
      go_wp2
      go_ret2
      exact ⟨rfl, rfl⟩

set_option maxHeartbeats 2000000 in
theorem split_yes (a : Option Addr) (ws : List Int) (cap : Nat) (total : Int) (w : World) (hrow : RowIs w a ws) (hm : May total ws) :
    Calls Try.prog 7 #[.int .i64 total, .slice a ws.length cap] w (SplitPost w total ws) := by
  have mixed : Try.prog.follows .mixedOrders = true := by kernel_rfl
  have hmi := (may_iff total ws).1 hm
  have hn1 := hm.n1
  have HW := Lib.hid (areWeights_any a ws cap w hrow (by omega))
  rw [hmi.2] at HW
  have HD := Lib.hid (roundDown_any a ws cap total w hrow hm)
  have t1 : decide (total < 0) = false := decide_eq_false (by have := hmi.1; omega)
  have t2 : decide (1099511627776 < total) = false := decide_eq_false (by have := hmi.1; omega)
  have t3 : ¬ total < 0 := by have := hmi.1; omega
  have t4 : ¬ 1099511627776 < total := by have := hmi.1; omega
  have HM := Lib.hid hm
  clear hrow hmi hm
  go_enter Try.func7, Try.ntmps7
  go_wp2_with fail
  refine (HW.out).mono ?_
  rintro e w' ⟨rfl, rfl⟩
  go_wp2_with fail
  refine (HD.out).mono ?_
  rintro e w1 ⟨v1, v2, rfl, ho1, ho2, hdj, hb1⟩
  have hl1 := qsL_len total ws
  have hl2 := rsL_len total ws
  have hn0 := HM.out.n0
  rcases ho1.2 with ⟨_, h0⟩ | ⟨g1, c1, cs1, rfl, hg1, hh1, hnc1, hm1, hcs1, _⟩
  · omega
  rcases ho2.2 with ⟨_, h0⟩ | ⟨g2, c2, cs2, rfl, hg2, hh2, hnc2, hm2, hcs2, _⟩
  · omega
  obtain ⟨b1, k1, e1, hr1, hx1⟩ := ho1.form
  obtain ⟨b2, k2, e2, hr2, hx2⟩ := ho2.form
  simp only [Value.slice.injEq] at e1 e2
  obtain ⟨rfl, _, rfl⟩ := e1
  obtain ⟨rfl, _, rfl⟩ := e2
  have hlb := left_bd HM.out
  have HS := Lib.hid (sum_any (some ⟨g1, 0, none⟩) (qsL total ws) c1 w1 hr1 (fun i hi => by have := q_bd HM.out i (by omega); have := HM.out.t1; omega) (by omega))
  have hq1 : ∀ i, i < (rsL total ws).length → cs1[i]? = some (.int .i64 ((qsL total ws).getD i 0)) := by
    intro i hi
    obtain ⟨b, o, e, hc⟩ := hr1 i (by omega)
    simp only [Option.some.injEq, Addr.mk.injEq] at e
    obtain ⟨rfl, rfl, _⟩ := e
    rw [Nat.zero_add, Bk.cell (cs := cs1) hh1] at hc
    exact hc
  have HO := Lib.hid (handOut_any g1 c1 g2 0 c2 (rsL total ws) (qsL total ws) cs1 (leftI total ws).toNat cs1.size (total - (qsL total ws).sum) w1 (by unfold leftI at hlb ⊢; omega) (by omega) (by omega) (by omega)
    (fun i hi => by obtain ⟨b, o, e, hc⟩ := hr2 i hi; simp only [Option.some.injEq, Addr.mk.injEq] at e; obtain ⟨rfl, rfl, _⟩ := e; exact hc) hh1 rfl hq1 (fun i hi => by have := q_bd HM.out i (by omega); have := HM.out.t1; omega))
  have HF : Hid (∀ ord w3, OrdOk (rsL total ws) ord → (∃ cs, Bk w3 g1 cs ∧ cs.size = cs1.size ∧ ∀ i, i < (rsL total ws).length → cs[i]? = some (.int .i64 (gotL (qsL total ws) ord 0 (leftI total ws).toNat i))) → Below g1 w1 w3 → SplitPost w total ws (.returned (.tuple #[.slice (some ⟨g1, 0, none⟩) (qsL total ws).length c1, .int .i64 0])) w3) := by
    intro ord w3 hord hcs hbl
    obtain ⟨cs, hB, hsz, hv⟩ := hcs
    refine ⟨_, ord, rfl, hord, ?_, hb1.trans (hbl.mono hg1)⟩
    have := ownI_of (base := w.heap.size) (zs := splitL total ws ord) hg1 hB (hsz.trans (hcs1.trans (Nat.mul_one _))) (by rw [splitL_len]; omega) hm1 (fun i hi => by rw [splitL_len] at hi; rw [splitL_get total ws ord i hi]; exact hv i (by omega))
    rw [splitL_len, ← hl1] at this
    exact this
  have hsb : 0 ≤ (qsL total ws).sum := by unfold leftI at hlb; have := sum_take_bd (qsL total ws) total (fun i hi => q_bd HM.out i (by omega)) _ (Nat.le_refl _); rw [sum_all] at this; exact this.1
  have hsb2 : (qsL total ws).sum ≤ total := by unfold leftI at hlb; omega
  clear ho1 ho2 hdj hb1 hh1 hh2 hm1 hm2 hcs1 hcs2 hr1 hr2 hx1 hx2 hnc1 hnc2 hg1 hg2 hq1 hlb
  have HL2 : Hid ((rsL total ws).length = (qsL total ws).length) := hl2.trans hl1.symm
  have hO2 := HO.out
  rw [HL2.out] at hO2
  have HO2 := Lib.hid hO2
  clear HO hO2 hl1 hl2
  have HL3 := Lib.hid (HL2.out)
  rw [HL3.out]
  go_wp2_with fail
  refine (HS.out).mono ?_
  rintro e w' ⟨rfl, rfl⟩
  go_wp2_with fail
  refine (HO2.out).mono ?_
  rintro e w3 ⟨rfl, ord, hord, hcs, hbl⟩
  have HZ := Lib.hid (HF.out ord w3 hord hcs hbl)
  clear hord hcs hbl HF HO2
  go_wp2
  go_ret2
  exact HZ.out
end Go.Proofs.Ytekiknngiefkbaa
