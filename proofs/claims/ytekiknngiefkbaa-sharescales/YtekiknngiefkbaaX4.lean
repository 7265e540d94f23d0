/- The page's Split, walked. -/
import Derived.Test.YtekiknngiefkbaaX3
import Derived.Deep.QuietTactic
import Derived.BigQuiet
namespace Go.Proofs.Ytekiknngiefkbaa
open Go.Shelf Go.RowKit Go.Lib Go.Sort Go.Proofs

def RefPost (w : World) (total : Int) (ws : List Int) (ord : List Nat) (e : Ending) (w' : World) : Prop := ∃ v, e = .returned v ∧ OwnI w' w.heap.size v (splitL total ws ord) ∧ Below w.heap.size w w'

def RfI (w : World) (total : Int) (ws : List Int) (ord : List Nat) (g1 c1 g2 c2 t : Nat) (wr : World) : Prop :=
  OwnI wr w.heap.size (.slice (some ⟨g1, 0, none⟩) ws.length c1) (gotT (qsL total ws) ord ws.length t) ∧ OwnI wr w.heap.size (.slice (some ⟨g2, 0, none⟩) ws.length c2) (rstT (rsL total ws) ord ws.length t) ∧ Below w.heap.size w wr

theorem rf_step {w : World} {total : Int} {ws : List Int} {ord : List Nat} {g1 c1 g2 c2 t b : Nat} {wr : World} (hI : RfI w total ws ord g1 c1 g2 c2 t wr) (hM : May total ws) (ho : OrdOk (rsL total ws) ord) (hg : g1 ≠ g2) (ht : t < ws.length) (hb : b = ord.getD t 0) :
    ∃ v : Int, 0 ≤ v ∧ v ≤ 1099511627777 ∧ (∃ u, wr.cell? ⟨g2, b, none⟩ = some u) ∧ wr.frozen? ⟨g2, b, none⟩ = false ∧ (wr.setCell ⟨g2, b, none⟩ (.int .i64 (-1))).cell? ⟨g1, b, none⟩ = some (.int .i64 v) ∧ (wr.setCell ⟨g2, b, none⟩ (.int .i64 (-1))).frozen? ⟨g1, b, none⟩ = false ∧
      RfI w total ws ord g1 c1 g2 c2 (t + 1) ((wr.setCell ⟨g2, b, none⟩ (.int .i64 (-1))).setCell ⟨g1, b, none⟩ (.int .i64 (v + 1))) := by
  obtain ⟨h1, h2, h3⟩ := hI
  have hl := rsL_len total ws
  have hb2 : b < ws.length := by rw [hb, ← hl]; exact ho.lt (by omega)
  obtain ⟨c2a, f2a, p2, q2⟩ := h2.cellAt (rstT_len _ _ _ _) b hb2
  have h4 := h2.stored (rstT_len _ _ _ _) b (-1)
  have h5 : OwnI (wr.setCell ⟨g2, b, none⟩ (.int .i64 (-1))) w.heap.size (.slice (some ⟨g1, 0, none⟩) ws.length c1) (gotT (qsL total ws) ord ws.length t) := h1.setOther hg
  obtain ⟨c1a, f1a, p1, q1⟩ := h5.cellAt (gotT_len _ _ _ _) b hb2
  have h6 := h5.stored (gotT_len _ _ _ _) b ((gotT (qsL total ws) ord ws.length t).getD b 0 + 1)
  have hq := q_bd hM b hb2
  have hv : (gotT (qsL total ws) ord ws.length t).getD b 0 = gotL (qsL total ws) ord 0 t b := by unfold gotT; rw [range_getD _ _ _ hb2]
  refine ⟨(gotT (qsL total ws) ord ws.length t).getD b 0, ?_, ?_, ⟨_, c2a⟩, f2a, c1a, f1a, ?_, ?_, ?_⟩
  · rw [hv]; unfold gotL; split <;> omega
  · rw [hv]; have := hM.t1; unfold gotL; split <;> omega
  · have e := gotT_step (qs := qsL total ws) ho (t := t) (by omega)
    rw [hl, ← hb] at e
    rw [e] at h6
    exact h6
  · have e := rstT_step (rsL total ws) ord t
    rw [hl, ← hb] at e
    rw [e] at h4
    exact h4.setOther (Ne.symm hg)
  · exact (h3.setCell p2 _).setCell p1 _

set_option maxHeartbeats 4000000 in
set_option maxRecDepth 100000 in
theorem refSplit_any (a : Option Addr) (ws : List Int) (cap : Nat) (total : Int) (ord : List Nat) (w : World) (hrow : RowIs w a ws) (hm : May total ws) (hord : OrdOk (rsL total ws) ord) :
    Calls Try.prog 11 #[.int .i64 total, .slice a ws.length cap] w (RefPost w total ws ord) := by
  have mixed : Try.prog.follows .mixedOrders = true := by kernel_rfl
  have HR := Lib.hid hrow
  have HM := Lib.hid hm
  have HO := Lib.hid hord
  have hn0 := hm.n0
  have hn1 := hm.n1
  have ht0 := hm.t0
  have ht1 := hm.t1
  have hs0 := hm.s0
  have hs1 := hm.sum_le
  have hlb := left_bd hm
  clear hrow hm hord
  go_enter Try.func11, Try.ntmps11
  go_wp2
  go_loop [5, 6] (fun s i => ∃ k : Nat, k ≤ ws.length ∧ i = .int .i64 k ∧ s = .int .i64 (ws.take k).sum) (fun _ i => ws.length - (intOf i).toNat)
  case atStart => exact ⟨0, Nat.zero_le _, rfl, rfl⟩
  case round =>
    obtain ⟨k, hk, rfl, rfl⟩ := hrel
    obtain ⟨b0, b1⟩ := sum_take_bd ws 1048576 HM.out.w0 k hk
    by_cases hlt : k < ws.length
    · obtain ⟨b, off, rfl, hc⟩ := HR.out k hlt
      have hltz : (k : Int) < (ws.length : Int) := by omega
      obtain ⟨z0, z1⟩ := HM.out.w0 k hlt
      have HST := Lib.hid (sum_take ws k hlt)
      generalize ws.getD k 0 = z at *
      generalize (ws.take k).sum = s at *
      go_wp2
      go_round
      case rel => exact ⟨k + 1, by omega, by go_num, by rw [HST.out]⟩
      case measure => simp [intOf]; omega
    · have hltz : ¬ (k : Int) < (ws.length : Int) := by omega
      have hks : (ws.take k).sum = ws.sum := by rw [List.take_of_length_le (by omega)]
      rw [hks]
      clear hks b0 b1
      go_wp2
      go_loopg [7, 8, 9, 10] ws.length (fun g1 v1 v2 vl i wr => ∃ k : Nat, i = .int .i64 k ∧ vl = .int .i64 (total - ((qsL total ws).take k).sum) ∧ k ≤ ws.length ∧ ws.length - k ≤ g1 ∧ Hid (RdI w total ws k v1 v2 wr))
      case atStart => exact ⟨0, rfl, by simp, Nat.zero_le _, by omega, ⟨OwnI.nil _ _, OwnI.nil _ _, Dj.nil_left _, Below.refl _ _⟩⟩
      case round =>
        obtain ⟨k, rfl, rfl, hk, hg1, HI⟩ := hrel
        obtain ⟨b0, b1⟩ := sum_take_bd (qsL total ws) 1099511627776 (fun i hi => by have := q_bd HM.out i (by rw [qsL_len] at hi; exact hi); omega) k (by rw [qsL_len]; exact hk)
        by_cases hlt : k < ws.length
        · have hltz : (k : Int) < (ws.length : Int) := by omega
          obtain ⟨b, off, rfl, hc0⟩ := HR.out k hlt
          have hbl := World.block_lt_of_cell? _ _ hc0
          have hbs := HI.out.2.2.2.size
          have hc : wr.cell? ⟨b, off + k, none⟩ = some (.int .i64 (ws.getD k 0)) := by
            rw [HI.out.2.2.2.cell (p := ⟨b, off + k, none⟩) hbl]; exact hc0
          obtain ⟨p1, p2, p3, p4, p5, p6, p7⟩ := part_bd HM.out k hlt
          obtain ⟨z0, z1⟩ := HM.out.w0 k hlt
          have HQ := Lib.hid (take_map_succ (fun x => total * x / ws.sum) ws k hlt)
          have HT := Lib.hid (take_map_succ (fun x => total * x % ws.sum) ws k hlt)
          have HSQ : Hid (((qsL total ws).take (k + 1)).sum = ((qsL total ws).take k).sum + total * ws.getD k 0 / ws.sum) := by
            have := sum_take (qsL total ws) k (by rw [qsL_len]; exact hlt)
            rw [show (qsL total ws).getD k 0 = total * ws.getD k 0 / ws.sum from map_getD _ ws k hlt] at this
            exact this
          have HQC : Hid ((qsL total ws).getD k 0 = total * ws.getD k 0 / ws.sum) := map_getD _ ws k hlt
          have hm0 := Int.emod_nonneg (total * ws.getD k 0) (show ws.sum ≠ 0 by omega)
          have hm1 := Int.emod_lt_of_pos (total * ws.getD k 0) hs0
          have HC0 := Lib.hid hc0
          clear p7 p5 p6 hc0
          generalize ws.getD k 0 = z at *
          generalize ((qsL total ws).take k).sum = sq at *
          go_wp2_with (first
            | (at_builtin
               refine wpList_push rfl _ _ rfl w.heap.size wr u7 ((qsL total ws).take k) (total * z / ws.sum) rfl HI.out.1 rfl (by rw [List.length_take]; omega) (by omega) ?_
               intro v1 w2 hp1
               have hsz2 := hp1.size
               have HI2 : Hid (OwnI w2 w.heap.size v1 ((qsL total ws).take (k + 1)) ∧ OwnI w2 w.heap.size u8 ((rsL total ws).take k) ∧ Dj v1 u8 ∧ Below w.heap.size w w2) := by
                 obtain ⟨o1, o2⟩ := hp1.oth _ _ _ HI.out.2.1 HI.out.2.2.1
                 exact ⟨by unfold qsL; rw [HQ.out]; exact hp1.own, o1, o2, hp1.bel _ _ HI.out.2.2.2 (Nat.le_refl _) (by omega)⟩
               have hc2 : w2.cell? ⟨b, off + k, none⟩ = some (.int .i64 z) := by rw [HI2.out.2.2.2.cell (p := ⟨b, off + k, none⟩) hbl]; exact HC0.out
               clear hp1 HI HQ hc)
            | (at_builtin
               refine wpList_push rfl _ _ rfl w.heap.size w2 u8 ((rsL total ws).take k) (total * z % ws.sum) rfl HI2.out.2.1 rfl (by rw [List.length_take]; omega) (by omega) ?_
               intro v2 w3 hp2
               have HI3 : Hid (RdI w total ws (k + 1) v1 v2 w3) := by
                 obtain ⟨o1, o2⟩ := hp2.oth _ _ _ HI2.out.1 HI2.out.2.2.1.symm
                 exact ⟨o1, by unfold rsL; rw [HT.out]; exact hp2.own, o2.symm, hp2.bel _ _ HI2.out.2.2.2 (Nat.le_refl _) (by omega)⟩
               obtain ⟨g1, c1, rfl⟩ := HI3.out.1.some_ (n := k + 1) (by rw [List.length_take, qsL_len]; omega) (by omega)
               have hcq : w3.cell? ⟨g1, k, none⟩ = some (.int .i64 (total * z / ws.sum)) := by
                 have := (HI3.out.1.cellAt (by rw [List.length_take, qsL_len]; omega) k (by omega)).1
                 rw [List.getD_eq_getElem?_getD, List.getElem?_take, if_pos (by omega), ← List.getD_eq_getElem?_getD, HQC.out] at this
                 exact this
               clear hp2 HI2 HT hc2))
          go_roundg (ws.length - (k + 1))
          case measure => omega
          case rel => exact ⟨k + 1, by go_num, by rw [HSQ.out]; congr 1; omega, by omega, by omega, HI3⟩
        · have hltz : ¬ (k : Int) < (ws.length : Int) := by omega
          have hkl : ws.length ≤ k := by omega
          have hq1 : (qsL total ws).take k = qsL total ws := List.take_of_length_le (by rw [qsL_len]; omega)
          have hq2 : (rsL total ws).take k = rsL total ws := List.take_of_length_le (by rw [rsL_len]; omega)
          obtain ⟨l0, hl0⟩ : ∃ l0 : Nat, l0 = (leftI total ws).toNat := ⟨_, rfl⟩
          have hll : l0 < ws.length := by omega
          have HL0 := Lib.hid hl0
          have hlz : total - ((qsL total ws).take k).sum = (l0 : Int) := by
            rw [hq1]; have : leftI total ws = total - (qsL total ws).sum := rfl
            omega
          rw [hlz]
          obtain ⟨o1, o2, o3, o4⟩ := HI.out
          rw [hq1] at o1
          rw [hq2] at o2
          obtain ⟨g1, c1, rfl⟩ := o1.some_ (n := ws.length) (qsL_len _ _) hn0
          obtain ⟨g2, c2, rfl⟩ := o2.some_ (n := ws.length) (rsL_len _ _) hn0
          have hgg : g1 ≠ g2 := fun e => o3 g1 rfl (by subst e; rfl)
          have HF0 : Hid (RfI w total ws ord g1 c1 g2 c2 0 wr) := ⟨by rw [gotT_zero _ _ _ (qsL_len _ _)]; exact o1, by rw [rstT_zero _ _ _ (rsL_len _ _)]; exact o2, o4⟩
          have HG := Lib.hid hgg
          clear o1 o2 o3 o4 HI hq1 hq2 hl0 hlz b0 b1 hgg hlb
          go_wp2
          go_loopg [9, 11, 12] l0 (fun gg vl _ _ wr => ∃ t m : Nat, vl = .int .i64 m ∧ m ≤ gg ∧ m ≤ l0 ∧ t ≤ l0 ∧ Hid (m + t = l0 ∧ RfI w total ws ord g1 c1 g2 c2 t wr))
          case atStart => exact ⟨0, l0, rfl, Nat.le_refl _, Nat.le_refl _, Nat.zero_le _, ⟨rfl, HF0.out⟩⟩
          case round =>
            clear HF0
            obtain ⟨t, m, rfl, hmg, hml, htl, HF⟩ := hrel
            by_cases hm0 : m = 0
            · have hmz : ¬ (0 : Int) < (m : Int) := by omega
              have HE : Hid (RefPost w total ws ord (.returned (.slice (some ⟨g1, 0, none⟩) ws.length c1)) wr) := by
                have e : t = (leftI total ws).toNat := by have := HF.out.1; have := HL0.out; omega
                exact ⟨_, rfl, by have h1 := HF.out.2.1; rw [e] at h1; exact h1, HF.out.2.2.2⟩
              subst hm0
              clear HF
              go_wp2
              go_ret
              exact HE.out
            · have hmz : (0 : Int) < (m : Int) := by omega
              have hmn : 0 < m := by omega
              have hmd : decide (0 < m) = true := decide_eq_true hmn
              obtain ⟨w1, hw1⟩ : ∃ w1, w1 = wr := ⟨_, rfl⟩
              rw [← hw1]
              have htn : t < ws.length := by have := HF.out.1; omega
              have hmt : m + t ≤ l0 := by have := HF.out.1; omega
              have HF1 : Hid (m + t = l0 ∧ RfI w total ws ord g1 c1 g2 c2 t w1) := by rw [hw1]; exact HF.out
              clear HF hw1
              go_wp2
              go_loopg [11, 12] ws.length (fun gg vb vi wr => ∃ k b nd : Nat, vi = .int .i64 k ∧ vb = .int .i64 b ∧ 1 ≤ k ∧ k ≤ ws.length ∧ b < k ∧ ws.length - k ≤ gg ∧ Hid (wr = w1.drewN nd ∧ ∀ j, j < k → (rstT (rsL total ws) ord ws.length t).getD j 0 ≤ (rstT (rsL total ws) ord ws.length t).getD b 0 ∧ (j < b → (rstT (rsL total ws) ord ws.length t).getD j 0 < (rstT (rsL total ws) ord ws.length t).getD b 0)))
              case atStart => exact ⟨1, 0, 0, rfl, rfl, by omega, by omega, by omega, by omega, ⟨rfl, fun j hj => by obtain rfl : j = 0 := (by omega); exact ⟨Int.le_refl _, fun h => by omega⟩⟩⟩
              case round =>
                obtain ⟨k, b, nd, rfl, rfl, hk1, hkn, hbk, hgg, HX⟩ := hrel
                have hw := HX.out.1
                subst hw
                by_cases hlt : k < ws.length
                · have hltz : (k : Int) < (ws.length : Int) := by omega
                  have hbz : (b : Int) < (ws.length : Int) := by omega
                  have d1 : (w1.drewN nd).cell? ⟨g2, k, none⟩ = some (.int .i64 ((rstT (rsL total ws) ord ws.length t).getD k 0)) := (HF1.out.2.2.1.cellAt (rstT_len _ _ _ _) k hlt).1
                  have d2 : (w1.drewN nd).cell? ⟨g2, b, none⟩ = some (.int .i64 ((rstT (rsL total ws) ord ws.length t).getD b 0)) := (HF1.out.2.2.1.cellAt (rstT_len _ _ _ _) b (by omega)).1
                  have e1 : w1.cell? ⟨g2, k, none⟩ = some (.int .i64 ((rstT (rsL total ws) ord ws.length t).getD k 0)) := d1
                  have e2 : w1.cell? ⟨g2, b, none⟩ = some (.int .i64 ((rstT (rsL total ws) ord ws.length t).getD b 0)) := d2
                  clear d1 d2
                  by_cases hgt : (rstT (rsL total ws) ord ws.length t).getD b 0 < (rstT (rsL total ws) ord ws.length t).getD k 0
                  · have HX2 : Hid (∀ j, j < k + 1 → (rstT (rsL total ws) ord ws.length t).getD j 0 ≤ (rstT (rsL total ws) ord ws.length t).getD k 0 ∧ (j < k → (rstT (rsL total ws) ord ws.length t).getD j 0 < (rstT (rsL total ws) ord ws.length t).getD k 0)) := fun j hj => by
                      by_cases e : j = k
                      · subst e; exact ⟨Int.le_refl _, fun h => by omega⟩
                      · have := (HX.out.2 j (by omega)).1; omega
                    clear HX
                    generalize (rstT (rsL total ws) ord ws.length t).getD k 0 = p at e1 hgt
                    generalize (rstT (rsL total ws) ord ws.length t).getD b 0 = q at e2 hgt
                    have hgd : decide (q < p) = true := decide_eq_true hgt
                    go_wp2_with fail
                    go_quiet (fail)
                    go_wp2
                    go_roundg (ws.length - (k + 1))
                    case measure => omega
                    case rel => exact ⟨k + 1, k, _, by go_num, rfl, by omega, by omega, by omega, by omega, ⟨rfl, HX2.out⟩⟩
                  · have HX2 : Hid (∀ j, j < k + 1 → (rstT (rsL total ws) ord ws.length t).getD j 0 ≤ (rstT (rsL total ws) ord ws.length t).getD b 0 ∧ (j < b → (rstT (rsL total ws) ord ws.length t).getD j 0 < (rstT (rsL total ws) ord ws.length t).getD b 0)) := fun j hj => by
                      by_cases e : j = k
                      · subst e; exact ⟨by omega, fun h => by omega⟩
                      · exact HX.out.2 j (by omega)
                    clear HX
                    generalize (rstT (rsL total ws) ord ws.length t).getD k 0 = p at e1 hgt
                    generalize (rstT (rsL total ws) ord ws.length t).getD b 0 = q at e2 hgt
                    have hgd : decide (q < p) = false := decide_eq_false hgt
                    go_wp2_with fail
                    go_quiet (fail)
                    go_wp2
                    go_roundg (ws.length - (k + 1))
                    case measure => omega
                    case rel => exact ⟨k + 1, b, _, by go_num, rfl, by omega, by omega, by omega, by omega, ⟨rfl, HX2.out⟩⟩
                · have hltz : ¬ (k : Int) < (ws.length : Int) := by omega
                  have hl2 := rsL_len total ws
                  have hbo : b = ord.getD t 0 := by
                    refine best_is HO.out (fun i hi => ?_) (by omega) (t := t) (by omega) (by omega) (fun j hj => ?_)
                    · rw [show (rsL total ws).getD i 0 = total * ws.getD i 0 % ws.sum from map_getD _ ws i (by omega)]
                      exact Int.emod_nonneg _ (by omega)
                    · rw [hl2]; exact HX.out.2 j (by omega)
                  have hbz : (b : Int) < (ws.length : Int) := by omega
                  have HFd : RfI w total ws ord g1 c1 g2 c2 t (w1.drewN nd) := ⟨HF1.out.2.1, HF1.out.2.2.1, below_drewN HF1.out.2.2.2 nd⟩
                  obtain ⟨v, hv0, hv1, ⟨u, cu⟩, fu, cv, fv, hnext⟩ := rf_step HFd HM.out HO.out HG.out htn hbo
                  have HNX := Lib.hid hnext
                  clear hnext HFd hbo HX hl2
                  go_wp2
                  go_roundg (m - 1)
                  case measure => omega
                  case rel => exact ⟨t + 1, m - 1, by congr 1; omega, Nat.le_refl _, by omega, by omega, ⟨by have := HF1.out.1; omega, HNX.out⟩⟩
end Go.Proofs.Ytekiknngiefkbaa
