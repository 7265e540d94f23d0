/- ShareScales, walked. -/
import Derived.Test.YtekiknngiefkbaaY4
namespace Go.Proofs.Ytekiknngiefkbaa
open Go.Shelf Go.RowKit Go.Lib Go.Sort Go.Proofs

set_option maxHeartbeats 8000000 in
set_option maxRecDepth 100000 in
theorem scales_walk (a : Option Addr) (n cap : Nat) (w : World) (h : AsksIsS w a n) :
    Calls Try.prog 5 #[.slice a n cap] w fun e w' => e = .returned (.bool true) ∧ Below w.heap.size w w' := by
  have mixed : Try.prog.follows .mixedOrders = true := by kernel_rfl
  have HA := Lib.hid h
  clear h
  go_enter Try.func5, Try.ntmps5
  go_wp2
  go_loopg [3] 12 (fun g1 v wr => ∃ i : Nat, v = .int .i64 i ∧ i ≤ 12 ∧ 12 - i ≤ g1 ∧ Hid (Below w.heap.size w wr))
  case atStart => exact ⟨0, rfl, by omega, by omega, Below.refl _ _⟩
  case round =>
    obtain ⟨i, rfl, hi12, hg1, HB⟩ := hrel
    by_cases hin : i < n
    · have hinz : decide ((i : Int) < (n : Int)) = true := decide_eq_true (by omega)
      have hiny : (i : Int) < (n : Int) := by omega
      by_cases hi : i < 12
      · have hiz : decide ((i : Int) < 12) = true := decide_eq_true (by omega)
        have hiy : (i : Int) < 12 := by omega
        obtain ⟨b, off, t, ai, ws, ci, rfl, hask, hlen⟩ := HA.out i hin
        have hw := hask.below HB.out
        obtain ⟨c0, c1, hr⟩ := hw
        have hltb := World.block_lt_of_cell? _ _ hask.1
        simp only at hltb
        have D0 := Lib.hid hask.1
        have hbs := HB.out.size
        have HC := Lib.hid (copy_any ai ws ci wr hr (by omega))
        clear hr hask
        go_wp2_with fail
        refine (HC.out).mono ?_
        rintro e w1 ⟨v4, rfl, ho4, hb1⟩
        obtain ⟨a4, c4, rfl, _, _⟩ := ho4.form
        have HB1 : Hid (Below w.heap.size w w1) := HB.out.trans (hb1.mono hbs)
        have HO4 : Hid (OwnI w1 w.heap.size (.slice a4 ws.length c4) ws) := ho4.mono hbs
        clear HC ho4 hb1 c0 c1 HB
        by_cases hbig : 100 < ws.length
        · have hbz : (100 : Int) < (ws.length : Int) := by omega
          go_wp2
          go_ret
          exact ⟨rfl, HB1.out⟩
        · have hbz : ¬ (100 : Int) < (ws.length : Int) := by omega
          obtain ⟨nn, hnn⟩ : ∃ nn, nn = ws.length := ⟨_, rfl⟩
          rw [← hnn] at hbig hbz HO4 ⊢
          have HNN := Lib.hid hnn
          clear hnn
          have HS0 : Hid (ScI w (.slice a4 nn c4) nn 0 ws w1) := ⟨HNN.out.symm, HO4.out, fun j hj => by omega, HB1.out⟩
          clear HO4 HB1
          go_wp2
          go_loopg [5, 6] nn (fun g1 vs vk wr => ∃ (k : Nat) (ys : List Int), vk = .int .i64 k ∧ vs = .int .i64 (ys.take k).sum ∧ k ≤ nn ∧ nn - k ≤ g1 ∧ Hid (ScI w (.slice a4 nn c4) nn k ys wr))
          case atStart => exact ⟨0, ws, rfl, rfl, Nat.zero_le _, by omega, HS0⟩
          case round =>
            clear HS0
            obtain ⟨k, ys, rfl, rfl, hk, hgk, HI⟩ := hrel
            have hyl := HI.out.1
            obtain ⟨sb0, sb1⟩ := sum_take_bd (ys.take k) 999 (fun i hi => by
              rw [List.length_take] at hi
              have := HI.out.2.2.1 i (by omega)
              rw [List.getD_eq_getElem?_getD, List.getElem?_take, if_pos (by omega), ← List.getD_eq_getElem?_getD]
              exact this) k (by rw [List.length_take]; omega)
            rw [List.take_take, Nat.min_self] at sb0 sb1
            have HYL := Lib.hid hyl
            clear hyl
            by_cases hlt : k < nn
            · have hltz : (k : Int) < (nn : Int) := by omega
              obtain ⟨g, c', e'⟩ := HI.out.2.1.some_ HYL.out (by omega)
              simp only [Value.slice.injEq, true_and] at e'
              obtain ⟨rfl, rfl⟩ := e'
              obtain ⟨c1, f1, hb1, hb2⟩ := HI.out.2.1.cellAt HYL.out k hlt
              have HW := Lib.hid (within_any (ys.getD k 0) 1000 wr (by omega) (by omega))
              clear HYL
              generalize ys.getD k 0 = z at *
              go_wp2_with fail
              refine (HW.out).mono ?_
              rintro e w' ⟨r, hr0, hr1, rfl, rfl⟩
              have hc2 : (wr.setCell ⟨g, k, none⟩ (.int .i64 r)).cell? ⟨g, k, none⟩ = some (.int .i64 r) := World.cell?_setCell_same _ _ _ c1
              have HI2 : Hid (ScI w (.slice (some ⟨g, 0, none⟩) nn c4) nn (k + 1) (ys.set k r) (wr.setCell ⟨g, k, none⟩ (.int .i64 r)) ∧ ((ys.set k r).take (k + 1)).sum = (ys.take k).sum + r) := by
                obtain ⟨q1, q2, q3, q4⟩ := HI.out
                refine ⟨⟨by rw [List.length_set]; exact q1, q2.stored q1 k r, fun j hj => ?_, q4.setCell hb1 _⟩, ?_⟩
                · rw [set_getD _ _ _ _ (by omega)]
                  by_cases e : k = j
                  · rw [if_pos e]; omega
                  · rw [if_neg e]; exact q3 j (by omega)
                · rw [sum_take _ k (by rw [List.length_set]; omega), set_getD _ _ _ _ (by omega), if_pos rfl, List.take_set_of_le (Nat.le_refl _)]
              generalize (ys.take k).sum = s at *
              clear HW HI
              go_wp2
              go_roundg (nn - (k + 1))
              case measure => omega
              case rel => exact ⟨k + 1, ys.set k r, by go_num, by rw [HI2.out.2], by omega, by omega, HI2.out.1⟩
            · have hltz : ¬ (k : Int) < (nn : Int) := by omega
              have hks : (ys.take k).sum = ys.sum := by rw [List.take_of_length_le (by have := HYL.out; omega)]
              rw [hks] at sb0 sb1 ⊢
              have HY : Hid (∀ j, j < ys.length → 0 ≤ ys.getD j 0 ∧ ys.getD j 0 ≤ 999) := fun j hj => HI.out.2.2.1 j (by have := HYL.out; omega)
              have hct : wr.cell? ⟨b, off + i * 2, none⟩ = some (.int .i64 t) := (HI.out.2.2.2.cell (p := ⟨b, off + i * 2, none⟩) hltb).trans D0.out
              have HW := Lib.hid (within_any t 1048576 wr (by omega) (by omega))
              have HO : Hid (OwnI wr w.heap.size (.slice a4 nn c4) ys) := HI.out.2.1
              have HB2 : Hid (Below w.heap.size w wr) := HI.out.2.2.2
              have hbs2 := HB2.out.size
              have hkn : nn ≤ k := by omega
              clear HI hks
              go_wp2_with fail
              refine (HW.out).mono ?_
              rintro e w' ⟨tt, tt0, tt1, rfl, rfl⟩
              clear HW
              have HRW : Hid (RowIs wr a4 ys) := by
                obtain ⟨a', c', e', hr', _⟩ := HO.out.form
                rw [HYL.out] at e'
                simp only [Value.slice.injEq, true_and] at e'
                obtain ⟨rfl, rfl⟩ := e'
                exact hr'
              by_cases hz : ys.sum = 0 ∨ nn = 0
              · have HS := Lib.hid (show Calls Try.prog 7 #[.int .i64 tt, .slice a4 nn c4] wr fun e w' => e = .returned (.tuple #[.slice none 0 0, .int .i64 1]) ∧ wr = w' from by
                  have := split_no a4 ys c4 tt wr HRW.out (by have := HYL.out; omega) (fun h => by have h1 := h.s0; have h2 := h.n0; have := HYL.out; omega)
                  rw [HYL.out] at this
                  exact this)
                have HN := Lib.hid (fun W => num_any 1 W)
                have hzc : (ys.sum == 0) = true ∨ ((ys.sum == 0) = false ∧ ((nn : Int) == 0) = true ∧ (nn == 0) = true) := by
                  by_cases e : ys.sum = 0
                  · left; exact beq_iff_eq.2 e
                  · right
                    have : nn = 0 := by omega
                    exact ⟨beq_eq_false_iff_ne.2 e, beq_iff_eq.2 (by omega), beq_iff_eq.2 this⟩
                clear hz
                go_wp2_with fail
                refine (HS.out).mono ?_
                rintro e w' ⟨rfl, rfl⟩
                rcases hzc with z1 | ⟨z1, z2, z3⟩
                · go_wp2_with fail
                  refine (HN.out _).mono ?_
                  rintro e w' ⟨rfl, rfl⟩
                  go_wp2
                  go_roundg (12 - (i + 1))
                  case measure => omega
                  case rel => exact ⟨i + 1, by go_num, by omega, by omega, HB2⟩
                · go_wp2_with fail
                  refine (HN.out _).mono ?_
                  rintro e w' ⟨rfl, rfl⟩
                  go_wp2
                  go_roundg (12 - (i + 1))
                  case measure => omega
                  case rel => exact ⟨i + 1, by go_num, by omega, by omega, HB2⟩
              · have z1 : (ys.sum == 0) = false := beq_eq_false_iff_ne.2 (by omega)
                have z2 : ((nn : Int) == 0) = false := beq_eq_false_iff_ne.2 (by omega)
                have z3 : (nn == 0) = false := beq_eq_false_iff_ne.2 (by omega)
                have hn0 : 0 < nn := by omega
                have hz1 : ys.sum ≠ 0 := by omega
                have HM := Lib.hid (may_sc (t := tt) tt0 tt1 (by have := HYL.out; omega) (by have := HYL.out; omega) HY.out hz1)
                have HM7 := Lib.hid (may_times HM.out (fun i hi => by have := HY.out i hi; omega))
                have HM5 := Lib.hid (may_sc5 (ys := ys) (by have := HYL.out; omega) (by have := HYL.out; omega) HY.out hz1)
                clear hz hz1 hct
                have HS := Lib.hid (show Calls Try.prog 7 #[.int .i64 tt, .slice a4 nn c4] wr (SplitPost wr tt ys) from by
                  have := split_yes a4 ys c4 tt wr HRW.out HM.out
                  rw [HYL.out] at this
                  exact this)
                go_wp2_with fail
                refine (HS.out).mono ?_
                rintro e w2 ⟨v8, o1, rfl, ho1, ow1, hb2⟩
                obtain ⟨g8, c8, rfl⟩ := ow1.some_ (n := nn) (by rw [splitL_len]; exact HYL.out) hn0
                have HO1 := Lib.hid ho1
                have OW1 := Lib.hid ow1
                have HRW2 : Hid (RowIs w2 a4 ys) := HRW.out.below hb2 (Nat.le_refl _)
                have HB3 : Hid (Below w.heap.size w w2) := HB2.out.trans (hb2.mono hbs2)
                have HCP := Lib.hid (show Calls Try.prog 6 #[.slice a4 nn c4] w2 (CopyPost w2 ys) from by
                  have := copy_any a4 ys c4 w2 HRW2.out (by have := HYL.out; omega)
                  rw [HYL.out] at this
                  exact this)
                clear HS ho1 ow1 hb2 HRW HO
                go_wp2_with fail
                refine (HCP.out).mono ?_
                rintro e w3 ⟨v10, rfl, ow10, hb3⟩
                obtain ⟨g10, c10, rfl⟩ := ow10.some_ (n := nn) HYL.out hn0
                have HT0 : Hid (OwnI w3 w2.heap.size (.slice (some ⟨g10, 0, none⟩) nn c10) (sevenT ys 0) ∧ Below w2.heap.size w2 w3) := ⟨by rw [sevenT_zero]; exact ow10, hb3⟩
                clear HCP ow10 hb3
                go_wp2
                go_loopg [11] nn (fun g1 vk wr => ∃ k : Nat, vk = .int .i64 k ∧ k ≤ nn ∧ nn - k ≤ g1 ∧ Hid (OwnI wr w2.heap.size (.slice (some ⟨g10, 0, none⟩) nn c10) (sevenT ys k) ∧ Below w2.heap.size w2 wr))
                case atStart => exact ⟨0, rfl, Nat.zero_le _, by omega, HT0⟩
                case round =>
                  clear HT0
                  obtain ⟨q, rfl, hq, hgq, HT⟩ := hrel
                  by_cases hqlt : q < nn
                  · have hqz : (q : Int) < (nn : Int) := by omega
                    have hyq := HY.out q (by have := HYL.out; omega)
                    obtain ⟨y0, y1⟩ := hyq
                    obtain ⟨e1, e2⟩ := sevenT_step ys q (by have := HYL.out; omega)
                    obtain ⟨k1, k2, k3, k4⟩ := HT.out.1.cellAt (by rw [sevenT_len]; exact HYL.out) q hqlt
                    rw [e1] at k1
                    have HT2 : Hid (OwnI (wr.setCell ⟨g10, q, none⟩ (.int .i64 (ys.getD q 0 * 7))) w2.heap.size (.slice (some ⟨g10, 0, none⟩) nn c10) (sevenT ys (q + 1)) ∧ Below w2.heap.size w2 (wr.setCell ⟨g10, q, none⟩ (.int .i64 (ys.getD q 0 * 7)))) := by
                      refine ⟨?_, HT.out.2.setCell k3 _⟩
                      have := HT.out.1.stored (by rw [sevenT_len]; exact HYL.out) q (ys.getD q 0 * 7)
                      rw [e2] at this
                      exact this
                    clear e1 e2 HT
                    generalize ys.getD q 0 = z at *
                    go_wp2
                    go_roundg (nn - (q + 1))
                    case measure => omega
                    case rel => exact ⟨q + 1, by go_num, by omega, by omega, HT2⟩
                  · have hqz : ¬ (q : Int) < (nn : Int) := by omega
                    have HT7 : Hid (OwnI wr w2.heap.size (.slice (some ⟨g10, 0, none⟩) nn c10) (times 7 ys)) := by
                      have := HT.out.1
                      rw [sevenT_all ys q (by have := HYL.out; omega)] at this
                      exact this
                    have HBx := Lib.hid HT.out.2
                    have hszx := HT.out.2.size
                    have HS7 := Lib.hid (show Calls Try.prog 7 #[.int .i64 tt, .slice (some ⟨g10, 0, none⟩) nn c10] wr (SplitPost wr tt (times 7 ys)) from by
                      have hl7 : (times 7 ys).length = nn := by rw [times_len]; exact HYL.out
                      have := split_yes (some ⟨g10, 0, none⟩) (times 7 ys) c10 tt wr (fun i hi => ⟨g10, 0, rfl, by rw [Nat.zero_add]; exact (HT7.out.cellAt hl7 i (by omega)).1⟩) HM7.out
                      rw [hl7] at this
                      exact this)
                    clear HT
                    go_wp2_with fail
                    refine (HS7.out).mono ?_
                    rintro e w5 ⟨v12, o2, rfl, ho2, ow12, hb5⟩
                    rw [split_times (by have := HYL.out; omega) HO1.out ho2] at ow12
                    obtain ⟨g12, c12, rfl⟩ := ow12.some_ (n := nn) (by rw [splitL_len]; exact HYL.out) hn0
                    have OW12 := Lib.hid ow12
                    have HB5 : Hid (Below w2.heap.size w2 w5) := HBx.out.trans (hb5.mono hszx)
                    have hsz5 := HB5.out.size
                    have HRW5 : Hid (RowIs w5 a4 ys) := HRW2.out.below HB5.out (Nat.le_refl _)
                    have HS5 := Lib.hid (show Calls Try.prog 7 #[.int .i64 (ys.sum * 5), .slice a4 nn c4] w5 (SplitPost w5 (ys.sum * 5) ys) from by
                      have := split_yes a4 ys c4 (ys.sum * 5) w5 HRW5.out HM5.out
                      rw [HYL.out] at this
                      exact this)
                    clear HS7 ho2 ow12 hb5 HT7 HBx
                    go_wp2_with fail
                    refine (HS5.out).mono ?_
                    rintro e w6 ⟨v14, o3, rfl, ho3, ow14, hb6⟩
                    obtain ⟨g14, c14, rfl⟩ := ow14.some_ (n := nn) (by rw [splitL_len]; exact HYL.out) hn0
                    have OC14 : Hid (∀ j, j < nn → w6.cell? ⟨g14, j, none⟩ = some (.int .i64 (5 * ys.getD j 0))) := fun j hj => by
                      have := (ow14.cellAt (by rw [splitL_len]; exact HYL.out) j hj).1
                      rw [split_even HM5.out j (by have := HYL.out; omega)] at this
                      exact this
                    have HB6 : Hid (Below w2.heap.size w2 w6) := HB5.out.trans (hb6.mono hsz5)
                    have HRW6 : Hid (RowIs w6 a4 ys) := HRW2.out.below HB6.out (Nat.le_refl _)
                    have R8 : Hid (RowIs w6 (some ⟨g8, 0, none⟩) (splitL tt ys o1)) := by
                      have h1 : RowIs w2 (some ⟨g8, 0, none⟩) (splitL tt ys o1) := fun i hi => ⟨g8, 0, rfl, by rw [Nat.zero_add]; exact (OW1.out.cellAt (by rw [splitL_len]; exact HYL.out) i (by rw [splitL_len] at hi; have := HYL.out; omega)).1⟩
                      exact h1.below HB6.out (Nat.le_refl _)
                    have R12 : Hid (RowIs w6 (some ⟨g12, 0, none⟩) (splitL tt ys o1)) := by
                      have h1 : RowIs w5 (some ⟨g12, 0, none⟩) (splitL tt ys o1) := fun i hi => ⟨g12, 0, rfl, by rw [Nat.zero_add]; exact (OW12.out.cellAt (by rw [splitL_len]; exact HYL.out) i (by rw [splitL_len] at hi; have := HYL.out; omega)).1⟩
                      exact h1.below hb6 (Nat.le_refl _)
                    have HEQ := Lib.hid (show Calls Try.prog 10 #[.slice (some ⟨g8, 0, none⟩) nn c8, .slice (some ⟨g12, 0, none⟩) nn c12] w6 (EqPost w6) from by
                      have := eq_yes (some ⟨g8, 0, none⟩) (some ⟨g12, 0, none⟩) (splitL tt ys o1) c8 c12 w6 R8.out R12.out (by rw [splitL_len]; have := HYL.out; omega)
                      rw [splitL_len, HYL.out] at this
                      exact this)
                    have HN := Lib.hid (fun W => num_any 0 W)
                    have HB7 : Hid (Below w.heap.size w w6) := HB3.out.trans (HB6.out.mono HB3.out.size)
                    clear HS5 ho3 ow14 hb6 R8 R12 OW12 OW1 HB5 HRW5 HRW2 HB6
                    go_wp2_with fail
                    refine (HN.out _).mono ?_
                    rintro e w' ⟨rfl, rfl⟩
                    go_wp2_with fail
                    refine (HN.out _).mono ?_
                    rintro e w' ⟨rfl, rfl⟩
                    go_wp2_with fail
                    refine (HN.out _).mono ?_
                    rintro e w' ⟨rfl, rfl⟩
                    go_wp2_with fail
                    refine (HEQ.out).mono ?_
                    rintro e w7 ⟨rfl, m7, rfl⟩
                    clear HEQ
                    go_wp2
                    go_loopg [16] nn (fun g1 vk wr => ∃ k nd : Nat, vk = .int .i64 k ∧ k ≤ nn ∧ nn - k ≤ g1 ∧ Hid (wr = w6.drewN nd))
                    case atStart => exact ⟨0, _, rfl, Nat.zero_le _, by omega, rfl⟩
                    case round =>
                      obtain ⟨r, nd, rfl, hr, hgr, HV⟩ := hrel
                      have hv := HV.out
                      subst hv
                      clear HV
                      by_cases hrlt : r < nn
                      · have hrz : (r : Int) < (nn : Int) := by omega
                        obtain ⟨y0, y1⟩ := HY.out r (by have := HYL.out; omega)
                        obtain ⟨b4, o4, rfl, hc4⟩ := HRW6.out r (by have := HYL.out; omega)
                        have hc14 := OC14.out r hrlt
                        generalize ys.getD r 0 = z at *
                        have hwz : IntKind.i64.wrap (5 * z) = 5 * z := by rw [IntKind.wrap_i64]; omega
                        have hzz : (5 * z != 5 * z) = false := by simp
                        go_wp2_with fail
                        go_quiet (fail)
                        go_wp2
                        go_roundg (nn - (r + 1))
                        case measure => omega
                        case rel => exact ⟨r + 1, _, by go_num, by omega, by omega, rfl⟩
                      · have hrz : ¬ (r : Int) < (nn : Int) := by omega
                        go_wp2
                        go_roundg (12 - (i + 1))
                        case measure => omega
                        case rel => exact ⟨i + 1, by go_num, by omega, by omega, below_drewN HB7.out _⟩
      · have hiz : decide ((i : Int) < 12) = false := decide_eq_false (by omega)
        have hiy : ¬ (i : Int) < 12 := by omega
        have HW := Lib.hid (wakes_any wr)
        go_wp2_with fail
        refine (HW.out).mono ?_
        rintro e w1 ⟨rfl, hb1⟩
        have HZ : Hid (Below w.heap.size w w1) := HB.out.trans (hb1.mono HB.out.size)
        clear hb1 HW
        go_wp2
        go_ret
        exact ⟨rfl, HZ.out⟩
    · have hinz : decide ((i : Int) < (n : Int)) = false := decide_eq_false (by omega)
      have hiny : ¬ (i : Int) < (n : Int) := by omega
      have HW := Lib.hid (wakes_any wr)
      go_wp2_with fail
      refine (HW.out).mono ?_
      rintro e w1 ⟨rfl, hb1⟩
      have HZ : Hid (Below w.heap.size w w1) := HB.out.trans (hb1.mono HB.out.size)
      clear hb1 HW
      go_wp2
      go_ret
      exact ⟨rfl, HZ.out⟩
end Go.Proofs.Ytekiknngiefkbaa
