/- The walk of HaveLacks. -/
import Derived.Test.YtponpbcchfbkpaaH8
namespace Go.Proofs.Ytponpbcchfbkpaa
open Go.RowKit Go.Lib
set_option linter.unusedVariables false

set_option maxHeartbeats 8000000 in
set_option maxRecDepth 100000 in
theorem haveLacks_walk (a : Option Addr) (n cap : Nat) (w : World) (h : AsksIs w a n) :
    Calls Try.prog 6 #[.slice a n cap] w (BoolPost w true) := by
  have mixed : Try.prog.follows .mixedOrders = true := by kernel_rfl
  have HA := Lib.hid h
  clear h
  go_enter Try.func6, Try.ntmps6
  go_wp2
  go_loopg [3] 15 (fun g1 v wr => ∃ i : Nat, v = .int .i64 i ∧ i ≤ 15 ∧ 15 - i ≤ g1 ∧ Hid (Below w.heap.size w wr))
  case atStart => exact ⟨0, rfl, by omega, by omega, Below.refl _ _⟩
  case round =>
    obtain ⟨i, rfl, hi15, hg1, HB⟩ := hrel
    by_cases hin : i < n
    · have hinz : decide ((i : Int) < (n : Int)) = true := decide_eq_true (by omega)
      have hiny : (i : Int) < (n : Int) := by omega
      by_cases hi : i < 15
      · have hiz : decide ((i : Int) < 15) = true := decide_eq_true (by omega)
        have hiy : (i : Int) < 15 := by omega
        obtain ⟨b, off, al, ls, cl, am, ms, cm, ax, xs, cx, rfl, hask, hrows, hsize⟩ := HA.out i hin
        have hask2 := hask.below HB.out hask.lt
        have HR0 := Lib.hid (hrows.below HB.out)
        obtain ⟨nl, hnl⟩ : ∃ k, k = ls.length := ⟨_, rfl⟩
        obtain ⟨nm, hnm⟩ : ∃ k, k = ms.length := ⟨_, rfl⟩
        obtain ⟨nx, hnx⟩ : ∃ k, k = xs.length := ⟨_, rfl⟩
        rw [← hnl, ← hnm, ← hnx] at hask2
        obtain ⟨q0, q1, q2⟩ := hask2
        have HV := Lib.hid (heavy_any al am ax nl cl nm cm nx cx (wr.alloc (.cells #[.slice al nl cl, .slice am nm cm, .slice ax nx cx] 26)) (by have := hsize.ll; omega) (by have := hsize.ml; omega))
        have HSZ := Lib.hid hsize
        have HNL := Lib.hid hnl
        have HNM := Lib.hid hnm
        have HNX := Lib.hid hnx
        clear hask hrows hsize hnl hnm hnx
        have HNUM := Lib.hid (fun W => num_any 0 W)
        cases hhv : heavy7 nl nm nx
        · rw [hhv] at HV
          have hlm : nl + nm ≤ 2000 := by simp [heavy7] at hhv; omega
          have hnx3 : nx ≤ 3000 := by simp [heavy7] at hhv; omega
          clear hhv
          go_wp2_with fail
          refine (HV.out).mono ?_
          rintro e w1 ⟨rfl, hb⟩
          have HP : Hid (PS w w1 wr.heap.size al nl cl ls am nm cm ms ax nx cx xs) := PS.new HB.out HR0.out hb
          clear hb HV HR0 HB q0 q1 q2
          generalize wr.heap.size = gp at *
          obtain ⟨p0, p1, p2⟩ := HP.out.ask
          have CP := Lib.hid (refPair_any al am ls ms nl cl nm cm w1 HP.out.rows.rl HP.out.rows.rm HNL.out HNM.out (by have := HNL.out; omega) (by have := HNM.out; omega))
          cases hp : pairB ls ms
          · rw [hp] at CP
            clear hp
            go_wp2_with fail
            refine (CP.out).mono ?_
            rintro e w' ⟨rfl, rfl⟩
            go_wp2
            go_roundg (15 - (i + 1))
            case measure => omega
            case rel => exact ⟨i + 1, by go_num, by omega, by omega, HP.out.bel⟩
          · rw [hp] at CP
            have HPB := Lib.hid hp
            obtain ⟨hpl, hp1, hp16⟩ := pairB_len hp
            have hnmn : nm = nl := by have := HNL.out; have := HNM.out; omega
            subst hnmn
            have hn16 : nm ≤ 16 := by have := HNM.out; omega
            have HPL := Lib.hid hpl
            clear hp hpl hp1 hp16
            go_wp2_with fail
            refine (CP.out).mono ?_
            rintro e w' ⟨rfl, rfl⟩
            clear CP
            have C := Lib.hid (lacks_yes al am ls ms nm cl nm cm w1 HP.out.rows.rl HP.out.rows.rm HNL.out HNM.out HPB.out)
            go_wp2_with fail
            refine (C.out).mono ?_
            rintro e w2 ⟨v, rfl, ho, hb⟩
            obtain ⟨a5, c5, rfl, hr, hcc5⟩ := ho.at (n := nm) (by rw [lackL_len HPL.out]; exact HNL.out.symm)
            have HR5 := Lib.hid hr
            clear C ho hr
            clear p0 p1 p2
            replace HP : Hid (PS w w2 gp al nm cl ls am nm cm ms ax nx cx xs) := HP.out.below hb
            clear hb
            obtain ⟨p0, p1, p2⟩ := HP.out.ask
            have C := Lib.hid (join_yes al am ls ms nm cl nm cm w2 HP.out.rows.rl HP.out.rows.rm HNL.out HNM.out HPB.out)
            go_wp2_with fail
            refine (C.out).mono ?_
            rintro e w3 ⟨v, rfl, ho, hb⟩
            obtain ⟨a7, c7, rfl, hr, hcc7⟩ := ho.at (n := nm) (by rw [joinL_len HPL.out]; exact HNL.out.symm)
            have HR7 := Lib.hid hr
            clear C ho hr
            clear p0 p1 p2
            replace HP : Hid (PS w w3 gp al nm cl ls am nm cm ms ax nx cx xs) := HP.out.below hb
            replace HR5 : Hid (RowK .i64 w3 a5 (lackL ls ms)) := HR5.out.below hb (Nat.le_refl _)
            clear hb
            obtain ⟨p0, p1, p2⟩ := HP.out.ask
            go_wp2_with fail
            refine (HNUM.out _).mono ?_
            rintro e w' ⟨rfl, rfl⟩
            go_wp2_with fail
            refine (HNUM.out _).mono ?_
            rintro e w' ⟨rfl, rfl⟩
            have C := Lib.hid (lacks_yes a7 am (joinL ls ms) ms nm c7 nm cm w3 HR7.out HP.out.rows.rm (by rw [joinL_len HPL.out]; exact HNL.out) HNM.out (pairB_join HPB.out).2)
            go_wp2_with fail
            refine (C.out).mono ?_
            rintro e w4 ⟨v, rfl, ho, hb⟩
            obtain ⟨a9, c9, rfl, hr, hcc9⟩ := ho.at (n := nm) (by rw [lackL_len (by rw [joinL_len HPL.out, HPL.out]), joinL_len HPL.out]; exact HNL.out.symm)
            have HR9 := Lib.hid hr
            clear C ho hr
            clear p0 p1 p2
            replace HP : Hid (PS w w4 gp al nm cl ls am nm cm ms ax nx cx xs) := HP.out.below hb
            replace HR5 : Hid (RowK .i64 w4 a5 (lackL ls ms)) := HR5.out.below hb (Nat.le_refl _)
            replace HR7 : Hid (RowK .i64 w4 a7 (joinL ls ms)) := HR7.out.below hb (Nat.le_refl _)
            clear hb
            obtain ⟨p0, p1, p2⟩ := HP.out.ask
            obtain ⟨cb, hcb⟩ : ∃ b, b = coversB ls ms := ⟨_, rfl⟩
            have C := Lib.hid (covers_yes al am ls ms nm cl nm cm w4 HP.out.rows.rl HP.out.rows.rm HNL.out HNM.out HPB.out)
            rw [← hcb] at C
            have HCB := Lib.hid hcb
            clear hcb
            go_wp2_with fail
            refine (C.out).mono ?_
            rintro e w5 ⟨rfl, hb⟩
            clear C
            clear p0 p1 p2
            replace HP : Hid (PS w w5 gp al nm cl ls am nm cm ms ax nx cx xs) := HP.out.below hb
            replace HR5 : Hid (RowK .i64 w5 a5 (lackL ls ms)) := HR5.out.below hb (Nat.le_refl _)
            replace HR7 : Hid (RowK .i64 w5 a7 (joinL ls ms)) := HR7.out.below hb (Nat.le_refl _)
            replace HR9 : Hid (RowK .i64 w5 a9 (lackL (joinL ls ms) ms)) := HR9.out.below hb (Nat.le_refl _)
            clear hb
            obtain ⟨p0, p1, p2⟩ := HP.out.ask
            have HNL5 : Hid ((lackL ls ms).length = nm) := by rw [lackL_len HPL.out]; exact HNL.out.symm
            go_wp2_with fail
            go_loop [13, 14] (fun v k => ∃ q : Nat, q ≤ nm ∧ k = .int .i64 q ∧ v = .bool (zeroB ((lackL ls ms).take q))) (fun _ k => nm - (intOf k).toNat)
            case atStart => exact ⟨0, Nat.zero_le _, rfl, rfl⟩
            case round =>
              obtain ⟨q, hq, rfl, rfl⟩ := hrel
              by_cases hlt : q < nm
              · obtain ⟨b5, o5, rfl, hc⟩ := HR5.out q (by have := HNL5.out; omega)
                have hltz : (q : Int) < (nm : Int) := by omega
                have HT := Lib.hid (zeroB_take (lackL ls ms) q (by have := HNL5.out; omega))
                generalize (lackL ls ms).getD q 0 = z at *
                generalize zeroB ((lackL ls ms).take q) = bq at *
                cases bq
                · go_wp2
                  go_round
                  case rel => exact ⟨q + 1, by omega, by go_num, by rw [HT.out]; rfl⟩
                  case measure => simp [intOf]; omega
                · go_wp2
                  go_round
                  case rel => exact ⟨q + 1, by omega, by go_num, by rw [HT.out]; rfl⟩
                  case measure => simp [intOf]; omega
              · have hltz : ¬ (q : Int) < (nm : Int) := by omega
                have HZ : Hid (zeroB ((lackL ls ms).take q) = cb) := by
                  show _ = cb
                  rw [List.take_of_length_le (by have := HNL5.out; omega), zeroB_covers HPB.out, HCB.out]
                generalize zeroB ((lackL ls ms).take q) = bq at *
                have hbq := HZ.out
                subst hbq
                clear HZ
                have HS0 := Lib.hid (join_sum ls ms HPL.out)
                have C := Lib.hid (count_yes al ls nm cl w5 HP.out.rows.rl HNL.out HSZ.out.lc ((pairB_iff ls ms).1 HPB.out).1)
                have C2 := Lib.hid (count_yes a7 (joinL ls ms) nm c7 w5 HR7.out (by rw [joinL_len HPL.out]; exact HNL.out) (by rw [joinL_len HPL.out, ← HNL.out]; exact hcc7) (joinL_vec HPB.out))
                rw [HS0.out] at C2
                obtain ⟨hs0, hs1⟩ := sum_vec_bd ((pairB_iff ls ms).1 HPB.out).1
                obtain ⟨s1, hs1e⟩ : ∃ s, s = ls.sum := ⟨_, rfl⟩
                obtain ⟨s2, hs2e⟩ : ∃ s, s = (lackL ls ms).sum := ⟨_, rfl⟩
                obtain ⟨hs2, hs3⟩ := sum_vec_bd (lackL_vec HPB.out)
                rw [← hs1e] at C C2 hs0 hs1
                rw [← hs2e] at C2 hs2 hs3
                have HS2 := Lib.hid hs2e
                clear hs1e hs2e HS0
                go_wp2_with fail
                refine (C.out).mono ?_
                rintro e w' ⟨rfl, rfl⟩
                go_wp2_with fail
                refine (C2.out).mono ?_
                rintro e w' ⟨rfl, rfl⟩
                clear C C2
                go_wp2_with fail
                go_loop [19, 20] (fun v k => ∃ j : Nat, j ≤ nm ∧ k = .int .i64 j ∧ v = .int .i64 ((lackL ls ms).take j).sum) (fun _ k => nm - (intOf k).toNat)
                case atStart => exact ⟨0, Nat.zero_le _, rfl, rfl⟩
                case round =>
                  obtain ⟨j, hj, rfl, rfl⟩ := hrel
                  obtain ⟨ht0, ht1⟩ := sum_take_bd (lackL_vec HPB.out) j
                  by_cases hlt2 : j < nm
                  · obtain ⟨b5, o5, rfl, hc⟩ := HR5.out j (by have := HNL5.out; omega)
                    obtain ⟨b9, o9, rfl, hc9⟩ := HR9.out j (by rw [lackL_len (by rw [joinL_len HPL.out, HPL.out]), joinL_len HPL.out, ← HNL.out]; exact hlt2)
                    rw [lack_join HPL.out (by have := HNL.out; omega)] at hc9
                    have hltz2 : (j : Int) < (nm : Int) := by omega
                    have HT := Lib.hid (sum_take (lackL ls ms) j (by have := HNL5.out; omega))
                    obtain ⟨hz0, hz1⟩ := vecB_at (lackL_vec HPB.out) (k := j) (by have := HNL5.out; omega)
                    generalize (lackL ls ms).getD j 0 = z at *
                    generalize ((lackL ls ms).take j).sum = sj at *
                    go_wp2
                    go_round
                    case rel => exact ⟨j + 1, by omega, by go_num, by rw [HT.out]⟩
                    case measure => simp [intOf]; omega
                  · have hltz2 : ¬ (j : Int) < (nm : Int) := by omega
                    have HZ : Hid (((lackL ls ms).take j).sum = s2) := by
                      show _ = s2
                      rw [List.take_of_length_le (by have := HNL5.out; omega), HS2.out]
                    generalize ((lackL ls ms).take j).sum = sj at *
                    have hsj := HZ.out
                    subst hsj
                    clear HZ
                    have hne : (s1 + sj != s1 + sj) = false := by simp
                    have hne2 : (bq != bq) = false := by simp
                    go_wp2_with fail
                    refine (HNUM.out _).mono ?_
                    rintro e w' ⟨rfl, rfl⟩
                    go_wp2_with fail
                    refine (HNUM.out _).mono ?_
                    rintro e w' ⟨rfl, rfl⟩
                    go_wp2_with fail
                    refine (HNUM.out _).mono ?_
                    rintro e w' ⟨rfl, rfl⟩
                    go_wp2_with fail
                    refine (HNUM.out _).mono ?_
                    rintro e w' ⟨rfl, rfl⟩
                    go_wp2
                    go_roundg (15 - (i + 1))
                    case measure => omega
                    case rel => exact ⟨i + 1, by go_num, by omega, by omega, HP.out.bel⟩
        · rw [hhv] at HV
          clear hhv
          go_wp2_with fail
          refine (HV.out).mono ?_
          rintro e w1 ⟨rfl, hb⟩
          have HP : Hid (PS w w1 wr.heap.size al nl cl ls am nm cm ms ax nx cx xs) := PS.new HB.out HR0.out hb
          clear hb HV HR0 HB q0 q1 q2
          generalize wr.heap.size = gp at *
          obtain ⟨p0, p1, p2⟩ := HP.out.ask
          go_wp2
          go_roundg (15 - (i + 1))
          case measure => omega
          case rel => exact ⟨i + 1, by go_num, by omega, by omega, HP.out.bel⟩
      · have hiz : decide ((i : Int) < 15) = false := decide_eq_false (by omega)
        have hiy : ¬ (i : Int) < 15 := by omega
        have HW := Lib.hid (wakes_any wr)
        go_wp2_with fail
        refine (HW.out).mono ?_
        rintro e w1 ⟨rfl, hb1⟩
        have HZ : Hid (Below w.heap.size w w1) := HB.out.trans (hb1.mono HB.out.size)
        clear hb1 HW
        go_wp2
        go_ret
        exact ⟨rfl, HZ.out⟩
    · have hinz : decide ((i : Int) < (n : Int)) = false := decide_eq_false (by omega)
      have hiny : ¬ (i : Int) < (n : Int) := by omega
      have HW := Lib.hid (wakes_any wr)
      go_wp2_with fail
      refine (HW.out).mono ?_
      rintro e w1 ⟨rfl, hb1⟩
      have HZ : Hid (Below w.heap.size w w1) := HB.out.trans (hb1.mono HB.out.size)
      clear hb1 HW
      go_wp2
      go_ret
      exact ⟨rfl, HZ.out⟩
end Go.Proofs.Ytponpbcchfbkpaa
