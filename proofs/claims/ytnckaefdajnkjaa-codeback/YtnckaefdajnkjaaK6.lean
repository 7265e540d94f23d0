/- The walk of CodeBack. -/
import Derived.Test.YtnckaefdajnkjaaK5
namespace Go.Proofs.Ytnckaefdajnkjaa
open Go.RowKit Go.Lib
set_option linter.unusedVariables false

set_option maxHeartbeats 8000000 in
set_option maxRecDepth 100000 in
theorem codeBack_walk (a : Option Addr) (n cap : Nat) (w : World) (h : AsksIs w a n) :
    Calls Try.prog 5 #[.slice a n cap] w (BoolPost w true) := by
  have mixed : Try.prog.follows .mixedOrders = true := by kernel_rfl
  have HA := Lib.hid h
  clear h
  go_enter Try.func5, Try.ntmps5
  go_wp2
  go_loopg [3] 20 (fun g1 v wr => ∃ i : Nat, v = .int .i64 i ∧ i ≤ 20 ∧ 20 - i ≤ g1 ∧ Hid (Below w.heap.size w wr))
  case atStart => exact ⟨0, rfl, by omega, by omega, Below.refl _ _⟩
  case round =>
    obtain ⟨i, rfl, hi20, hg1, HB⟩ := hrel
    by_cases hin : i < n
    · have hinz : decide ((i : Int) < (n : Int)) = true := decide_eq_true (by omega)
      have hiny : (i : Int) < (n : Int) := by omega
      by_cases hi : i < 20
      · have hiz : decide ((i : Int) < 20) = true := decide_eq_true (by omega)
        have hiy : (i : Int) < 20 := by omega
        obtain ⟨b, off, Nn, s, al, ls, cl, ax, xs, cx, rfl, hask, hrl, hrx, hbx, hcx⟩ := HA.out i hin
        obtain ⟨q0, q1, q2, q3⟩ := hask.below HB.out hask.lt
        have hsz0 := HB.out.size
        have HRL0 : Hid (RowK .i64 wr al ls) := hrl.below HB.out (Nat.le_refl _)
        have HRX0 : Hid (RowK .u8 wr ax xs) := hrx.below HB.out (Nat.le_refl _)
        have HBX := Lib.hid hbx
        have HV := Lib.hid (heavy_any Nn s al ax ls.length cl xs.length cx (wr.alloc (.cells #[.int .i64 Nn, .string s, .slice al ls.length cl, .slice ax xs.length cx] 26)))
        clear hask hrl hrx hbx
        cases hhv : heavyB s.size ls.length xs.length
        · rw [hhv] at HV
          have hxl : xs.length ≤ 3000 := by simp [heavyB] at hhv; omega
          clear hhv
          by_cases hs3 : 300 < s.size
          · have hs3d : decide ((300 : Int) < (s.size : Int)) = true := decide_eq_true (by omega)
            have hs3y : (300 : Int) < (s.size : Int) := by omega
            go_wp2_with fail
            refine (HV.out).mono ?_
            rintro e w1 ⟨rfl, hb1⟩
            have HZ : Hid (Below w.heap.size w w1) := (HB.out.alloc hsz0 _).trans (hb1.mono (by simp; omega))
            have g0 := ((ask_new5 wr Nn s al ax ls.length cl xs.length cx).below hb1 (by simp))
            obtain ⟨p0, p1, p2, p3⟩ := g0
            clear hb1 HV
            go_wp2
            go_ret
            exact ⟨rfl, HZ.out⟩
          · have hs3d : decide ((300 : Int) < (s.size : Int)) = false := decide_eq_false (by omega)
            have hs3y : ¬ (300 : Int) < (s.size : Int) := by omega
            by_cases hl5 : 50 < ls.length
            · have hl5d : decide ((50 : Int) < (ls.length : Int)) = true := decide_eq_true (by omega)
              have hl5y : (50 : Int) < (ls.length : Int) := by omega
              go_wp2_with fail
              refine (HV.out).mono ?_
              rintro e w1 ⟨rfl, hb1⟩
              have HZ : Hid (Below w.heap.size w w1) := (HB.out.alloc hsz0 _).trans (hb1.mono (by simp; omega))
              have g0 := ((ask_new5 wr Nn s al ax ls.length cl xs.length cx).below hb1 (by simp))
              obtain ⟨p0, p1, p2, p3⟩ := g0
              clear hb1 HV
              go_wp2
              go_ret
              exact ⟨rfl, HZ.out⟩
            · have hl5d : decide ((50 : Int) < (ls.length : Int)) = false := decide_eq_false (by omega)
              have hl5y : ¬ (50 : Int) < (ls.length : Int) := by omega
              go_wp2_with fail
              refine (HV.out).mono ?_
              rintro e w1 ⟨rfl, hb1⟩
              have HS1 : Hid (BS w w1 wr.heap.size Nn s al ls cl ax xs cx) := ⟨(ask_new5 wr Nn s al ax ls.length cl xs.length cx).below hb1 (by simp), (HRL0.out.alloc _).below hb1 (Nat.le_refl _), (HRX0.out.alloc _).below hb1 (Nat.le_refl _), (HB.out.alloc hsz0 _).trans (hb1.mono (by simp; omega))⟩
              clear hb1 HV HRL0 HRX0 HB q0 q1 q2 q3 hsz0
              generalize wr.heap.size = gp at *
              obtain ⟨p0, p1, p2, p3⟩ := HS1.out.ask
              have H1 := Lib.hid (num_both Nn w1)
              obtain ⟨t0, ht0⟩ : ∃ t, t = errC (numB Nn) := ⟨_, rfl⟩
              rw [← ht0] at H1
              have HT0 := Lib.hid ht0
              clear ht0
              go_wp2_with fail
              refine (H1.out).mono ?_
              rintro e w2 ⟨v5, rfl, ho5, hb2⟩
              obtain ⟨a5, c5, rfl, hr5, _, _⟩ := ho5.form
              have HS2 := Lib.hid (HS1.out.below hb2)
              have HR5 := Lib.hid hr5
              clear ho5 hb2 hr5 H1 HS1 p0 p1 p2 p3
              have hl5' := numE_len Nn
              obtain ⟨nx, hnx⟩ : ∃ k, k = xs.length := ⟨_, rfl⟩
              have hnx3 : nx ≤ 3000 := by omega
              have HNX := Lib.hid hnx
              obtain ⟨l5, hl5e⟩ : ∃ k, k = (numE Nn).length := ⟨_, rfl⟩
              have HL5 := Lib.hid hl5e
              rw [← hl5e]
              have hl59 : l5 ≤ 9 := by omega
              clear hnx hl5e
              have q3 : w2.drew.cell? ⟨gp, 3, none⟩ = some (.slice ax nx cx) := by rw [HNX.out]; exact HS2.out.ask.c3
              have k3 : w2.cell? ⟨gp, 3, none⟩ = some (.slice ax nx cx) := q3
              go_upto_region 8 with fail
              go_region_held3 (fun w' => w'.cell? ⟨gp, 3, none⟩ = some (.slice ax nx cx)) (assumption) (first
                | (go_at_call 20
                   refine (copyB_any a5 (numE Nn) l5 c5 _ (by exact HR5.out) HL5.out (by omega)).mono ?_
                   rintro e w3 ⟨v3, rfl, ho3, hb3⟩
                   have HO3 := Lib.hid ho3
                   have HB3 := Lib.hid hb3
                   have HS3 := Lib.hid (BS.below (W := w2.drew) HS2.out.drew hb3)
                   have r3 : w3.cell? ⟨gp, 3, none⟩ = some (.slice ax nx cx) := by rw [HNX.out]; exact HS3.out.ask.c3
                   clear ho3 hb3)
                | (refine stepB_row (by rfl) _ _ (by rfl) w2.drew.heap.size w3 v3 (numE Nn) xs ax nx cx HNX.out (by rfl) HO3.out (by rfl) HS3.out.rx (by omega) HB3.out.size ?_
                   intro v4 w4 hp4
                   obtain ⟨ho4, hb4⟩ := glued HO3.out HB3.out hp4
                   obtain ⟨a4, l4, c4, rfl, hl4, hr4, hc4⟩ := ho4.form'
                   have HR4 := Lib.hid hr4
                   have HL4 := Lib.hid hl4
                   have HC4 := Lib.hid hc4
                   have HS4 := Lib.hid (BS.below (W := w2.drew) HS2.out.drew hb4)
                   have HBL4 : Hid (Below w2.heap.size w2 w4) := ⟨hb4.os, hb4.tape, hb4.output, hb4.size, hb4.block⟩
                   have s3 : w4.cell? ⟨gp, 3, none⟩ = some (.slice ax nx cx) := by rw [HNX.out]; exact HS4.out.ask.c3
                   clear ho4 hb4 hp4 hr4 hl4 hc4)
                | (go_at_call 21
                   refine (takeNum_n a4 (numE Nn ++ xs) l4 c4 _ HL4.out (by exact HR4.out) ((numE_isB _).app HBX.out)).mono ?_
                   rintro e w' ⟨rfl, rfl⟩))
              have HTK : Hid (numB Nn = true → tkN (numE Nn ++ xs) = (Nn, l5, 0)) := by
                intro hb
                have h2 := hb
                simp only [numB, decide_eq_true_eq] at h2
                have h3 := tkN_enc (n := Nn.toNat) (by omega) xs
                have h4 : numE Nn = enc Nn.toNat := by unfold numE; rw [hb]; rfl
                rw [HL5.out, h4, h3, show ((Nn.toNat : Nat) : Int) = Nn by omega]
              clear HR4 HL4 HC4 HO3 HB3 HS3 HR5 r3 s3 q3 k3 HS2
              generalize tkN (numE Nn ++ xs) = R at *
              obtain ⟨T1, T2, T3⟩ := R
              have p0 : w4.cell? ⟨gp, 0, none⟩ = some (.int .i64 Nn) := HS4.out.ask.c0
              go_upto_region 9 with fail
              go_cut [83] from 20 to 200 (fun v wc => v = .bool false ∧ Hid (w4 = wc))
              case first =>
                cases hbo : numB Nn
                · have hb1 : (t0 == 0) = false := by have h' := HT0.out; rw [hbo] at h'; rw [h']; rfl
                  go_wp2_with fail
                  refine (num_any _ _).mono ?_
                  rintro e w' ⟨rfl, rfl⟩
                  go_wp2
                  go_meet
                  case rel => exact ⟨rfl, rfl⟩
                · have hb1 : (t0 == 0) = true := by have h' := HT0.out; rw [hbo] at h'; rw [h']; rfl
                  have hR := HTK.out hbo
                  simp only [Prod.mk.injEq] at hR
                  have hb2 : (T3 != 0) = false := by rw [hR.2.2]; rfl
                  have hb3 : (T1 != Nn) = false := by rw [hR.1]; simp
                  have hb4 : ((T2 : Int) != (l5 : Int)) = false := by rw [hR.2.1]; simp
                  clear hR
                  go_wp2_with fail
                  refine (num_any _ _).mono ?_
                  rintro e w' ⟨rfl, rfl⟩
                  go_wp2_with fail
                  refine (num_any _ _).mono ?_
                  rintro e w' ⟨rfl, rfl⟩
                  go_wp2
                  go_meet
                  case rel => exact ⟨rfl, rfl⟩
              case rest =>
                obtain ⟨rfl, HWC⟩ := hcut
                have hwc := HWC.out
                subst hwc
                clear HWC HTK HT0 p0
                have p1 : w4.cell? ⟨gp, 1, none⟩ = some (.string s) := HS4.out.ask.c1
                have H1 := Lib.hid (text_yes s w4 (by omega))
                go_wp2_with fail
                refine (H1.out).mono ?_
                rintro e w5 ⟨v10, rfl, ho5, hb5⟩
                obtain ⟨a10, l10, c10, rfl, hl10, hr10, hc10⟩ := ho5.form'
                have HS5 := Lib.hid (HS4.out.below hb5)
                have HR10 := Lib.hid hr10
                have HL10 := Lib.hid hl10
                have HBT : Hid ((enc s.size ++ strN s).length ≤ 309) := by
                  have := enc_len9 (n := s.size) (by omega)
                  show _ ≤ 309
                  rw [List.length_append, strN_len]
                  omega
                have hl10b : l10 ≤ 309 := by have := HBT.out; omega
                have hc10b : l10 ≤ c10 := by omega
                clear ho5 hb5 hr10 hl10 hc10 H1 HS4 p1
                have HTX : Hid (tkS (enc s.size ++ strN s ++ xs) = (s, l10, 0)) := by show _ = _; rw [HL10.out]; exact tkS_enc s (by omega) xs
                have q3 : w5.drew.cell? ⟨gp, 3, none⟩ = some (.slice ax nx cx) := by rw [HNX.out]; exact HS5.out.ask.c3
                have k3 : w5.cell? ⟨gp, 3, none⟩ = some (.slice ax nx cx) := q3
                go_upto_region 12 with fail
                go_region_held3 (fun w' => w'.cell? ⟨gp, 3, none⟩ = some (.slice ax nx cx)) (assumption) (first
                  | (go_at_call 20
                     refine (copyB_any a10 (enc s.size ++ strN s) l10 c10 _ (by exact HR10.out) HL10.out (by have h1 := HBT.out; have h2 := HNX.out; omega)).mono ?_
                     rintro e w6 ⟨v6, rfl, ho3, hb3⟩
                     have HO3 := Lib.hid ho3
                     have HB3 := Lib.hid hb3
                     have HS3 := Lib.hid (BS.below (W := w5.drew) HS5.out.drew hb3)
                     have r3 : w6.cell? ⟨gp, 3, none⟩ = some (.slice ax nx cx) := by rw [HNX.out]; exact HS3.out.ask.c3
                     clear ho3 hb3)
                  | (refine stepB_row (by rfl) _ _ (by rfl) w5.drew.heap.size w6 v6 (enc s.size ++ strN s) xs ax nx cx HNX.out (by rfl) HO3.out (by rfl) HS3.out.rx (by have h1 := HBT.out; have h2 := HNX.out; omega) HB3.out.size ?_
                     intro v4 w7 hp4
                     obtain ⟨ho4, hb4⟩ := glued HO3.out HB3.out hp4
                     obtain ⟨a7, l7, c7, rfl, hl4, hr4, hc4⟩ := ho4.form'
                     have HR4 := Lib.hid hr4
                     have HL4 := Lib.hid hl4
                     have HC4 := Lib.hid hc4
                     have HS7 := Lib.hid (BS.below (W := w5.drew) HS5.out.drew hb4)
                     have HBL7 : Hid (Below w5.heap.size w5 w7) := ⟨hb4.os, hb4.tape, hb4.output, hb4.size, hb4.block⟩
                     have s3 : w7.cell? ⟨gp, 3, none⟩ = some (.slice ax nx cx) := by rw [HNX.out]; exact HS7.out.ask.c3
                     clear ho4 hb4 hp4 hr4 hl4 hc4)
                  | (go_at_call 23
                     refine (takeText_n a7 (enc s.size ++ strN s ++ xs) l7 c7 _ HL4.out (by exact HR4.out) (((enc_isB _).app (strN_isB s)).app HBX.out) HC4.out (by have h1 := HBT.out; have h2 := HNX.out; rw [List.length_append]; omega)).mono ?_
                     rintro e w' ⟨rfl, rfl⟩
                     rw [HTX.out]))
                have HR107 : Hid (RowK .u8 w7 a10 (enc s.size ++ strN s)) := HR10.out.below HBL7.out (Nat.le_refl _)
                clear HR4 HL4 HC4 HO3 HB3 HS3 r3 s3 q3 k3 HS5 HTX HR10 HBL7 HBL4
                have p1 : w7.cell? ⟨gp, 1, none⟩ = some (.string s) := HS7.out.ask.c1
                go_wp2_with fail
                refine (num_any _ _).mono ?_
                rintro e w' ⟨rfl, rfl⟩
                go_wp2_with fail
                refine (num_any _ _).mono ?_
                rintro e w' ⟨rfl, rfl⟩
                have p2 : w7.cell? ⟨gp, 2, none⟩ = some (.slice al ls.length cl) := HS7.out.ask.c2
                have H1 := Lib.hid (nums_both al ls cl w7 HS7.out.rl (by omega))
                obtain ⟨t2, ht2⟩ : ∃ t, t = errC (numsOK ls) := ⟨_, rfl⟩
                rw [← ht2] at H1
                have HT2 := Lib.hid ht2
                clear ht2
                go_wp2_with fail
                refine (H1.out).mono ?_
                rintro e w8 ⟨v12, rfl, ho8, hb8⟩
                obtain ⟨a12, l12, c12, rfl, hl12, hr12, hc12⟩ := ho8.form'
                have HS8 := Lib.hid (HS7.out.below hb8)
                have HR12 := Lib.hid hr12
                have HL12 := Lib.hid hl12
                have HR108 : Hid (RowK .u8 w8 a10 (enc s.size ++ strN s)) := HR107.out.below hb8 (Nat.le_refl _)
                have hl12b := numsE_len ls
                clear ho8 hb8 hr12 hl12 hc12 H1 HS7 p1 p2 HR107
                have q3 : w8.drew.cell? ⟨gp, 3, none⟩ = some (.slice ax nx cx) := by rw [HNX.out]; exact HS8.out.ask.c3
                have k3 : w8.cell? ⟨gp, 3, none⟩ = some (.slice ax nx cx) := q3
                go_upto_region 16 with fail
                go_region_held3 (fun w' => w'.cell? ⟨gp, 3, none⟩ = some (.slice ax nx cx)) (assumption) (first
                  | (go_at_call 20
                     refine (copyB_any a12 (numsE ls) l12 c12 _ (by exact HR12.out) HL12.out (by have h2 := HNX.out; omega)).mono ?_
                     rintro e w9 ⟨v9, rfl, ho3, hb3⟩
                     have HO3 := Lib.hid ho3
                     have HB3 := Lib.hid hb3
                     have HS3 := Lib.hid (BS.below (W := w8.drew) HS8.out.drew hb3)
                     have r3 : w9.cell? ⟨gp, 3, none⟩ = some (.slice ax nx cx) := by rw [HNX.out]; exact HS3.out.ask.c3
                     clear ho3 hb3)
                  | (refine stepB_row (by rfl) _ _ (by rfl) w8.drew.heap.size w9 v9 (numsE ls) xs ax nx cx HNX.out (by rfl) HO3.out (by rfl) HS3.out.rx (by have h2 := HNX.out; omega) HB3.out.size ?_
                     intro v4 w10 hp4
                     obtain ⟨ho4, hb4⟩ := glued HO3.out HB3.out hp4
                     obtain ⟨a13, l13, c13, rfl, hl4, hr4, hc4⟩ := ho4.form'
                     have HR4 := Lib.hid hr4
                     have HL4 := Lib.hid hl4
                     have HC4 := Lib.hid hc4
                     have HS10 := Lib.hid (BS.below (W := w8.drew) HS8.out.drew hb4)
                     have HBL10 : Hid (Below w8.heap.size w8 w10) := ⟨hb4.os, hb4.tape, hb4.output, hb4.size, hb4.block⟩
                     have s3 : w10.cell? ⟨gp, 3, none⟩ = some (.slice ax nx cx) := by rw [HNX.out]; exact HS10.out.ask.c3
                     clear ho4 hb4 hp4 hr4 hl4 hc4)
                  | (go_at_call 25
                     refine (takeNums_n a13 (numsE ls ++ xs) l13 c13 _ HL4.out (by exact HR4.out) ((numsE_isB _).app HBX.out) HC4.out (by have h2 := HNX.out; rw [List.length_append]; omega)).mono ?_
                     rintro e w11 ⟨v13, rfl, ho11, hb11⟩
                     obtain ⟨a14, l14, c14, rfl, hl14, hr14, _⟩ := ho11.form'
                     have HR14 := Lib.hid hr14
                     have HL14 := Lib.hid hl14
                     have HS11 := Lib.hid (HS10.out.below hb11)
                     have HR1011 : Hid (RowK .u8 w11 a10 (enc s.size ++ strN s)) := (HR108.out.below HBL10.out (Nat.le_refl _)).below hb11 (Nat.le_refl _)
                     have s4 : w11.cell? ⟨gp, 3, none⟩ = some (.slice ax nx cx) := by rw [HNX.out]; exact HS11.out.ask.c3
                     clear ho11 hb11 hl14 hr14))
                have HTK : Hid (numsOK ls = true → tkNs (numsE ls ++ xs) = (ls, l12, 0)) := by
                  intro hb
                  have h2 := hb
                  unfold numsOK at h2
                  simp only [Bool.and_eq_true, decide_eq_true_eq] at h2
                  have h4 : numsE ls = encL ls := by unfold numsE; rw [hb]; rfl
                  have h3 := tkNs_enc ls xs (fun z hz => (List.all_eq_true.1 h2.1) z hz) h2.2
                  rw [HL12.out, h4, h3]
                clear HR4 HL4 HC4 HO3 HB3 HS3 r3 s3 s4 q3 k3 HS8 HR12 HR108 HBL10 HS10
                generalize tkNs (numsE ls ++ xs) = R at *
                obtain ⟨L, T4, T5⟩ := R
                have p2 : w11.cell? ⟨gp, 2, none⟩ = some (.slice al ls.length cl) := HS11.out.ask.c2
                go_upto_region 17 with fail
                go_cut [156] from 20 to 200 (fun v wc => v = .bool false ∧ Hid (∃ m, wc = w11.drewN m))
                case first =>
                  cases hbo : numsOK ls
                  · have hb1 : (t2 == 0) = false := by have h' := HT2.out; rw [hbo] at h'; rw [h']; rfl
                    go_wp2_with fail
                    refine (num_any _ _).mono ?_
                    rintro e w' ⟨rfl, rfl⟩
                    go_wp2
                    go_meet
                    case rel => exact ⟨rfl, 0, rfl⟩
                  · have hb1 : (t2 == 0) = true := by have h' := HT2.out; rw [hbo] at h'; rw [h']; rfl
                    have hR := HTK.out hbo
                    simp only [Prod.mk.injEq] at hR
                    have hb2 : (T5 != 0) = false := by rw [hR.2.2]; rfl
                    have hb4 : ((T4 : Int) != (l12 : Int)) = false := by rw [hR.2.1]; simp
                    have HEQ := Lib.hid (eqI_yes a14 al ls l14 ls.length c14 cl w11 (by have h := HR14.out; simp only at h; rw [hR.1] at h; exact h) HS11.out.rl (by have h := HL14.out; simp only at h; rw [hR.1] at h; exact h) rfl (by omega))
                    clear hR
                    go_wp2_with fail
                    refine (num_any _ _).mono ?_
                    rintro e w' ⟨rfl, rfl⟩
                    go_wp2_with fail
                    refine (num_any _ _).mono ?_
                    rintro e w' ⟨rfl, rfl⟩
                    go_wp2_with fail
                    refine (HEQ.out).mono ?_
                    rintro e w12 ⟨rfl, m12, rfl⟩
                    go_wp2
                    go_meet
                    case rel => exact ⟨rfl, m12, rfl⟩
                case rest =>
                  obtain ⟨rfl, HWC⟩ := hcut
                  obtain ⟨m11, hwc⟩ := HWC.out
                  have HS12 : Hid (BS w wc gp Nn s al ls cl ax xs cx) := by rw [hwc]; exact HS11.out.drewN m11
                  have HR1012 : Hid (RowK .u8 wc a10 (enc s.size ++ strN s)) := by rw [hwc]; exact HR1011.out
                  clear HWC hwc HTK HT2 HR14 HL14 HS11 HR1011 p2
                  have HN7 := Lib.hid (fun W => num_any 7 W)
                  go_wp2_with fail
                  go_loopg [14] l10 (fun g2 v wq => ∃ j : Nat, v = .int .i64 j ∧ j ≤ l10 ∧ l10 - j ≤ g2 ∧ wc = wq)
                  case atStart => exact ⟨0, rfl, by omega, by omega, rfl⟩
                  case round =>
                    obtain ⟨j, rfl, hj10, hg2, rfl⟩ := hrel
                    by_cases hj : j < l10
                    · have hjz : (j : Int) < (l10 : Int) := by omega
                      have hsl := slice_h wc a10 l10 c10 j (j : Int) rfl (by omega)
                      have H3 := Lib.hid (takeText_n (partA a10 0 c10) ((enc s.size ++ strN s).take j) j c10 wc (by have := HL10.out; rw [List.length_take]; omega) (HR1012.out.first j c10 (by have := HL10.out; omega)) (((enc_isB _).app (strN_isB s)).take j) (by rw [List.length_take]; omega) (by rw [List.length_take]; omega))
                      unfold TextPost at H3
                      rw [tkS_cut s (by omega) (by have := HL10.out; omega)] at H3
                      go_wp2_with fail
                      refine (H3.out).mono ?_
                      rintro e w' ⟨rfl, rfl⟩
                      go_wp2_with fail
                      refine (HN7.out _).mono ?_
                      rintro e w' ⟨rfl, rfl⟩
                      go_wp2
                      go_roundg (l10 - (j + 1))
                      case measure => omega
                      case rel => exact ⟨j + 1, by go_num, by omega, by omega, rfl⟩
                    · have hjz : ¬ (j : Int) < (l10 : Int) := by omega
                      have p3 : wc.cell? ⟨gp, 3, none⟩ = some (.slice ax nx cx) := by rw [HNX.out]; exact HS12.out.ask.c3
                      have H4 := Lib.hid (takeNum_n ax xs nx cx wc HNX.out HS12.out.rx HBX.out)
                      unfold TakePost at H4
                      have HER := Lib.hid (tkN_back (bs := xs) HBX.out)
                      have hkx := (tkN_k xs HBX.out).1
                      by_cases he : (tkN xs).2.2 = 0
                      · rw [he] at H4
                        have hE := HER.out he
                        have HNB : Hid (numB (tkN xs).1 = true) := by show _ = true; simp only [numB, decide_eq_true_eq]; exact ⟨hE.1, hE.2.1⟩
                        have HNE : Hid (numE (tkN xs).1 = xs.take (tkN xs).2.1) := by show _ = _; unfold numE; rw [HNB.out]; exact hE.2.2.2.2
                        clear hE HER he
                        generalize hT2 : (tkN xs).2.1 = k2 at *
                        generalize (tkN xs).1 = k1 at *
                        have hkn : k2 ≤ nx := by rw [HNX.out]; exact hkx
                        have H5 := Lib.hid (num_both k1 wc)
                        rw [HNB.out, HNE.out] at H5
                        go_wp2_with fail
                        refine (H4.out).mono ?_
                        rintro e w' ⟨rfl, rfl⟩
                        go_wp2_with fail
                        refine (num_any _ _).mono ?_
                        rintro e w' ⟨rfl, rfl⟩
                        go_wp2_with fail
                        refine (H5.out).mono ?_
                        rintro e w13 ⟨v18, rfl, ho13, hb13⟩
                        obtain ⟨a18, l18, c18, rfl, hl18, hr18, _⟩ := ho13.form'
                        have HS13 := Lib.hid (HS12.out.below hb13)
                        have p4 : w13.cell? ⟨gp, 3, none⟩ = some (.slice ax nx cx) := by rw [HNX.out]; exact HS13.out.ask.c3
                        have hcxn : nx ≤ cx := by rw [HNX.out]; exact hcx
                        have hsl := slice_h w13 ax nx cx k2 (k2 : Int) rfl (by omega)
                        have HEQ := Lib.hid (eqB_yes a18 (partA ax 0 cx) (xs.take k2) l18 k2 c18 cx w13 hr18 (HS13.out.rx.first k2 cx hcx) hl18 (by have := HNX.out; rw [List.length_take]; omega) (by rw [List.length_take]; omega))
                        have HZ := Lib.hid HS13.out.bel
                        have hC0 : errC true = 0 := rfl
                        clear ho13 hb13 hr18 hl18 H5 H4 HS12 p3
                        go_wp2_with fail
                        refine (num_any _ _).mono ?_
                        rintro e w' ⟨rfl, rfl⟩
                        go_wp2_with fail
                        refine (HEQ.out).mono ?_
                        rintro e w14 ⟨rfl, m14, rfl⟩
                        go_wp2
                        go_roundg (20 - (i + 1))
                        case measure => omega
                        case rel => exact ⟨i + 1, by go_num, by omega, by omega, below_drewN HZ.out _⟩
                      · have hED : ((tkN xs).2.2 == 0) = false := by simp [he]
                        clear HER
                        generalize (tkN xs).2.2 = k3 at *
                        have HZ := Lib.hid HS12.out.bel
                        go_wp2_with fail
                        refine (H4.out).mono ?_
                        rintro e w' ⟨rfl, rfl⟩
                        go_wp2_with fail
                        refine (num_any _ _).mono ?_
                        rintro e w' ⟨rfl, rfl⟩
                        go_wp2
                        go_roundg (20 - (i + 1))
                        case measure => omega
                        case rel => exact ⟨i + 1, by go_num, by omega, by omega, HZ⟩
        · rw [hhv] at HV
          clear hhv
          go_wp2_with fail
          refine (HV.out).mono ?_
          rintro e w1 ⟨rfl, hb1⟩
          have HZ : Hid (Below w.heap.size w w1) := (HB.out.alloc hsz0 _).trans (hb1.mono (by simp; omega))
          skip
          clear hb1 HV
          go_wp2
          go_ret
          exact ⟨rfl, HZ.out⟩
      · have hiz : decide ((i : Int) < 20) = false := decide_eq_false (by omega)
        have hiy : ¬ (i : Int) < 20 := by omega
        have HW := Lib.hid (wakes_any wr)
        go_wp2_with fail
        refine (HW.out).mono ?_
        rintro e w1 ⟨rfl, hb1⟩
        have HZ : Hid (Below w.heap.size w w1) := HB.out.trans (hb1.mono HB.out.size)
        clear hb1 HW
        go_wp2
        go_ret
        exact ⟨rfl, HZ.out⟩
    · have hinz : decide ((i : Int) < (n : Int)) = false := decide_eq_false (by omega)
      have hiny : ¬ (i : Int) < (n : Int) := by omega
      have HW := Lib.hid (wakes_any wr)
      go_wp2_with fail
      refine (HW.out).mono ?_
      rintro e w1 ⟨rfl, hb1⟩
      have HZ : Hid (Below w.heap.size w w1) := HB.out.trans (hb1.mono HB.out.size)
      clear hb1 HW
      go_wp2
      go_ret
      exact ⟨rfl, HZ.out⟩
end Go.Proofs.Ytnckaefdajnkjaa
