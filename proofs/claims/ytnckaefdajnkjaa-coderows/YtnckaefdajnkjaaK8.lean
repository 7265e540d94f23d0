/- The walk of CodeRows. -/
import Derived.Test.YtnckaefdajnkjaaK7
namespace Go.Proofs.Ytnckaefdajnkjaa
open Go.RowKit Go.Lib
set_option linter.unusedVariables false

set_option maxHeartbeats 8000000 in
set_option maxRecDepth 100000 in
theorem codeRows_walk (a : Option Addr) (n cap : Nat) (w : World) (h : AsksIs w a n) :
    Calls Try.prog 7 #[.slice a n cap] w (BoolPost w true) := by
  have mixed : Try.prog.follows .mixedOrders = true := by kernel_rfl
  obtain ⟨fN, fs, fl, hf⟩ := asks_fun h
  have HA := Lib.hid hf
  clear h hf
  go_enter Try.func7, Try.ntmps7
  go_wp2
  go_loopg [3, 4] 20 (fun g1 v vi wr => ∃ m : Nat, vi = .int .i64 m ∧ m ≤ 20 ∧ m ≤ n ∧ 20 - m ≤ g1 ∧ Hid (OwnK .u8 5 wr w.heap.size v (preF fN fs fl m) ∧ Below w.heap.size w wr ∧ ∀ k, k < m → smallF fs fl k))
  case atStart => exact ⟨0, rfl, by omega, by omega, by omega, ⟨OwnK.nil _ _ _ _, Below.refl _ _, fun k hk => by omega⟩⟩
  case round =>
    obtain ⟨m, rfl, hm20, hmn, hg1, HI⟩ := hrel
    by_cases hin : m < n
    · have hinz : decide ((m : Int) < (n : Int)) = true := decide_eq_true (by omega)
      have hiny : (m : Int) < (n : Int) := by omega
      by_cases hi : m < 20
      · have hiz : decide ((m : Int) < 20) = true := decide_eq_true (by omega)
        have hiy : (m : Int) < 20 := by omega
        obtain ⟨b, off, al, cl, ax, nx, cx, rfl, hask, hrl⟩ := HA.out m hin
        obtain ⟨q0, q1, q2, q3⟩ := hask.below HI.out.2.1 hask.lt
        have hsz0 := HI.out.2.1.size
        have HRL0 : Hid (RowK .i64 wr al (fl m)) := hrl.below HI.out.2.1 (Nat.le_refl _)
        obtain ⟨Nn, hNn⟩ : ∃ z, z = fN m := ⟨_, rfl⟩
        have HFN := Lib.hid hNn
        obtain ⟨s, hsn⟩ : ∃ z, z = fs m := ⟨_, rfl⟩
        have HFS := Lib.hid hsn
        rw [← hNn] at q0
        rw [← hsn] at q1
        have HV := Lib.hid (heavy_any Nn s al ax (fl m).length cl nx cx (wr.alloc (.cells #[.int .i64 Nn, .string s, .slice al (fl m).length cl, .slice ax nx cx] 26)))
        clear hask hrl hNn hsn
        cases hhv : heavyB s.size (fl m).length nx
        · rw [hhv] at HV
          clear hhv
          by_cases hs3 : 300 < s.size
          · have hs3d : decide ((300 : Int) < (s.size : Int)) = true := decide_eq_true (by omega)
            have hs3y : (300 : Int) < (s.size : Int) := by omega
            go_wp2_with fail
            refine (HV.out).mono ?_
            rintro e w1 ⟨rfl, hb1⟩
            have HZ : Hid (Below w.heap.size w w1) := (HI.out.2.1.alloc hsz0 _).trans (hb1.mono (by simp; omega))
            have g0 := ((ask_new5 wr Nn s al ax (fl m).length cl nx cx).below hb1 (by simp))
            obtain ⟨p0, p1, p2, p3⟩ := g0
            clear hb1 HV
            go_wp2
            go_ret
            exact ⟨rfl, HZ.out⟩
          · have hs3d : decide ((300 : Int) < (s.size : Int)) = false := decide_eq_false (by omega)
            have hs3y : ¬ (300 : Int) < (s.size : Int) := by omega
            by_cases hl5 : 50 < (fl m).length
            · have hl5d : decide ((50 : Int) < ((fl m).length : Int)) = true := decide_eq_true (by omega)
              have hl5y : (50 : Int) < ((fl m).length : Int) := by omega
              go_wp2_with fail
              refine (HV.out).mono ?_
              rintro e w1 ⟨rfl, hb1⟩
              have HZ : Hid (Below w.heap.size w w1) := (HI.out.2.1.alloc hsz0 _).trans (hb1.mono (by simp; omega))
              have g0 := ((ask_new5 wr Nn s al ax (fl m).length cl nx cx).below hb1 (by simp))
              obtain ⟨p0, p1, p2, p3⟩ := g0
              clear hb1 HV
              go_wp2
              go_ret
              exact ⟨rfl, HZ.out⟩
            · have hl5d : decide ((50 : Int) < ((fl m).length : Int)) = false := decide_eq_false (by omega)
              have hl5y : ¬ (50 : Int) < ((fl m).length : Int) := by omega
              go_wp2_with fail
              refine (HV.out).mono ?_
              rintro e w1 ⟨rfl, hb1⟩
              have HK1 : Hid (AskAt w1 wr.heap.size 0 Nn s al (fl m).length cl ax nx cx) := (ask_new5 wr Nn s al ax (fl m).length cl nx cx).below hb1 (by simp)
              have HRL1 : Hid (RowK .i64 w1 al (fl m)) := (HRL0.out.alloc _).below hb1 (Nat.le_refl _)
              have HB1 : Hid (Below w.heap.size w w1) := (HI.out.2.1.alloc hsz0 _).trans (hb1.mono (by simp; omega))
              have HO1 : Hid (OwnK .u8 5 w1 w.heap.size u3 (preF fN fs fl m)) := (HI.out.1.alloc _).below hb1
              have HSM := Lib.hid HI.out.2.2
              clear hb1 HV HRL0 HI q0 q1 q2 q3 hsz0
              generalize wr.heap.size = gp at *
              obtain ⟨p0, p1, p2, p3⟩ := HK1.out
              have hmw := modW_in Nn
              have HWI := Lib.hid (fun W => within_any Nn W)
              have H1 : Hid (Calls Try.prog 9 #[.int .i64 (modW Nn)] w1 (BytesPost w1 (P1 fN m))) := by
                have := num_yes (modW Nn).toNat w1 (by omega)
                rw [show (((modW Nn).toNat : Nat) : Int) = modW Nn by omega] at this
                unfold P1
                rw [← HFN.out]
                exact this
              go_wp2_with fail
              refine (HWI.out _).mono ?_
              rintro e w' ⟨rfl, rfl⟩
              go_wp2_with fail
              refine (H1.out).mono ?_
              rintro e w2 ⟨v6, rfl, ho6, hb2⟩
              have hu2 := hb2.size
              obtain ⟨a6, l6, c6, rfl, hl6, hr6, _⟩ := ho6.form'
              have HG6 := Lib.hid ho6.rowGe
              have HR62 := Lib.hid hr6
              have HL6 := Lib.hid hl6
              have HK2 : Hid (AskAt w2 gp 0 Nn s al (fl m).length cl ax nx cx) := HK1.out.below hb2 HK1.out.lt
              have HRL2 : Hid (RowK .i64 w2 al (fl m)) := HRL1.out.below hb2 (Nat.le_refl _)
              have HB2 : Hid (Below w.heap.size w w2) := HB1.out.trans (hb2.mono HB1.out.size)
              have HO2 := Lib.hid (HO1.out.below hb2)
              have HLT : Hid (∀ g, u3.ownBlock = some g → g < w1.heap.size) := fun g hg => (HO1.out.lt hg).2
              clear ho6 hb2 hr6 hl6 H1 HK1 HRL1 HB1 HO1 p0 p1 p2 p3 HWI
              obtain ⟨p0, p1, p2, p3⟩ := HK2.out
              have H1 : Hid (Calls Try.prog 10 #[.string s] w2 (BytesPost w2 (P2 fs m))) := by
                unfold P2
                rw [← HFS.out]
                exact text_yes s w2 (by omega)
              go_wp2_with fail
              refine (H1.out).mono ?_
              rintro e w3 ⟨v8, rfl, ho8, hb3⟩
              have hu3 := hb3.size
              obtain ⟨a8, l8, c8, rfl, hl8, hr8, _⟩ := ho8.form'
              have HG8 := Lib.hid ho8.rowGe
              have HR83 := Lib.hid hr8
              have HL8 := Lib.hid hl8
              have HR63 : Hid (RowK .u8 w3 a6 (P1 fN m)) := HR62.out.below hb3 (Nat.le_refl _)
              have HK3 : Hid (AskAt w3 gp 0 Nn s al (fl m).length cl ax nx cx) := HK2.out.below hb3 HK2.out.lt
              have HRL3 : Hid (RowK .i64 w3 al (fl m)) := HRL2.out.below hb3 (Nat.le_refl _)
              have HB3 : Hid (Below w.heap.size w w3) := HB2.out.trans (hb3.mono HB2.out.size)
              have HO3 := Lib.hid (HO2.out.below hb3)
              clear ho8 hb3 hr8 hl8 H1 HK2 HRL2 HB2 HO2 HR62 p0 p1 p2 p3
              obtain ⟨p0, p1, p2, p3⟩ := HK3.out
              have H1 := Lib.hid (nums_both al (fl m) cl w3 HRL3.out (by omega))
              go_wp2_with fail
              refine (H1.out).mono ?_
              rintro e w4 ⟨v10, rfl, ho10, hb4⟩
              have hu4 := hb4.size
              obtain ⟨a10, l10, c10, rfl, hl10, hr10, _⟩ := ho10.form'
              have HG10 := Lib.hid ho10.rowGe
              have HR104 : Hid (RowK .u8 w4 a10 (P3 fl m)) := hr10
              have HL10 : Hid (l10 = (P3 fl m).length) := hl10
              have HR64 : Hid (RowK .u8 w4 a6 (P1 fN m)) := HR63.out.below hb4 (Nat.le_refl _)
              have HR84 : Hid (RowK .u8 w4 a8 (P2 fs m)) := HR83.out.below hb4 (Nat.le_refl _)
              have HK4 : Hid (AskAt w4 gp 0 Nn s al (fl m).length cl ax nx cx) := HK3.out.below hb4 HK3.out.lt
              have HRL4 : Hid (RowK .i64 w4 al (fl m)) := HRL3.out.below hb4 (Nat.le_refl _)
              have HB4 : Hid (Below w.heap.size w w4) := HB3.out.trans (hb4.mono HB3.out.size)
              have HO4 := Lib.hid (HO3.out.below hb4)
              clear ho10 hb4 hr10 hl10 H1 HK3 HRL3 HB3 HO3 HR63 HR83 p0 p1 p2 p3
              obtain ⟨p0, p1, p2, p3⟩ := HK4.out
              have p2' : w4.cell? ⟨gp, 2, none⟩ = some (.slice al (fl m).length cl) := p2
              obtain ⟨lm, hlm⟩ : ∃ k, k = (fl m).length := ⟨_, rfl⟩
              have HLM := Lib.hid hlm
              rw [← hlm] at p2'
              have HQN := Lib.hid (quiet_numbers al (fl m) lm cl w4 hlm HRL4.out (by omega))
              have hce := errC_eq (numsOK (fl m))
              have hcee : (numsOK (fl m) != numsOK (fl m)) = false := by simp
              clear p0 p1 p2 p3 hlm
              generalize errC (numsOK (fl m)) = t2 at *
              go_upto_region 11 with fail
              go_quiet (first | (go_at_call 17; exact quiet_left (num_any _ _)) | (go_at_call 15; exact HQN.out _))
              have HF : Hid (OwnK .u8 5 (w4.drewN nq) w.heap.size u3 (preF fN fs fl m) ∧ RowK .u8 (w4.drewN nq) a6 (P1 fN m) ∧ RowK .u8 (w4.drewN nq) a8 (P2 fs m) ∧ RowK .u8 (w4.drewN nq) a10 (P3 fl m) ∧ Below w.heap.size w (w4.drewN nq) ∧ w.heap.size ≤ (w4.drewN nq).heap.size) := ⟨HO4.out, HR64.out, HR84.out, HR104.out, below_drewN HB4.out _, HB4.out.size⟩
              have HA6 : Hid (Ap u3 a6 (P1 fN m)) := Ap.of_ge HG6.out HLT.out
              have HA8 : Hid (Ap u3 a8 (P2 fs m)) := Ap.of_ge HG8.out (fun g hg => by have := HLT.out g hg; omega)
              have HA10 : Hid (Ap u3 a10 (P3 fl m)) := Ap.of_ge HG10.out (fun g hg => by have := HLT.out g hg; omega)
              clear HO4 HR64 HR84 HR104 HB4 HG6 HG8 HG10 HLT p2' hce hcee HQN HRL4 HK4
              generalize w4.drewN nq = w5 at *
              have HLN : Hid ((preF fN fs fl m).length ≤ 192000 ∧ (P1 fN m).length ≤ 9 ∧ (P2 fs m).length ≤ 309 ∧ (P3 fl m).length ≤ 9225) := ⟨by have := preF_len fN fs fl m HSM.out; omega, P1_len _ _, P2_len _ _ (by rw [← HFS.out]; omega), P3_len _ _⟩
              go_wp2_with (first
                | (at_builtin
                   refine wpB_row rfl _ _ rfl w.heap.size w5 u3 (preF fN fs fl m) (P1 fN m) a6 l6 c6 HL6.out rfl HF.out.1 rfl HF.out.2.1 (by have := HLN.out; omega) HF.out.2.2.2.2.2 ?_
                   intro v20 w20 hp20
                   have HP20 := Lib.hid hp20
                   clear hp20)
                | (at_builtin
                   refine wpB_row rfl _ _ rfl w.heap.size w20 v20 (preF fN fs fl m ++ P1 fN m) (P2 fs m) a8 l8 c8 HL8.out rfl HP20.out.own rfl (HP20.out.oth _ _ _ HF.out.2.2.1 HA8.out).1 (by have := HLN.out; rw [List.length_append]; omega) (Nat.le_trans HF.out.2.2.2.2.2 HP20.out.size) ?_
                   intro v21 w21 hp21
                   have HP21 := Lib.hid hp21
                   clear hp21)
                | (at_builtin
                   refine wpB_row rfl _ _ rfl w.heap.size w21 v21 (preF fN fs fl m ++ P1 fN m ++ P2 fs m) (P3 fl m) a10 l10 c10 HL10.out rfl HP21.out.own rfl (HP21.out.oth _ _ _ (HP20.out.oth _ _ _ HF.out.2.2.2.1 HA10.out).1 (HP20.out.oth _ _ _ HF.out.2.2.2.1 HA10.out).2).1 (by have := HLN.out; rw [List.length_append, List.length_append]; omega) (Nat.le_trans (Nat.le_trans HF.out.2.2.2.2.2 HP20.out.size) HP21.out.size) ?_
                   intro v22 w22 hp22
                   have HI2 : Hid (OwnK .u8 5 w22 w.heap.size v22 (preF fN fs fl (m + 1)) ∧ Below w.heap.size w w22 ∧ ∀ k, k < m + 1 → smallF fs fl k) := by
                     refine ⟨?_, hp22.bel _ _ (HP21.out.bel _ _ (HP20.out.bel _ _ HF.out.2.2.2.2.1 (Nat.le_refl _) HF.out.2.2.2.2.2) (Nat.le_refl _) (Nat.le_trans HF.out.2.2.2.2.2 HP20.out.size)) (Nat.le_refl _) (Nat.le_trans (Nat.le_trans HF.out.2.2.2.2.2 HP20.out.size) HP21.out.size), ?_⟩
                     · have := hp22.own
                       rw [List.append_assoc, List.append_assoc] at this
                       exact this
                     · intro k hk
                       by_cases hkm : k = m
                       · subst hkm; exact ⟨by rw [← HFS.out]; omega, by omega⟩
                       · exact HSM.out k (by omega)
                   clear hp22))
              go_roundg (20 - (m + 1))
              case measure => omega
              case rel => exact ⟨m + 1, by go_num, by omega, by omega, by omega, HI2⟩
        · rw [hhv] at HV
          clear hhv
          go_wp2_with fail
          refine (HV.out).mono ?_
          rintro e w1 ⟨rfl, hb1⟩
          have HZ : Hid (Below w.heap.size w w1) := (HI.out.2.1.alloc hsz0 _).trans (hb1.mono (by simp; omega))
          skip
          clear hb1 HV
          go_wp2
          go_ret
          exact ⟨rfl, HZ.out⟩
      · have hiz : decide ((m : Int) < 20) = false := decide_eq_false (by omega)
        have hiy : ¬ (m : Int) < 20 := by omega
        clear hmn
        obtain ⟨a3, L3, c3, rfl, hl3, hr3, hc3⟩ := HI.out.1.form'
        have HL3 := Lib.hid hl3
        have HJ0 : Hid (Below w.heap.size w wr ∧ RowK .u8 wr a3 (preF fN fs fl m)) := ⟨HI.out.2.1, hr3⟩
        have HSM := Lib.hid HI.out.2.2
        have hlm : L3 ≤ 192000 := by have := preF_len fN fs fl m HI.out.2.2; omega
        have hcm : L3 ≤ c3 := by omega
        clear hl3 hr3 hc3 HI
        go_wp2_with fail
        go_loopg [12, 13] 20 (fun g2 vat vj wq => ∃ (j : Nat) (z : Int), vj = .int .i64 j ∧ vat = .int .i64 z ∧ z = ((preF fN fs fl j).length : Int) ∧ j ≤ m ∧ 20 - j ≤ g2 ∧ Hid (Below w.heap.size w wq ∧ RowK .u8 wq a3 (preF fN fs fl m)))
        case atStart => exact ⟨0, _, rfl, rfl, rfl, by omega, by omega, HJ0⟩
        case round =>
          obtain ⟨j, z, rfl, rfl, rfl, hjm, hg2, HJ⟩ := hrel
          by_cases hj : j < m
          · have hjn : (j : Int) < (n : Int) := by omega
            have hjnd : decide ((j : Int) < (n : Int)) = true := decide_eq_true hjn
            have hj20 : (j : Int) < 20 := by omega
            have hj20d : decide ((j : Int) < 20) = true := decide_eq_true hj20
            obtain ⟨b, off, al, cl, ax, nx, cx, rfl, hask, hrl⟩ := HA.out j (by omega)
            have hbe := hask.lt
            obtain ⟨q0, q1, q2, q3⟩ := hask.below HJ.out.1 hbe
            have HRL : Hid (RowK .i64 wr al (fl j)) := hrl.below HJ.out.1 (Nat.le_refl _)
            have HK := Lib.hid hask
            have hS := HSM.out j hj
            have hs3 := hS.1
            have hl50 := hS.2
            clear hask hrl hS
            obtain ⟨X, x1, x2, x3, x4⟩ := rows_at fN fs fl hj
            have x5 := preF_succ_len fN fs fl j
            have hpb := preF_isB fN fs fl m
            have e3 := HL3.out
            obtain ⟨P, hP⟩ : ∃ k, k = (preF fN fs fl j).length := ⟨_, rfl⟩
            obtain ⟨k1, hk1⟩ : ∃ k, k = (P1 fN j).length := ⟨_, rfl⟩
            obtain ⟨k2, hk2⟩ : ∃ k, k = (P2 fs j).length := ⟨_, rfl⟩
            obtain ⟨k3, hk3⟩ : ∃ k, k = (P3 fl j).length := ⟨_, rfl⟩
            rw [← hP] at x1 x2 x3 x5 ⊢
            rw [← hk1] at x2 x3 x5
            rw [← hk2] at x3 x5
            rw [← hk3] at x5
            have hsl1 := slice_l wr a3 L3 c3 P (P : Int) rfl (by omega)
            have hsl2 := slice_l wr a3 L3 c3 (P + k1) ((P : Int) + (k1 : Int)) (by omega) (by omega)
            have hsl3 := slice_l wr a3 L3 c3 (P + k1 + k2) ((P : Int) + (k1 : Int) + (k2 : Int)) (by omega) (by omega)
            have H1 := Lib.hid (takeNum_n (partA a3 P c3) ((preF fN fs fl m).drop P) (L3 - P) (c3 - P) wr (by rw [List.length_drop, e3]) (HJ.out.2.rest P c3 (by omega)) (hpb.drop P))
            unfold TakePost at H1
            rw [x1, tk_P1, ← hk1] at H1
            have H2 := Lib.hid (takeText_n (partA a3 (P + k1) c3) ((preF fN fs fl m).drop (P + k1)) (L3 - (P + k1)) (c3 - (P + k1)) wr (by rw [List.length_drop, e3]) (HJ.out.2.rest (P + k1) c3 (by omega)) (hpb.drop _) (by rw [List.length_drop]; omega) (by rw [List.length_drop]; omega))
            unfold TextPost at H2
            rw [x2, tk_P2 fs j hs3, ← hk2] at H2
            have HWI := Lib.hid (fun W => within_any (fN j) W)
            have HNB := Lib.hid (numbers_any al (fl j) cl wr HRL.out (by omega))
            have HSUC : Hid ((preF fN fs fl (j + 1)).length = P + k1 + k2 + k3) := x5
            have HKK3 := Lib.hid hk3
            have hbd : P + k1 + k2 + k3 ≤ 192000 := by omega
            cases hno : numsOK (fl j)
            · have hk30 : k3 = 0 := by rw [hk3]; unfold P3 numsE; rw [hno]; rfl
              rw [hno] at HNB
              have HSU2 : Hid ((preF fN fs fl (j + 1)).length = P + k1 + k2) := by have := HSUC.out; show _ = _; omega
              clear x1 x2 x3 x4 x5 hpb hP hk1 hk2 hk3 e3 hno HKK3 hk30 HSUC hsl3
              generalize (fs j) = S at *
              generalize (fl j).length = lj at *
              generalize modW (fN j) = M at *
              generalize (fN j) = NN at *
              go_wp2_with fail
              refine (H1.out).mono ?_
              rintro e w' ⟨rfl, rfl⟩
              go_wp2_with fail
              refine (num_any _ _).mono ?_
              rintro e w' ⟨rfl, rfl⟩
              go_wp2_with fail
              refine (HWI.out _).mono ?_
              rintro e w' ⟨rfl, rfl⟩
              go_wp2_with fail
              refine (H2.out).mono ?_
              rintro e w' ⟨rfl, rfl⟩
              go_wp2_with fail
              refine (num_any _ _).mono ?_
              rintro e w' ⟨rfl, rfl⟩
              go_wp2_with fail
              refine (HNB.out).mono ?_
              rintro e w' ⟨rfl, rfl⟩
              go_wp2
              go_roundg (20 - (j + 1))
              case measure => omega
              case rel => exact ⟨j + 1, _, by go_num, rfl, by rw [HSU2.out]; omega, by omega, by omega, HJ⟩
            · rw [hno] at HNB
              have H3 := Lib.hid (takeNums_n (partA a3 (P + k1 + k2) c3) ((preF fN fs fl m).drop (P + k1 + k2)) (L3 - (P + k1 + k2)) (c3 - (P + k1 + k2)) wr (by rw [List.length_drop, e3]) (HJ.out.2.rest (P + k1 + k2) c3 (by omega)) (hpb.drop _) (by rw [List.length_drop]; omega) (by rw [List.length_drop]; omega))
              unfold ListPost at H3
              rw [x3, tk_P3 fl j hno, ← hk3] at H3
              clear x1 x2 x3 x4 x5 hpb hP hk1 hk2 hk3 e3 hno HKK3
              generalize (fs j) = S at *
              obtain ⟨lj, hlj⟩ : ∃ k, k = (fl j).length := ⟨_, rfl⟩
              have HLJ := Lib.hid hlj
              rw [← hlj] at q2 HNB hl50
              clear hlj
              generalize modW (fN j) = M at *
              go_wp2_with fail
              refine (H1.out).mono ?_
              rintro e w' ⟨rfl, rfl⟩
              go_wp2_with fail
              refine (num_any _ _).mono ?_
              rintro e w' ⟨rfl, rfl⟩
              go_wp2_with fail
              refine (HWI.out _).mono ?_
              rintro e w' ⟨rfl, rfl⟩
              go_wp2_with fail
              refine (H2.out).mono ?_
              rintro e w' ⟨rfl, rfl⟩
              go_wp2_with fail
              refine (num_any _ _).mono ?_
              rintro e w' ⟨rfl, rfl⟩
              go_wp2_with fail
              refine (HNB.out).mono ?_
              rintro e w' ⟨rfl, rfl⟩
              go_wp2_with fail
              refine (H3.out).mono ?_
              rintro e w8 ⟨v8, rfl, ho8, hb8⟩
              obtain ⟨a8, l8, c8, rfl, hl8, hr8, _⟩ := ho8.form'
              have HJ8 : Hid (Below w.heap.size w w8 ∧ RowK .u8 w8 a3 (preF fN fs fl m)) := ⟨HJ.out.1.trans (hb8.mono HJ.out.1.size), HJ.out.2.below hb8 (Nat.le_refl _)⟩
              have HRL8 : Hid (RowK .i64 w8 al (fl j)) := HRL.out.below hb8 (Nat.le_refl _)
              have q2' : w8.cell? ⟨b, off + j * 4 + 2, none⟩ = some (.slice al lj cl) := by rw [HLJ.out]; exact (HK.out.below HJ8.out.1 hbe).c2
              have HEQ := Lib.hid (eqI_yes a8 al (fl j) l8 lj c8 cl w8 hr8 HRL8.out hl8 HLJ.out (by rw [← HLJ.out]; omega))
              clear ho8 hb8 hl8 hr8 H1 H2 H3 HNB q0 q1 q2 q3 hsl1 hsl2 hsl3 HJ HRL HRL8
              go_wp2_with fail
              refine (num_any _ _).mono ?_
              rintro e w' ⟨rfl, rfl⟩
              go_wp2_with fail
              refine (HEQ.out).mono ?_
              rintro e w9 ⟨rfl, m9, rfl⟩
              go_wp2
              go_roundg (20 - (j + 1))
              case measure => omega
              case rel => exact ⟨j + 1, _, by go_num, rfl, by rw [HSUC.out]; omega, by omega, by omega, ⟨below_drewN HJ8.out.1 _, HJ8.out.2⟩⟩
          · obtain rfl : j = m := by omega
            by_cases hjj : j < n
            · have hjn : (j : Int) < (n : Int) := by omega
              have hjnd : decide ((j : Int) < (n : Int)) = true := decide_eq_true hjn
              have hj20 : ¬ (j : Int) < 20 := by omega
              have hj20d : decide ((j : Int) < 20) = false := decide_eq_false hj20
              have HW := Lib.hid (wakes_any wr)
              have hend : (((preF fN fs fl j).length : Int) == (L3 : Int)) = true := by rw [HL3.out]; simp
              have hends : ((preF fN fs fl j).length : Int) = (L3 : Int) := by rw [HL3.out]
              go_wp2_with fail
              refine (HW.out).mono ?_
              rintro e w9 ⟨rfl, hb9⟩
              have HZ : Hid (Below w.heap.size w w9) := HJ.out.1.trans (hb9.mono HJ.out.1.size)
              clear hb9 HW
              go_wp2
              go_ret
              exact ⟨rfl, HZ.out⟩
            · have hjn : ¬ (j : Int) < (n : Int) := by omega
              have hjnd : decide ((j : Int) < (n : Int)) = false := decide_eq_false hjn
              have HW := Lib.hid (wakes_any wr)
              have hend : (((preF fN fs fl j).length : Int) == (L3 : Int)) = true := by rw [HL3.out]; simp
              have hends : ((preF fN fs fl j).length : Int) = (L3 : Int) := by rw [HL3.out]
              go_wp2_with fail
              refine (HW.out).mono ?_
              rintro e w9 ⟨rfl, hb9⟩
              have HZ : Hid (Below w.heap.size w w9) := HJ.out.1.trans (hb9.mono HJ.out.1.size)
              clear hb9 HW
              go_wp2
              go_ret
              exact ⟨rfl, HZ.out⟩
    · have hinz : decide ((m : Int) < (n : Int)) = false := decide_eq_false (by omega)
      have hiny : ¬ (m : Int) < (n : Int) := by omega
      obtain ⟨a3, L3, c3, rfl, hl3, hr3, hc3⟩ := HI.out.1.form'
      have HL3 := Lib.hid hl3
      have HJ0 : Hid (Below w.heap.size w wr ∧ RowK .u8 wr a3 (preF fN fs fl m)) := ⟨HI.out.2.1, hr3⟩
      have HSM := Lib.hid HI.out.2.2
      have hlm : L3 ≤ 192000 := by have := preF_len fN fs fl m HI.out.2.2; omega
      have hcm : L3 ≤ c3 := by omega
      clear hl3 hr3 hc3 HI
      go_wp2_with fail
      go_loopg [12, 13] 20 (fun g2 vat vj wq => ∃ (j : Nat) (z : Int), vj = .int .i64 j ∧ vat = .int .i64 z ∧ z = ((preF fN fs fl j).length : Int) ∧ j ≤ m ∧ 20 - j ≤ g2 ∧ Hid (Below w.heap.size w wq ∧ RowK .u8 wq a3 (preF fN fs fl m)))
      case atStart => exact ⟨0, _, rfl, rfl, rfl, by omega, by omega, HJ0⟩
      case round =>
        obtain ⟨j, z, rfl, rfl, rfl, hjm, hg2, HJ⟩ := hrel
        by_cases hj : j < m
        · have hjn : (j : Int) < (n : Int) := by omega
          have hjnd : decide ((j : Int) < (n : Int)) = true := decide_eq_true hjn
          have hj20 : (j : Int) < 20 := by omega
          have hj20d : decide ((j : Int) < 20) = true := decide_eq_true hj20
          obtain ⟨b, off, al, cl, ax, nx, cx, rfl, hask, hrl⟩ := HA.out j (by omega)
          have hbe := hask.lt
          obtain ⟨q0, q1, q2, q3⟩ := hask.below HJ.out.1 hbe
          have HRL : Hid (RowK .i64 wr al (fl j)) := hrl.below HJ.out.1 (Nat.le_refl _)
          have HK := Lib.hid hask
          have hS := HSM.out j hj
          have hs3 := hS.1
          have hl50 := hS.2
          clear hask hrl hS
          obtain ⟨X, x1, x2, x3, x4⟩ := rows_at fN fs fl hj
          have x5 := preF_succ_len fN fs fl j
          have hpb := preF_isB fN fs fl m
          have e3 := HL3.out
          obtain ⟨P, hP⟩ : ∃ k, k = (preF fN fs fl j).length := ⟨_, rfl⟩
          obtain ⟨k1, hk1⟩ : ∃ k, k = (P1 fN j).length := ⟨_, rfl⟩
          obtain ⟨k2, hk2⟩ : ∃ k, k = (P2 fs j).length := ⟨_, rfl⟩
          obtain ⟨k3, hk3⟩ : ∃ k, k = (P3 fl j).length := ⟨_, rfl⟩
          rw [← hP] at x1 x2 x3 x5 ⊢
          rw [← hk1] at x2 x3 x5
          rw [← hk2] at x3 x5
          rw [← hk3] at x5
          have hsl1 := slice_l wr a3 L3 c3 P (P : Int) rfl (by omega)
          have hsl2 := slice_l wr a3 L3 c3 (P + k1) ((P : Int) + (k1 : Int)) (by omega) (by omega)
          have hsl3 := slice_l wr a3 L3 c3 (P + k1 + k2) ((P : Int) + (k1 : Int) + (k2 : Int)) (by omega) (by omega)
          have H1 := Lib.hid (takeNum_n (partA a3 P c3) ((preF fN fs fl m).drop P) (L3 - P) (c3 - P) wr (by rw [List.length_drop, e3]) (HJ.out.2.rest P c3 (by omega)) (hpb.drop P))
          unfold TakePost at H1
          rw [x1, tk_P1, ← hk1] at H1
          have H2 := Lib.hid (takeText_n (partA a3 (P + k1) c3) ((preF fN fs fl m).drop (P + k1)) (L3 - (P + k1)) (c3 - (P + k1)) wr (by rw [List.length_drop, e3]) (HJ.out.2.rest (P + k1) c3 (by omega)) (hpb.drop _) (by rw [List.length_drop]; omega) (by rw [List.length_drop]; omega))
          unfold TextPost at H2
          rw [x2, tk_P2 fs j hs3, ← hk2] at H2
          have HWI := Lib.hid (fun W => within_any (fN j) W)
          have HNB := Lib.hid (numbers_any al (fl j) cl wr HRL.out (by omega))
          have HSUC : Hid ((preF fN fs fl (j + 1)).length = P + k1 + k2 + k3) := x5
          have HKK3 := Lib.hid hk3
          have hbd : P + k1 + k2 + k3 ≤ 192000 := by omega
          cases hno : numsOK (fl j)
          · have hk30 : k3 = 0 := by rw [hk3]; unfold P3 numsE; rw [hno]; rfl
            rw [hno] at HNB
            have HSU2 : Hid ((preF fN fs fl (j + 1)).length = P + k1 + k2) := by have := HSUC.out; show _ = _; omega
            clear x1 x2 x3 x4 x5 hpb hP hk1 hk2 hk3 e3 hno HKK3 hk30 HSUC hsl3
            generalize (fs j) = S at *
            generalize (fl j).length = lj at *
            generalize modW (fN j) = M at *
            generalize (fN j) = NN at *
            go_wp2_with fail
            refine (H1.out).mono ?_
            rintro e w' ⟨rfl, rfl⟩
            go_wp2_with fail
            refine (num_any _ _).mono ?_
            rintro e w' ⟨rfl, rfl⟩
            go_wp2_with fail
            refine (HWI.out _).mono ?_
            rintro e w' ⟨rfl, rfl⟩
            go_wp2_with fail
            refine (H2.out).mono ?_
            rintro e w' ⟨rfl, rfl⟩
            go_wp2_with fail
            refine (num_any _ _).mono ?_
            rintro e w' ⟨rfl, rfl⟩
            go_wp2_with fail
            refine (HNB.out).mono ?_
            rintro e w' ⟨rfl, rfl⟩
            go_wp2
            go_roundg (20 - (j + 1))
            case measure => omega
            case rel => exact ⟨j + 1, _, by go_num, rfl, by rw [HSU2.out]; omega, by omega, by omega, HJ⟩
          · rw [hno] at HNB
            have H3 := Lib.hid (takeNums_n (partA a3 (P + k1 + k2) c3) ((preF fN fs fl m).drop (P + k1 + k2)) (L3 - (P + k1 + k2)) (c3 - (P + k1 + k2)) wr (by rw [List.length_drop, e3]) (HJ.out.2.rest (P + k1 + k2) c3 (by omega)) (hpb.drop _) (by rw [List.length_drop]; omega) (by rw [List.length_drop]; omega))
            unfold ListPost at H3
            rw [x3, tk_P3 fl j hno, ← hk3] at H3
            clear x1 x2 x3 x4 x5 hpb hP hk1 hk2 hk3 e3 hno HKK3
            generalize (fs j) = S at *
            obtain ⟨lj, hlj⟩ : ∃ k, k = (fl j).length := ⟨_, rfl⟩
            have HLJ := Lib.hid hlj
            rw [← hlj] at q2 HNB hl50
            clear hlj
            generalize modW (fN j) = M at *
            go_wp2_with fail
            refine (H1.out).mono ?_
            rintro e w' ⟨rfl, rfl⟩
            go_wp2_with fail
            refine (num_any _ _).mono ?_
            rintro e w' ⟨rfl, rfl⟩
            go_wp2_with fail
            refine (HWI.out _).mono ?_
            rintro e w' ⟨rfl, rfl⟩
            go_wp2_with fail
            refine (H2.out).mono ?_
            rintro e w' ⟨rfl, rfl⟩
            go_wp2_with fail
            refine (num_any _ _).mono ?_
            rintro e w' ⟨rfl, rfl⟩
            go_wp2_with fail
            refine (HNB.out).mono ?_
            rintro e w' ⟨rfl, rfl⟩
            go_wp2_with fail
            refine (H3.out).mono ?_
            rintro e w8 ⟨v8, rfl, ho8, hb8⟩
            obtain ⟨a8, l8, c8, rfl, hl8, hr8, _⟩ := ho8.form'
            have HJ8 : Hid (Below w.heap.size w w8 ∧ RowK .u8 w8 a3 (preF fN fs fl m)) := ⟨HJ.out.1.trans (hb8.mono HJ.out.1.size), HJ.out.2.below hb8 (Nat.le_refl _)⟩
            have HRL8 : Hid (RowK .i64 w8 al (fl j)) := HRL.out.below hb8 (Nat.le_refl _)
            have q2' : w8.cell? ⟨b, off + j * 4 + 2, none⟩ = some (.slice al lj cl) := by rw [HLJ.out]; exact (HK.out.below HJ8.out.1 hbe).c2
            have HEQ := Lib.hid (eqI_yes a8 al (fl j) l8 lj c8 cl w8 hr8 HRL8.out hl8 HLJ.out (by rw [← HLJ.out]; omega))
            clear ho8 hb8 hl8 hr8 H1 H2 H3 HNB q0 q1 q2 q3 hsl1 hsl2 hsl3 HJ HRL HRL8
            go_wp2_with fail
            refine (num_any _ _).mono ?_
            rintro e w' ⟨rfl, rfl⟩
            go_wp2_with fail
            refine (HEQ.out).mono ?_
            rintro e w9 ⟨rfl, m9, rfl⟩
            go_wp2
            go_roundg (20 - (j + 1))
            case measure => omega
            case rel => exact ⟨j + 1, _, by go_num, rfl, by rw [HSUC.out]; omega, by omega, by omega, ⟨below_drewN HJ8.out.1 _, HJ8.out.2⟩⟩
        · obtain rfl : j = m := by omega
          have hjn : ¬ (j : Int) < (n : Int) := by omega
          have hjnd : decide ((j : Int) < (n : Int)) = false := decide_eq_false hjn
          have HW := Lib.hid (wakes_any wr)
          have hend : (((preF fN fs fl j).length : Int) == (L3 : Int)) = true := by rw [HL3.out]; simp
          have hends : ((preF fN fs fl j).length : Int) = (L3 : Int) := by rw [HL3.out]
          go_wp2_with fail
          refine (HW.out).mono ?_
          rintro e w9 ⟨rfl, hb9⟩
          have HZ : Hid (Below w.heap.size w w9) := HJ.out.1.trans (hb9.mono HJ.out.1.size)
          clear hb9 HW
          go_wp2
          go_ret
          exact ⟨rfl, HZ.out⟩
end Go.Proofs.Ytnckaefdajnkjaa
