/- The walk of CodeNums. -/
import Derived.Test.YtnckaefdajnkjaaK3
namespace Go.Proofs.Ytnckaefdajnkjaa
open Go.RowKit Go.Lib
set_option linter.unusedVariables false

/-- what is read of an ask, of its bytes, and of the world ahead -/
structure NS (w W : World) (gp : Nat) (N : Int) (s : ByteArray) (al : Option Addr) (ls : List Int) (cl : Nat) (ax : Option Addr) (nx cx : Nat) (a5 a7 a9 : Option Addr) : Prop where
  ask : AskAt W gp 0 N s al ls.length cl ax nx cx
  rl : RowK .i64 W al ls
  r5 : RowK .u8 W a5 (numE N)
  r7 : RowK .u8 W a7 (textE s)
  r9 : RowK .u8 W a9 (numsE ls)
  bel : Below w.heap.size w W
theorem NS.below {w W W' : World} {gp : Nat} {N : Int} {s : ByteArray} {al : Option Addr} {ls : List Int} {cl : Nat} {ax : Option Addr} {nx cx : Nat} {a5 a7 a9 : Option Addr} (h : NS w W gp N s al ls cl ax nx cx a5 a7 a9) (hb : Below W.heap.size W W') : NS w W' gp N s al ls cl ax nx cx a5 a7 a9 :=
  ⟨h.ask.below hb h.ask.lt, h.rl.below hb (Nat.le_refl _), h.r5.below hb (Nat.le_refl _), h.r7.below hb (Nat.le_refl _), h.r9.below hb (Nat.le_refl _), h.bel.trans (hb.mono h.bel.size)⟩
theorem rowG_of {B : Nat} {W W' : World} {a : Option Addr} {zs : List Int} {c : Nat} (ho : OwnK .u8 5 W' W.heap.size (.slice a zs.length c) zs) (hB : B ≤ W.heap.size) : RowG B W' a zs :=
  ⟨(RowK.ofOwn ho).1, fun h0 => by obtain ⟨b, off, e, hb⟩ := ho.rowGe h0; exact ⟨b, off, e, by omega⟩⟩
theorem refNum_z (z : Int) (W : World) (h : numB z = true) : Calls Try.prog 13 #[.int .i64 z] W (AppPost W.heap.size W (numE z)) := by
  have h2 := h
  simp only [numB, decide_eq_true_eq] at h2
  have := refNum_any z.toNat W (by omega)
  rw [show ((z.toNat : Nat) : Int) = z by omega] at this
  unfold numE
  rw [h]
  exact this
theorem refText_z (s : ByteArray) (W : World) (h : textB s = true) : Calls Try.prog 14 #[.string s] W (AppPost W.heap.size W (textE s)) := by
  have h2 := h
  simp only [textB, decide_eq_true_eq] at h2
  unfold textE
  rw [h]
  exact refText_any s W h2
theorem refNums_z (a : Option Addr) (l : List Int) (c : Nat) (W : World) (hr : RowK .i64 W a l) (h : numsOK l = true) : Calls Try.prog 16 #[.slice a l.length c] W (AppPost W.heap.size W (numsE l)) := by
  unfold numsE
  rw [h]
  exact refNums_any a l c W hr h
theorem errC_true {b : Bool} (h : b = true) : errC b = 0 := by rw [h]; rfl
theorem errC_false {b : Bool} (h : b = false) : errC b = 1 := by rw [h]; rfl

set_option maxHeartbeats 8000000 in
set_option maxRecDepth 100000 in
theorem codeNums_walk (a : Option Addr) (n cap : Nat) (w : World) (h : AsksIs w a n) :
    Calls Try.prog 3 #[.slice a n cap] w (BoolPost w true) := by
  have mixed : Try.prog.follows .mixedOrders = true := by kernel_rfl
  have HA := Lib.hid h
  clear h
  go_enter Try.func3, Try.ntmps3
  go_wp2
  go_loopg [3] 20 (fun g1 v wr => ∃ i : Nat, v = .int .i64 i ∧ i ≤ 20 ∧ 20 - i ≤ g1 ∧ Hid (Below w.heap.size w wr))
  case atStart => exact ⟨0, rfl, by omega, by omega, Below.refl _ _⟩
  case round =>
    obtain ⟨i, rfl, hi20, hg1, HB⟩ := hrel
    by_cases hin : i < n
    · have hinz : decide ((i : Int) < (n : Int)) = true := decide_eq_true (by omega)
      have hiny : (i : Int) < (n : Int) := by omega
      by_cases hi : i < 20
      · have hiz : decide ((i : Int) < 20) = true := decide_eq_true (by omega)
        have hiy : (i : Int) < 20 := by omega
        obtain ⟨b, off, Nn, s, al, ls, cl, ax, xs, cx, rfl, hask, hrl, hrx, hbx, hcx⟩ := HA.out i hin
        obtain ⟨q0, q1, q2, q3⟩ := hask.below HB.out hask.lt
        have hsz0 := HB.out.size
        have HRL0 : Hid (RowK .i64 wr al ls) := hrl.below HB.out (Nat.le_refl _)
        have HV := Lib.hid (heavy_any Nn s al ax ls.length cl xs.length cx (wr.alloc (.cells #[.int .i64 Nn, .string s, .slice al ls.length cl, .slice ax xs.length cx] 26)))
        clear hask hrl hrx hbx
        cases hhv : heavyB s.size ls.length xs.length
        · rw [hhv] at HV
          have hsl : s.size ≤ 65546 := by simp [heavyB] at hhv; omega
          have hll : ls.length ≤ 2000 := by simp [heavyB] at hhv; omega
          clear hhv
          go_wp2_with fail
          refine (HV.out).mono ?_
          rintro e w1 ⟨rfl, hb1⟩
          have HK1 : Hid (AskAt w1 wr.heap.size 0 Nn s al ls.length cl ax xs.length cx) := (ask_new wr Nn s al ax ls.length cl xs.length cx).below hb1 (by simp)
          have HRL1 : Hid (RowK .i64 w1 al ls) := (HRL0.out.alloc _).below hb1 (Nat.le_refl _)
          have HB1 : Hid (Below w.heap.size w w1) := (HB.out.alloc hsz0 _).trans (hb1.mono (by simp; omega))
          clear hb1 HV HRL0 HB q0 q1 q2 q3 hsz0
          generalize wr.heap.size = gp at *
          generalize xs.length = nx at *
          obtain ⟨p0, p1, p2, p3⟩ := HK1.out
          have H1 := Lib.hid (num_both Nn w1)
          obtain ⟨t0, ht0⟩ : ∃ t, t = errC (numB Nn) := ⟨_, rfl⟩
          rw [← ht0] at H1
          have HT0 := Lib.hid ht0
          clear ht0
          go_wp2_with fail
          refine (H1.out).mono ?_
          rintro e w2 ⟨v5, rfl, ho5, hb2⟩
          obtain ⟨a5, c5, rfl, hr5, _, _⟩ := ho5.form
          have HK2 : Hid (AskAt w2 gp 0 Nn s al ls.length cl ax nx cx) := HK1.out.below hb2 HK1.out.lt
          have HRL2 : Hid (RowK .i64 w2 al ls) := HRL1.out.below hb2 (Nat.le_refl _)
          have HR52 := Lib.hid hr5
          have HB2 : Hid (Below w.heap.size w w2) := HB1.out.trans (hb2.mono HB1.out.size)
          clear ho5 hb2 hr5 H1 HK1 HRL1 HB1 p0 p1 p2 p3
          obtain ⟨p0, p1, p2, p3⟩ := HK2.out
          have H1 := Lib.hid (text_both s w2)
          obtain ⟨t1, ht1⟩ : ∃ t, t = errC (textB s) := ⟨_, rfl⟩
          rw [← ht1] at H1
          have HT1 := Lib.hid ht1
          clear ht1
          go_wp2_with fail
          refine (H1.out).mono ?_
          rintro e w3 ⟨v7, rfl, ho7, hb3⟩
          obtain ⟨a7, c7, rfl, hr7, _, _⟩ := ho7.form
          have HK3 : Hid (AskAt w3 gp 0 Nn s al ls.length cl ax nx cx) := HK2.out.below hb3 HK2.out.lt
          have HRL3 : Hid (RowK .i64 w3 al ls) := HRL2.out.below hb3 (Nat.le_refl _)
          have HR53 : Hid (RowK .u8 w3 a5 (numE Nn)) := HR52.out.below hb3 (Nat.le_refl _)
          have HR73 := Lib.hid hr7
          have HB3 : Hid (Below w.heap.size w w3) := HB2.out.trans (hb3.mono HB2.out.size)
          clear ho7 hb3 hr7 H1 HK2 HRL2 HB2 HR52 p0 p1 p2 p3
          obtain ⟨p0, p1, p2, p3⟩ := HK3.out
          have H1 := Lib.hid (nums_both al ls cl w3 HRL3.out (by omega))
          obtain ⟨t2, ht2⟩ : ∃ t, t = errC (numsOK ls) := ⟨_, rfl⟩
          rw [← ht2] at H1
          have HT2 := Lib.hid ht2
          clear ht2
          go_wp2_with fail
          refine (H1.out).mono ?_
          rintro e w4 ⟨v9, rfl, ho9, hb4⟩
          obtain ⟨a9, c9, rfl, hr9, _, _⟩ := ho9.form
          have HS : Hid (NS w w4 gp Nn s al ls cl ax nx cx a5 a7 a9) := ⟨HK3.out.below hb4 HK3.out.lt, HRL3.out.below hb4 (Nat.le_refl _), HR53.out.below hb4 (Nat.le_refl _), HR73.out.below hb4 (Nat.le_refl _), hr9, HB3.out.trans (hb4.mono HB3.out.size)⟩
          clear ho9 hb4 hr9 H1 HK3 HRL3 HB3 HR53 HR73 p0 p1 p2 p3
          obtain ⟨gw, hgw⟩ : ∃ g, g = w4.heap.size := ⟨_, rfl⟩
          obtain ⟨gb, hgb⟩ : ∃ g, g = w4.heap.size + 1 := ⟨_, rfl⟩
          obtain ⟨W5, hW5⟩ : ∃ W, W = (w4.alloc (.cells #[.slice none 0 0, .slice none 0 0, .slice none 0 0] 33)).alloc (.cells #[.int .i64 1, .int .i64 1, .int .i64 1] 34) := ⟨_, rfl⟩
          have HN5 : Hid (NA w4 W5 gw gb none none none 0 0 0 [] [] [] 1 1 1) := by rw [hW5, hgw, hgb]; exact na_new w4
          go_upto_region 12 with fail
          rw [← hW5, ← hgb, ← hgw]
          clear hW5 hgw hgb
          obtain ⟨p0, p1, p2, p3⟩ := (HS.out.below HN5.out.bq).ask
          have HC := Lib.hid (fun W => number_any Nn W)
          go_upto_if 50 with (go_at_call 12; refine (HC.out _).mono ?_; rintro e w' ⟨rfl, rfl⟩)
          go_cut [11] from 13 to 112 (fun v wc => v = .pointer (some ⟨gw, 0, none⟩) ∧ Hid (∃ B0 D0, NA w4 wc gw gb B0 none none D0 0 0 (numE Nn) [] [] t0 1 1))
          case first =>
            cases hbo : numB Nn
            · skip
              go_wp2
              go_meet
              case rel => exact ⟨rfl, none, 0, by have h := HN5.out; rw [show numE Nn = [] from by unfold numE; rw [hbo]; rfl, show t0 = 1 from (by have h' := HT0.out; rw [hbo] at h'; exact h')]; exact h⟩
            · have HCL := Lib.hid (refNum_z Nn W5 hbo)
              go_wp2_with fail
              refine (HCL.out).mono ?_
              rintro e w6 ⟨v6, rfl, ho6, hb6⟩
              obtain ⟨a6, c6, rfl, hr6, _, _⟩ := ho6.form
              have HX6 := Lib.hid (HN5.out.below hb6)
              have HG6 := Lib.hid (rowG_of (B := gb + 1) ho6 (by have := HN5.out.B.lt; omega))
              have f0 := (HX6.out.A.cell 0)
              have f1 := (HX6.out.A.frozen 0)
              have f2 := ((HX6.out.B.other (show gb ≠ gw by have := HX6.out.gbe; omega) 0 (.slice a6 (numE Nn).length c6)).cell 0)
              have f3 := ((HX6.out.B.other (show gb ≠ gw by have := HX6.out.gbe; omega) 0 (.slice a6 (numE Nn).length c6)).frozen 0)
              simp at f0 f2
              have HZ := Lib.hid (HX6.out.set0 (d := c6) HG6.out)
              clear ho6 hb6 hr6 HX6 HG6 p0 p1 p2 p3
              go_wp2
              go_meet
              case rel => exact ⟨rfl, a6, c6, by rw [show t0 = 0 from (by have h' := HT0.out; rw [hbo] at h'; exact h')]; exact HZ.out⟩
          case rest =>
            obtain ⟨rfl, HX⟩ := hcut
            obtain ⟨bb0, dd0, hx⟩ := HX.out
            have HN6 := Lib.hid hx
            clear hx HX HN5 p0 p1 p2 p3
            obtain ⟨p0, p1, p2, p3⟩ := (HS.out.below HN6.out.bq).ask
            have HC : Hid (decide ((s.size : Int) ≤ 65536) = textB s) := by
              show _ = _
              unfold textB
              by_cases h : s.size ≤ 65536
              · rw [decide_eq_true h, decide_eq_true (by omega)]
              · rw [decide_eq_false h, decide_eq_false (by omega)]
            go_upto_if 59 with fail
            go_cut [11] from 13 to 112 (fun v wc => v = .pointer (some ⟨gw, 0, none⟩) ∧ Hid (∃ B0 D0, NA w4 wc gw gb bb0 B0 none dd0 D0 0 (numE Nn) (textE s) [] t0 t1 1))
            case first =>
              cases hbo : textB s
              · have hq : ¬ (s.size : Int) ≤ 65536 := by simp [textB] at hbo; omega
                have hqd : decide ((s.size : Int) ≤ 65536) = false := decide_eq_false hq
                go_wp2
                go_meet
                case rel => exact ⟨rfl, none, 0, by have h := HN6.out; rw [show textE s = [] from by unfold textE; rw [hbo]; rfl, show t1 = 1 from (by have h' := HT1.out; rw [hbo] at h'; exact h')]; exact h⟩
              · have HCL := Lib.hid (refText_z s wc hbo)
                have hq : (s.size : Int) ≤ 65536 := by simp [textB] at hbo; omega
                have hqd : decide ((s.size : Int) ≤ 65536) = true := decide_eq_true hq
                go_wp2_with fail
                refine (HCL.out).mono ?_
                rintro e w6 ⟨v6, rfl, ho6, hb6⟩
                obtain ⟨a6, c6, rfl, hr6, _, _⟩ := ho6.form
                have HX6 := Lib.hid (HN6.out.below hb6)
                have HG6 := Lib.hid (rowG_of (B := gb + 1) ho6 (by have := HN6.out.B.lt; omega))
                have f0 := (HX6.out.A.cell 1)
                have f1 := (HX6.out.A.frozen 1)
                have f2 := ((HX6.out.B.other (show gb ≠ gw by have := HX6.out.gbe; omega) 1 (.slice a6 (textE s).length c6)).cell 1)
                have f3 := ((HX6.out.B.other (show gb ≠ gw by have := HX6.out.gbe; omega) 1 (.slice a6 (textE s).length c6)).frozen 1)
                simp at f0 f2
                have HZ := Lib.hid (HX6.out.set1 (d := c6) HG6.out)
                clear ho6 hb6 hr6 HX6 HG6 p0 p1 p2 p3
                go_wp2
                go_meet
                case rel => exact ⟨rfl, a6, c6, by rw [show t1 = 0 from (by have h' := HT1.out; rw [hbo] at h'; exact h')]; exact HZ.out⟩
            case rest =>
              obtain ⟨rfl, HX⟩ := hcut
              obtain ⟨bb1, dd1, hx⟩ := HX.out
              have HN7 := Lib.hid hx
              clear hx HX HN6 p0 p1 p2 p3
              obtain ⟨p0, p1, p2, p3⟩ := (HS.out.below HN7.out.bq).ask
              have HC := Lib.hid (numbers_any al ls cl wc ((HS.out.below HN7.out.bq).rl) (by omega))
              go_upto_if 67 with (go_at_call 15; refine (HC.out).mono ?_; rintro e w' ⟨rfl, rfl⟩)
              go_cut [11] from 13 to 112 (fun v wc => v = .pointer (some ⟨gw, 0, none⟩) ∧ Hid (∃ B0 D0, NA w4 wc gw gb bb0 bb1 B0 dd0 dd1 D0 (numE Nn) (textE s) (numsE ls) t0 t1 t2))
              case first =>
                cases hbo : numsOK ls
                · skip
                  go_wp2
                  go_meet
                  case rel => exact ⟨rfl, none, 0, by have h := HN7.out; rw [show numsE ls = [] from by unfold numsE; rw [hbo]; rfl, show t2 = 1 from (by have h' := HT2.out; rw [hbo] at h'; exact h')]; exact h⟩
                · have HCL := Lib.hid (refNums_z al ls cl wc ((HS.out.below HN7.out.bq).rl) hbo)
                  go_wp2_with fail
                  refine (HCL.out).mono ?_
                  rintro e w6 ⟨v6, rfl, ho6, hb6⟩
                  obtain ⟨a6, c6, rfl, hr6, _, _⟩ := ho6.form
                  have HX6 := Lib.hid (HN7.out.below hb6)
                  have HG6 := Lib.hid (rowG_of (B := gb + 1) ho6 (by have := HN7.out.B.lt; omega))
                  have f0 := (HX6.out.A.cell 2)
                  have f1 := (HX6.out.A.frozen 2)
                  have f2 := ((HX6.out.B.other (show gb ≠ gw by have := HX6.out.gbe; omega) 2 (.slice a6 (numsE ls).length c6)).cell 2)
                  have f3 := ((HX6.out.B.other (show gb ≠ gw by have := HX6.out.gbe; omega) 2 (.slice a6 (numsE ls).length c6)).frozen 2)
                  simp at f0 f2
                  have HZ := Lib.hid (HX6.out.set2 (d := c6) HG6.out)
                  clear ho6 hb6 hr6 HX6 HG6 p0 p1 p2 p3
                  go_wp2
                  go_meet
                  case rel => exact ⟨rfl, a6, c6, by rw [show t2 = 0 from (by have h' := HT2.out; rw [hbo] at h'; exact h')]; exact HZ.out⟩
              case rest =>
                obtain ⟨rfl, HX⟩ := hcut
                obtain ⟨bb2, dd2, hx⟩ := HX.out
                have HN8 := Lib.hid hx
                clear hx HX HN7 p0 p1 p2 p3
                have HF := Lib.hid (HS.out.below HN8.out.bq)
                have k0 : wc.cell? ⟨gw, 0, none⟩ = some (.slice bb0 (numE Nn).length dd0) := HN8.out.A.cell 0
                have k1 : wc.cell? ⟨gw, 1, none⟩ = some (.slice bb1 (textE s).length dd1) := HN8.out.A.cell 1
                have k2 : wc.cell? ⟨gw, 2, none⟩ = some (.slice bb2 (numsE ls).length dd2) := HN8.out.A.cell 2
                have k3 : wc.cell? ⟨gb, 0, none⟩ = some (.int .i64 t0) := HN8.out.B.cell 0
                have k4 : wc.cell? ⟨gb, 1, none⟩ = some (.int .i64 t1) := HN8.out.B.cell 1
                have k5 : wc.cell? ⟨gb, 2, none⟩ = some (.int .i64 t2) := HN8.out.B.cell 2
                have HE0 := Lib.hid (quiet_eqB a5 bb0 (numE Nn) _ _ c5 dd0 wc HF.out.r5 HN8.out.r0.1 rfl rfl (by have := numE_len Nn; omega))
                have HE1 := Lib.hid (quiet_eqB a7 bb1 (textE s) _ _ c7 dd1 wc HF.out.r7 HN8.out.r1.1 rfl rfl (by have := textE_len s hsl; omega))
                have HE2 := Lib.hid (quiet_eqB a9 bb2 (numsE ls) _ _ c9 dd2 wc HF.out.r9 HN8.out.r2.1 rfl rfl (by have := numsE_len ls; omega))
                have z0 : (t0 != t0) = false := by simp
                have z1 : (t1 != t1) = false := by simp
                have z2 : (t2 != t2) = false := by simp
                have HZ := Lib.hid HF.out.bel
                clear HF HN8 HS HT0 HT1 HT2
                generalize (numE Nn).length = l5 at *
                generalize (textE s).length = l7 at *
                generalize (numsE ls).length = l9 at *
                go_wp2_with fail
                go_quiet (first | (go_at_call 17; exact quiet_left (num_any _ _)) | (go_at_call_of 18 (Value.slice a5 l5 c5); exact HE0.out _) | (go_at_call_of 18 (Value.slice a7 l7 c7); exact HE1.out _) | (go_at_call_of 18 (Value.slice a9 l9 c9); exact HE2.out _))
                go_wp2
                go_roundg (20 - (i + 1))
                case measure => omega
                case rel => exact ⟨i + 1, by go_num, by omega, by omega, below_drewN HZ.out _⟩
        · rw [hhv] at HV
          clear hhv
          go_wp2_with fail
          refine (HV.out).mono ?_
          rintro e w1 ⟨rfl, hb1⟩
          have HZ : Hid (Below w.heap.size w w1) := (HB.out.alloc hsz0 _).trans (hb1.mono (by simp; omega))
          clear hb1 HV
          go_wp2
          go_ret
          exact ⟨rfl, HZ.out⟩
      · have hiz : decide ((i : Int) < 20) = false := decide_eq_false (by omega)
        have hiy : ¬ (i : Int) < 20 := by omega
        have HW := Lib.hid (wakes_any wr)
        go_wp2_with fail
        refine (HW.out).mono ?_
        rintro e w1 ⟨rfl, hb1⟩
        have HZ : Hid (Below w.heap.size w w1) := HB.out.trans (hb1.mono HB.out.size)
        clear hb1 HW
        go_wp2
        go_ret
        exact ⟨rfl, HZ.out⟩
    · have hinz : decide ((i : Int) < (n : Int)) = false := decide_eq_false (by omega)
      have hiny : ¬ (i : Int) < (n : Int) := by omega
      have HW := Lib.hid (wakes_any wr)
      go_wp2_with fail
      refine (HW.out).mono ?_
      rintro e w1 ⟨rfl, hb1⟩
      have HZ : Hid (Below w.heap.size w w1) := HB.out.trans (hb1.mono HB.out.size)
      clear hb1 HW
      go_wp2
      go_ret
      exact ⟨rfl, HZ.out⟩
end Go.Proofs.Ytnckaefdajnkjaa
