/- The walk of PointBoxes. -/
import Derived.Test.YtjoeogdkcggmdaaL0
namespace Go.Proofs.Ytjoeogdkcggmdaa
open Go.RowKit Go.Lib
set_option linter.unusedVariables false

set_option maxHeartbeats 4000000 in
set_option maxRecDepth 100000 in
theorem pointBoxes_walk (a : Option Addr) (n cap : Nat) (w : World) (h : AsksIs w a n) :
    Calls Try.prog 6 #[.slice a n cap] w fun e w' => e = .returned (.bool true) ∧ Below w.heap.size w w' := by
  have mixed : Try.prog.follows .mixedOrders = true := by kernel_rfl
  have HA := Lib.hid h
  clear h
  go_enter Try.func6, Try.ntmps6
  go_wp2
  go_loopg [3] 12 (fun g1 v wr => ∃ i : Nat, v = .int .i64 i ∧ i ≤ 12 ∧ 12 - i ≤ g1 ∧ Hid (Below w.heap.size w wr))
  case atStart => exact ⟨0, rfl, by omega, by omega, Below.refl _ _⟩
  case round =>
    obtain ⟨i, rfl, hi12, hg1, HB⟩ := hrel
    by_cases hin : i < n
    · have hinz : decide ((i : Int) < (n : Int)) = true := decide_eq_true (by omega)
      have hiny : (i : Int) < (n : Int) := by omega
      by_cases hi : i < 12
      · have hiz : decide ((i : Int) < 12) = true := decide_eq_true (by omega)
        have hiy : (i : Int) < 12 := by omega
        obtain ⟨b, off, x, y, f, rfl, hask, hbl⟩ := HA.out i hin
        have hS0 := held_mk (hask.below hbl HB.out).drew (HB.out).drew
        clear hask
        go_wp2_with fail
        go_region_held3 (fun w' => w'.cell? ⟨b, off + i * 10, none⟩ = some (.int .i64 x) ∧ w'.cell? ⟨b, off + i * 10 + 1, none⟩ = some (.int .i64 y) ∧ w'.cell? ⟨b, off + i * 10 + 2, none⟩ = some (.float .f64 (f 0)) ∧ w'.cell? ⟨b, off + i * 10 + 3, none⟩ = some (.float .f64 (f 1)) ∧ w'.cell? ⟨b, off + i * 10 + 4, none⟩ = some (.float .f64 (f 2)) ∧ w'.cell? ⟨b, off + i * 10 + 5, none⟩ = some (.float .f64 (f 3)) ∧ w'.cell? ⟨b, off + i * 10 + 6, none⟩ = some (.float .f64 (f 4)) ∧ w'.cell? ⟨b, off + i * 10 + 7, none⟩ = some (.float .f64 (f 5)) ∧ w'.cell? ⟨b, off + i * 10 + 8, none⟩ = some (.float .f64 (f 6)) ∧ w'.cell? ⟨b, off + i * 10 + 9, none⟩ = some (.float .f64 (f 7)) ∧ Hid (Below w.heap.size w w')) (assumption) (first | (go_at_call 14; with_reducible refine (c0_any x y f _).mono ?_; rintro e w1 ⟨rfl, hB1⟩; have hS1 := held_next (n := w.heap.size) (w0 := w) (by assumption) hB1 (Nat.le_refl _)) | (go_at_call 14; with_reducible refine (c1_any x y f _).mono ?_; rintro e w2 ⟨rfl, hB2⟩; have hS2 := held_next (n := w.heap.size) (w0 := w) (by assumption) hB2 (Nat.le_refl _)) | (go_at_call 14; with_reducible refine (c2_any x y f _).mono ?_; rintro e w3 ⟨rfl, hB3⟩; have hS3 := held_next (n := w.heap.size) (w0 := w) (by assumption) hB3 (Nat.le_refl _)) | (go_at_call 14; with_reducible refine (c3_any x y f _).mono ?_; rintro e w4 ⟨rfl, hB4⟩; have hS4 := held_next (n := w.heap.size) (w0 := w) (by assumption) hB4 (Nat.le_refl _)))
        have HB4 := Lib.hid (held_out hS4).2
        rename_i hHeld
        clear hHeld hS0 hS1 hS2 hS3 hS4 hB1 hB2 hB3 hB4
        cases hbx : isBox (f 0) (f 1) (f 2) (f 3)
        · have hb : (isBox (f 0) (f 1) (f 2) (f 3) && isBox (f 4) (f 5) (f 6) (f 7)) = false := by rw [hbx]; rfl
          have D := Lib.hid (fun w => join_no (f 0) (f 1) (f 2) (f 3) (f 4) (f 5) (f 6) (f 7) w hb)
          have E := Lib.hid (fun w => meet_no (f 0) (f 1) (f 2) (f 3) (f 4) (f 5) (f 6) (f 7) w hb)
          have C := Lib.hid (fun w => refBox_is (f 0) (f 1) (f 2) (f 3) _ w hbx)
          clear hbx hb
          go_wp2_with fail
          refine (D.out _).mono ?_
          rintro e w5 ⟨rfl, hb5⟩
          go_wp2_with fail
          refine (E.out _).mono ?_
          rintro e w6 ⟨rfl, hb6⟩
          have HZ : Hid (Below w.heap.size w w6) := HB4.out.trans ((hb5.mono HB4.out.size).trans (hb6.mono (Nat.le_trans HB4.out.size hb5.size)))
          clear hb5 hb6
          go_wp2_with fail
          refine (C.out _).mono ?_
          rintro e w' ⟨rfl, rfl⟩
          go_wp2_with fail
          refine (num_any _ _).mono ?_
          rintro e w' ⟨rfl, rfl⟩
          go_wp2_with fail
          refine (num_any _ _).mono ?_
          rintro e w' ⟨rfl, rfl⟩
          go_wp2_with fail
          go_roundg (12 - (i + 1))
          case measure => omega
          case rel => exact ⟨i + 1, by go_num, by omega, by omega, HZ.out⟩
        · cases hbx2 : isBox (f 4) (f 5) (f 6) (f 7)
          · have hb : (isBox (f 0) (f 1) (f 2) (f 3) && isBox (f 4) (f 5) (f 6) (f 7)) = false := by rw [hbx, hbx2]; rfl
            have D := Lib.hid (fun w => join_no (f 0) (f 1) (f 2) (f 3) (f 4) (f 5) (f 6) (f 7) w hb)
            have E := Lib.hid (fun w => meet_no (f 0) (f 1) (f 2) (f 3) (f 4) (f 5) (f 6) (f 7) w hb)
            have C := Lib.hid (fun w => refBox_is (f 0) (f 1) (f 2) (f 3) _ w hbx)
            have C2 := Lib.hid (fun w => refBox_is (f 4) (f 5) (f 6) (f 7) _ w hbx2)
            clear hbx hbx2 hb
            go_wp2_with fail
            refine (D.out _).mono ?_
            rintro e w5 ⟨rfl, hb5⟩
            go_wp2_with fail
            refine (E.out _).mono ?_
            rintro e w6 ⟨rfl, hb6⟩
            have HZ : Hid (Below w.heap.size w w6) := HB4.out.trans ((hb5.mono HB4.out.size).trans (hb6.mono (Nat.le_trans HB4.out.size hb5.size)))
            clear hb5 hb6
            go_wp2_with fail
            refine (C.out _).mono ?_
            rintro e w' ⟨rfl, rfl⟩
            go_wp2_with fail
            refine (C2.out _).mono ?_
            rintro e w' ⟨rfl, rfl⟩
            go_wp2_with fail
            refine (num_any _ _).mono ?_
            rintro e w' ⟨rfl, rfl⟩
            go_wp2_with fail
            refine (num_any _ _).mono ?_
            rintro e w' ⟨rfl, rfl⟩
            go_wp2_with fail
            go_roundg (12 - (i + 1))
            case measure => omega
            case rel => exact ⟨i + 1, by go_num, by omega, by omega, HZ.out⟩
          · have h1 := bx_of hbx
            have h2 := bx_of hbx2
            have C := Lib.hid (fun w => refBox_is (f 0) (f 1) (f 2) (f 3) _ w hbx)
            have C2 := Lib.hid (fun w => refBox_is (f 4) (f 5) (f 6) (f 7) _ w hbx2)
            have D := Lib.hid (fun w => join_yes (f 0) (f 1) (f 2) (f 3) (f 4) (f 5) (f 6) (f 7) _ _ _ _ _ _ _ _ w h1 h2)
            have G := Lib.hid (fun w => refJoin_bx (f 0) (f 1) (f 2) (f 3) (f 4) (f 5) (f 6) (f 7) _ _ _ _ _ _ _ _ w h1 h2)
            have p1 := h1.p
            have p2 := h2.p
            cases hm : meetB (partOf (f 0)) (partOf (f 1)) (partOf (f 2)) (partOf (f 3)) (partOf (f 4)) (partOf (f 5)) (partOf (f 6)) (partOf (f 7))
            · have E := Lib.hid (fun w => meet_out (f 0) (f 1) (f 2) (f 3) (f 4) (f 5) (f 6) (f 7) _ _ _ _ _ _ _ _ w h1 h2 hm)
              have H := Lib.hid (fun w => refMeet_out (f 0) (f 1) (f 2) (f 3) (f 4) (f 5) (f 6) (f 7) _ _ _ _ _ _ _ _ w h1 h2 hm)
              have PJ : Pt (fl (min (partOf (f 0)) (partOf (f 4)))) (fl (min (partOf (f 1)) (partOf (f 5)))) _ _ := pt_fl (by have := p1.x1; have := p2.x1; omega) (by have := p1.x2; have := p2.x2; omega) (by have := p1.y1; have := p2.y1; omega) (by have := p1.y2; have := p2.y2; omega)
              have PK := pt_sat (max (farI (partOf (f 0)) (partOf (f 2))) (farI (partOf (f 4)) (partOf (f 6))) - min (partOf (f 0)) (partOf (f 4))) (max (farI (partOf (f 1)) (partOf (f 3))) (farI (partOf (f 5)) (partOf (f 7))) - min (partOf (f 1)) (partOf (f 5)))
              have q1 := eq_wh PJ.wa PJ.wa
              have q2 := eq_wh PJ.wb PJ.wb
              have q3 := eq_wh PK.wa PK.wa
              have q4 := eq_wh PK.wb PK.wb
              rw [decide_eq_true rfl] at q1 q2 q3 q4
              have K1 := Lib.hid (fun w => clean_fl _ _ w PJ.x1 PJ.x2 PJ.y1 PJ.y2)
              have K2 := Lib.hid (fun w => clean_fl _ _ w PK.x1 PK.x2 PK.y1 PK.y2)
              have q5 := eq_wh wh_zero wh_zero
              rw [decide_eq_true rfl] at q5
              have K3 := Lib.hid (fun w => clean_fl 0 0 w (by decide) (by decide) (by decide) (by decide))
              rw [fl_zero] at K3
              have K4 := Lib.hid K3.out
              clear hm h1 h2 p1 p2 PJ PK hbx hbx2
              generalize fl (min (partOf (f 0)) (partOf (f 4))) = j1 at *
              generalize fl (min (partOf (f 1)) (partOf (f 5))) = j2 at *
              generalize fl (satI (max (farI (partOf (f 0)) (partOf (f 2))) (farI (partOf (f 4)) (partOf (f 6))) - min (partOf (f 0)) (partOf (f 4)))) = j3 at *
              generalize fl (satI (max (farI (partOf (f 1)) (partOf (f 3))) (farI (partOf (f 5)) (partOf (f 7))) - min (partOf (f 1)) (partOf (f 5)))) = j4 at *
              go_wp2_with fail
              refine (D.out _).mono ?_
              rintro e w5 ⟨rfl, hb5⟩
              go_wp2_with fail
              refine (E.out _).mono ?_
              rintro e w6 ⟨rfl, hb6⟩
              have HZ : Hid (Below w.heap.size w w6) := HB4.out.trans ((hb5.mono HB4.out.size).trans (hb6.mono (Nat.le_trans HB4.out.size hb5.size)))
              clear hb5 hb6
              go_wp2_with fail
              refine (C.out _).mono ?_
              rintro e w' ⟨rfl, rfl⟩
              go_wp2_with fail
              refine (C2.out _).mono ?_
              rintro e w' ⟨rfl, rfl⟩
              go_wp2_with fail
              refine (G.out _).mono ?_
              rintro e w' ⟨rfl, rfl⟩
              go_wp2_with fail
              refine (H.out _).mono ?_
              rintro e w' ⟨rfl, rfl⟩
              go_wp2_with fail
              refine (num_any _ _).mono ?_
              rintro e w' ⟨rfl, rfl⟩
              go_wp2_with fail
              refine (num_any _ _).mono ?_
              rintro e w' ⟨rfl, rfl⟩
              go_wp2_with fail
              refine (K1.out _).mono ?_
              rintro e w' ⟨rfl, rfl⟩
              go_wp2_with fail
              refine (K2.out _).mono ?_
              rintro e w' ⟨rfl, rfl⟩
              go_wp2_with fail
              refine (K3.out _).mono ?_
              rintro e w' ⟨rfl, rfl⟩
              go_wp2_with fail
              refine (K4.out _).mono ?_
              rintro e w' ⟨rfl, rfl⟩
              go_wp2_with fail
              go_roundg (12 - (i + 1))
              case measure => omega
              case rel => exact ⟨i + 1, by go_num, by omega, by omega, HZ.out⟩
            · have E := Lib.hid (fun w => meet_in (f 0) (f 1) (f 2) (f 3) (f 4) (f 5) (f 6) (f 7) _ _ _ _ _ _ _ _ w h1 h2 hm)
              have H := Lib.hid (fun w => refMeet_in (f 0) (f 1) (f 2) (f 3) (f 4) (f 5) (f 6) (f 7) _ _ _ _ _ _ _ _ w h1 h2 hm)
              have PJ : Pt (fl (min (partOf (f 0)) (partOf (f 4)))) (fl (min (partOf (f 1)) (partOf (f 5)))) _ _ := pt_fl (by have := p1.x1; have := p2.x1; omega) (by have := p1.x2; have := p2.x2; omega) (by have := p1.y1; have := p2.y1; omega) (by have := p1.y2; have := p2.y2; omega)
              have PK := pt_sat (max (farI (partOf (f 0)) (partOf (f 2))) (farI (partOf (f 4)) (partOf (f 6))) - min (partOf (f 0)) (partOf (f 4))) (max (farI (partOf (f 1)) (partOf (f 3))) (farI (partOf (f 5)) (partOf (f 7))) - min (partOf (f 1)) (partOf (f 5)))
              have q1 := eq_wh PJ.wa PJ.wa
              have q2 := eq_wh PJ.wb PJ.wb
              have q3 := eq_wh PK.wa PK.wa
              have q4 := eq_wh PK.wb PK.wb
              rw [decide_eq_true rfl] at q1 q2 q3 q4
              have K1 := Lib.hid (fun w => clean_fl _ _ w PJ.x1 PJ.x2 PJ.y1 PJ.y2)
              have K2 := Lib.hid (fun w => clean_fl _ _ w PK.x1 PK.x2 PK.y1 PK.y2)
              have PM : Pt (fl (max (partOf (f 0)) (partOf (f 4)))) (fl (max (partOf (f 1)) (partOf (f 5)))) _ _ := pt_fl (by have := p1.x1; have := p2.x1; omega) (by have := p1.x2; have := p2.x2; omega) (by have := p1.y1; have := p2.y1; omega) (by have := p1.y2; have := p2.y2; omega)
              have PN := pt_sat (min (farI (partOf (f 0)) (partOf (f 2))) (farI (partOf (f 4)) (partOf (f 6))) - max (partOf (f 0)) (partOf (f 4))) (min (farI (partOf (f 1)) (partOf (f 3))) (farI (partOf (f 5)) (partOf (f 7))) - max (partOf (f 1)) (partOf (f 5)))
              have q5 := eq_wh PM.wa PM.wa
              have q6 := eq_wh PM.wb PM.wb
              have q7 := eq_wh PN.wa PN.wa
              have q8 := eq_wh PN.wb PN.wb
              rw [decide_eq_true rfl] at q5 q6 q7 q8
              have K3 := Lib.hid (fun w => clean_fl _ _ w PM.x1 PM.x2 PM.y1 PM.y2)
              have K4 := Lib.hid (fun w => clean_fl _ _ w PN.x1 PN.x2 PN.y1 PN.y2)
              clear hm h1 h2 p1 p2 PJ PK PM PN hbx hbx2
              generalize fl (min (partOf (f 0)) (partOf (f 4))) = j1 at *
              generalize fl (min (partOf (f 1)) (partOf (f 5))) = j2 at *
              generalize fl (satI (max (farI (partOf (f 0)) (partOf (f 2))) (farI (partOf (f 4)) (partOf (f 6))) - min (partOf (f 0)) (partOf (f 4)))) = j3 at *
              generalize fl (satI (max (farI (partOf (f 1)) (partOf (f 3))) (farI (partOf (f 5)) (partOf (f 7))) - min (partOf (f 1)) (partOf (f 5)))) = j4 at *
              generalize fl (max (partOf (f 0)) (partOf (f 4))) = m1 at *
              generalize fl (max (partOf (f 1)) (partOf (f 5))) = m2 at *
              generalize fl (satI (min (farI (partOf (f 0)) (partOf (f 2))) (farI (partOf (f 4)) (partOf (f 6))) - max (partOf (f 0)) (partOf (f 4)))) = m3 at *
              generalize fl (satI (min (farI (partOf (f 1)) (partOf (f 3))) (farI (partOf (f 5)) (partOf (f 7))) - max (partOf (f 1)) (partOf (f 5)))) = m4 at *
              go_wp2_with fail
              refine (D.out _).mono ?_
              rintro e w5 ⟨rfl, hb5⟩
              go_wp2_with fail
              refine (E.out _).mono ?_
              rintro e w6 ⟨rfl, hb6⟩
              have HZ : Hid (Below w.heap.size w w6) := HB4.out.trans ((hb5.mono HB4.out.size).trans (hb6.mono (Nat.le_trans HB4.out.size hb5.size)))
              clear hb5 hb6
              go_wp2_with fail
              refine (C.out _).mono ?_
              rintro e w' ⟨rfl, rfl⟩
              go_wp2_with fail
              refine (C2.out _).mono ?_
              rintro e w' ⟨rfl, rfl⟩
              go_wp2_with fail
              refine (G.out _).mono ?_
              rintro e w' ⟨rfl, rfl⟩
              go_wp2_with fail
              refine (H.out _).mono ?_
              rintro e w' ⟨rfl, rfl⟩
              go_wp2_with fail
              refine (num_any _ _).mono ?_
              rintro e w' ⟨rfl, rfl⟩
              go_wp2_with fail
              refine (num_any _ _).mono ?_
              rintro e w' ⟨rfl, rfl⟩
              go_wp2_with fail
              refine (K1.out _).mono ?_
              rintro e w' ⟨rfl, rfl⟩
              go_wp2_with fail
              refine (K2.out _).mono ?_
              rintro e w' ⟨rfl, rfl⟩
              go_wp2_with fail
              refine (K3.out _).mono ?_
              rintro e w' ⟨rfl, rfl⟩
              go_wp2_with fail
              refine (K4.out _).mono ?_
              rintro e w' ⟨rfl, rfl⟩
              go_wp2_with fail
              go_roundg (12 - (i + 1))
              case measure => omega
              case rel => exact ⟨i + 1, by go_num, by omega, by omega, HZ.out⟩
      · have hiz : decide ((i : Int) < 12) = false := decide_eq_false (by omega)
        have hiy : ¬ (i : Int) < 12 := by omega
        have HW := Lib.hid (wakes_any wr)
        go_wp2_with fail
        refine (HW.out).mono ?_
        rintro e w1 ⟨rfl, hb1⟩
        have HZ : Hid (Below w.heap.size w w1) := HB.out.trans (hb1.mono HB.out.size)
        clear hb1 HW
        go_wp2
        go_ret
        exact ⟨rfl, HZ.out⟩
    · have hinz : decide ((i : Int) < (n : Int)) = false := decide_eq_false (by omega)
      have hiny : ¬ (i : Int) < (n : Int) := by omega
      have HW := Lib.hid (wakes_any wr)
      go_wp2_with fail
      refine (HW.out).mono ?_
      rintro e w1 ⟨rfl, hb1⟩
      have HZ : Hid (Below w.heap.size w w1) := HB.out.trans (hb1.mono HB.out.size)
      clear hb1 HW
      go_wp2
      go_ret
      exact ⟨rfl, HZ.out⟩
end Go.Proofs.Ytjoeogdkcggmdaa
