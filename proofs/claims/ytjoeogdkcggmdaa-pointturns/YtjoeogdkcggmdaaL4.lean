/- The walk of PointTurns. -/
import Derived.Test.YtjoeogdkcggmdaaL0
import Derived.IntWalk
namespace Go.Proofs.Ytjoeogdkcggmdaa
open Go.RowKit Go.Lib
set_option linter.unusedVariables false

set_option maxHeartbeats 8000000 in
set_option maxRecDepth 100000 in
theorem pointTurns_walk (a : Option Addr) (n cap : Nat) (w : World) (h : AsksIs w a n) :
    Calls Try.prog 8 #[.slice a n cap] w fun e w' => e = .returned (.bool true) ∧ Below w.heap.size w w' := by
  have mixed : Try.prog.follows .mixedOrders = true := by kernel_rfl
  have HA := Lib.hid h
  clear h
  go_enter Try.func8, Try.ntmps8
  go_wp2
  go_loopg [3] 12 (fun g1 v wr => ∃ i : Nat, v = .int .i64 i ∧ i ≤ 12 ∧ 12 - i ≤ g1 ∧ Hid (Below w.heap.size w wr))
  case atStart => exact ⟨0, rfl, by omega, by omega, Below.refl _ _⟩
  case round =>
    obtain ⟨i, rfl, hi12, hg1, HB⟩ := hrel
    by_cases hin : i < n
    · have hinz : decide ((i : Int) < (n : Int)) = true := decide_eq_true (by omega)
      have hiny : (i : Int) < (n : Int) := by omega
      by_cases hi : i < 12
      · have hiz : decide ((i : Int) < 12) = true := decide_eq_true (by omega)
        have hiy : (i : Int) < 12 := by omega
        obtain ⟨b, off, x, y, f, rfl, hask, hbl⟩ := HA.out i hin
        have HK := Lib.hid hask
        clear hask
        go_wp2_with fail
        go_loopg [4] 4 (fun g2 v wr => ∃ k : Nat, v = .int .i64 k ∧ k ≤ 4 ∧ 4 - k ≤ g2 ∧ Hid (Below w.heap.size w wr))
        case atStart => exact ⟨0, rfl, by omega, by omega, HB.out⟩
        case round =>
          clear HB
          obtain ⟨k, rfl, hk4, hg2, HB⟩ := hrel
          by_cases hk : k < 4
          · have hkz : decide ((k : Int) < 4) = true := decide_eq_true (by omega)
            have hky : (k : Int) < 4 := by omega
            obtain ⟨k2, hk2, hkk⟩ : ∃ k2 : Nat, k2 < 4 ∧ ((k : Int) + 1).tmod 4 = (k2 : Int) := ⟨(k + 1) % 4, by omega, by rw [Int.tmod_eq_emod_of_nonneg (by omega)]; omega⟩
            have hS0 := held_mk (HK.out.below hbl HB.out).drew (HB.out).drew
            have hkw : IntKind.i64.wrap ((k : Int) + 1) = (k : Int) + 1 := IntWalk.i64_in _ (by omega)
            go_wp2_with fail
            go_region_held3 (fun w' => w'.cell? ⟨b, off + i * 10, none⟩ = some (.int .i64 x) ∧ w'.cell? ⟨b, off + i * 10 + 1, none⟩ = some (.int .i64 y) ∧ w'.cell? ⟨b, off + i * 10 + 2, none⟩ = some (.float .f64 (f 0)) ∧ w'.cell? ⟨b, off + i * 10 + 3, none⟩ = some (.float .f64 (f 1)) ∧ w'.cell? ⟨b, off + i * 10 + 4, none⟩ = some (.float .f64 (f 2)) ∧ w'.cell? ⟨b, off + i * 10 + 5, none⟩ = some (.float .f64 (f 3)) ∧ w'.cell? ⟨b, off + i * 10 + 6, none⟩ = some (.float .f64 (f 4)) ∧ w'.cell? ⟨b, off + i * 10 + 7, none⟩ = some (.float .f64 (f 5)) ∧ w'.cell? ⟨b, off + i * 10 + 8, none⟩ = some (.float .f64 (f 6)) ∧ w'.cell? ⟨b, off + i * 10 + 9, none⟩ = some (.float .f64 (f 7)) ∧ Hid (Below w.heap.size w w')) (assumption) (first | (go_at_call 14; with_reducible refine (c_any k hk x y f _).mono ?_; rintro e w1 ⟨rfl, hB1⟩; have hS1 := held_next (n := w.heap.size) (w0 := w) (by assumption) hB1 (Nat.le_refl _)) | (go_at_call 14; with_reducible refine (c_any k2 hk2 x y f _).mono ?_; rintro e w2 ⟨rfl, hB2⟩; have hS2 := held_next (n := w.heap.size) (w0 := w) (by assumption) hB2 (Nat.le_refl _)))
            have HB2 := Lib.hid (held_out hS2).2
            rename_i hHeld
            clear hHeld hS0 hS1 hS2 hB1 hB2 hkw hkk hkz hiz hinz
            generalize f (2 * k) = p1
            generalize f (2 * k + 1) = p2
            generalize f (2 * k2) = q1
            generalize f (2 * k2 + 1) = q2
            cases h1 : isPt p1 p2
            · have C := Lib.hid (fun w => turn_no p1 p2 w h1)
              clear h1
              go_wp2_with fail
              refine (C.out _).mono ?_
              rintro e w3 ⟨rfl, hb3⟩
              have HZ : Hid (Below w.heap.size w w3) := HB2.out.trans (hb3.mono HB2.out.size)
              clear hb3
              go_wp2_with fail
              refine (num_any _ _).mono ?_
              rintro e w' ⟨rfl, rfl⟩
              go_wp2_with fail
              go_roundg (4 - (k + 1))
              case measure => omega
              case rel => exact ⟨k + 1, by go_num, by omega, by omega, HZ.out⟩
            · have g1 := pt_of h1
              have gt : Pt (fl (partOf p2)) (fl (partOf p1)) _ _ := pt_fl g1.y1 g1.y2 g1.x1 g1.x2
              have C := Lib.hid (fun w => turn_yes p1 p2 _ _ w g1)
              have C2 := Lib.hid (fun w => turn_yes _ _ _ _ w gt)
              have e1 := eq_wh gt.wb g1.wa
              have e2 := eq_wh gt.wa g1.wb
              have e3 := ne_wh gt.wb g1.wa
              have e4 := ne_wh gt.wa g1.wb
              rw [decide_eq_true rfl] at e1 e2
              rw [decide_eq_false (by simp)] at e3 e4
              cases h2 : isPt q1 q2
              · have D := Lib.hid (fun w => add_no p1 p2 q1 q2 w (by rw [h1, h2]; rfl))
                have E := Lib.hid (fun w => add_no q1 q2 p1 p2 w (by rw [h1, h2]; rfl))
                have e5 := eq_wh wh_zero wh_zero
                rw [decide_eq_true rfl] at e5
                clear h1 h2 g1 gt
                generalize fl (partOf p1) = r1 at *
                generalize fl (partOf p2) = r2 at *
                go_wp2_with fail
                refine (C.out _).mono ?_
                rintro e w3 ⟨rfl, hb3⟩
                go_wp2_with fail
                refine (num_any _ _).mono ?_
                rintro e w' ⟨rfl, rfl⟩
                go_wp2_with fail
                refine (C2.out _).mono ?_
                rintro e w4 ⟨rfl, hb4⟩
                have HZ4 : Hid (Below w.heap.size w w4) := HB2.out.trans ((hb3.mono HB2.out.size).trans (hb4.mono (Nat.le_trans HB2.out.size hb3.size)))
                clear hb3 hb4
                go_wp2_with fail
                refine (num_any _ _).mono ?_
                rintro e w' ⟨rfl, rfl⟩
                go_wp2_with fail
                refine (D.out _).mono ?_
                rintro e w5 ⟨rfl, hb5⟩
                go_wp2_with fail
                refine (E.out _).mono ?_
                rintro e w6 ⟨rfl, hb6⟩
                have HZ : Hid (Below w.heap.size w w6) := HZ4.out.trans ((hb5.mono HZ4.out.size).trans (hb6.mono (Nat.le_trans HZ4.out.size hb5.size)))
                clear hb5 hb6
                go_wp2_with fail
                refine (num_any _ _).mono ?_
                rintro e w' ⟨rfl, rfl⟩
                go_wp2_with fail
                refine (num_any _ _).mono ?_
                rintro e w' ⟨rfl, rfl⟩
                go_wp2_with fail
                go_roundg (4 - (k + 1))
                case measure => omega
                case rel => exact ⟨k + 1, by go_num, by omega, by omega, HZ.out⟩
              · have g2 := pt_of h2
                have D := Lib.hid (fun w => add_yes p1 p2 q1 q2 _ _ _ _ w g1 g2)
                have E := Lib.hid (fun w => add_yes q1 q2 p1 p2 _ _ _ _ w g2 g1)
                rw [Int.add_comm (partOf q1), Int.add_comm (partOf q2)] at E
                have gs := pt_sat (partOf p1 + partOf q1) (partOf p2 + partOf q2)
                have e5 := eq_wh gs.wa gs.wa
                have e6 := eq_wh gs.wb gs.wb
                rw [decide_eq_true rfl] at e5 e6
                clear h1 h2 g1 g2 gt gs
                generalize fl (satI (partOf p1 + partOf q1)) = s1 at *
                generalize fl (satI (partOf p2 + partOf q2)) = s2 at *
                generalize fl (partOf p1) = r1 at *
                generalize fl (partOf p2) = r2 at *
                go_wp2_with fail
                refine (C.out _).mono ?_
                rintro e w3 ⟨rfl, hb3⟩
                go_wp2_with fail
                refine (num_any _ _).mono ?_
                rintro e w' ⟨rfl, rfl⟩
                go_wp2_with fail
                refine (C2.out _).mono ?_
                rintro e w4 ⟨rfl, hb4⟩
                have HZ4 : Hid (Below w.heap.size w w4) := HB2.out.trans ((hb3.mono HB2.out.size).trans (hb4.mono (Nat.le_trans HB2.out.size hb3.size)))
                clear hb3 hb4
                go_wp2_with fail
                refine (num_any _ _).mono ?_
                rintro e w' ⟨rfl, rfl⟩
                go_wp2_with fail
                refine (D.out _).mono ?_
                rintro e w5 ⟨rfl, hb5⟩
                go_wp2_with fail
                refine (E.out _).mono ?_
                rintro e w6 ⟨rfl, hb6⟩
                have HZ : Hid (Below w.heap.size w w6) := HZ4.out.trans ((hb5.mono HZ4.out.size).trans (hb6.mono (Nat.le_trans HZ4.out.size hb5.size)))
                clear hb5 hb6
                go_wp2_with fail
                refine (num_any _ _).mono ?_
                rintro e w' ⟨rfl, rfl⟩
                go_wp2_with fail
                refine (num_any _ _).mono ?_
                rintro e w' ⟨rfl, rfl⟩
                go_wp2_with fail
                go_roundg (4 - (k + 1))
                case measure => omega
                case rel => exact ⟨k + 1, by go_num, by omega, by omega, HZ.out⟩
          · have hkz : decide ((k : Int) < 4) = false := decide_eq_false (by omega)
            have hky : ¬ (k : Int) < 4 := by omega
            obtain ⟨c0, c1, _⟩ := HK.out.below hbl HB.out
            obtain ⟨X, hX⟩ : ∃ X, X = withinI x 1073741824 := ⟨_, rfl⟩
            obtain ⟨Y, hY⟩ : ∃ Y, Y = withinI y 1073741824 := ⟨_, rfl⟩
            have bX := within_bd x 1073741824 (by decide)
            have bY := within_bd y 1073741824 (by decide)
            rw [← hX] at bX
            rw [← hY] at bY
            have WX := Lib.hid (fun w => within_any x 1073741824 w (by decide) (by decide))
            have WY := Lib.hid (fun w => within_any y 1073741824 w (by decide) (by decide))
            rw [← hX] at WX
            rw [← hY] at WY
            clear hX hY
            obtain ⟨X0, X1⟩ := bX
            obtain ⟨Y0, Y1⟩ := bY
            have hco : ∀ z : Int, -1099511627776 ≤ z → z ≤ 1099511627776 → coordB z = true := fun z h h' => by simp [coordB]; omega
            have O1 := Lib.hid (fun w => of_yes X Y w (hco _ (by omega) (by omega)) (hco _ (by omega) (by omega)))
            have O2 := Lib.hid (fun w => of_yes (-Y) X w (hco _ (by omega) (by omega)) (hco _ (by omega) (by omega)))
            have g1 : Pt (fl X) (fl Y) X Y := pt_fl (by omega) (by omega) (by omega) (by omega)
            have g2 : Pt (fl (-Y)) (fl X) (-Y) X := pt_fl (by omega) (by omega) (by omega) (by omega)
            have A1 := Lib.hid (fun w => add_yes _ _ _ _ _ _ _ _ w g1 g2)
            have z1 : satI (X + -Y) = X + -Y := sat_in (by omega) (by omega)
            have z2 : satI (Y + X) = Y + X := sat_in (by omega) (by omega)
            rw [z1, z2] at A1
            have g3 : Pt (fl (X + -Y)) (fl (Y + X)) (X + -Y) (Y + X) := pt_fl (by omega) (by omega) (by omega) (by omega)
            have A2 := Lib.hid (fun w => sub_yes _ _ _ _ _ _ _ _ w g3 g2)
            have z3 : satI (X + -Y - -Y) = X := by rw [show X + -Y - -Y = X by omega]; exact sat_in (by omega) (by omega)
            have z4 : satI (Y + X - X) = Y := by rw [show Y + X - X = Y by omega]; exact sat_in (by omega) (by omega)
            rw [z3, z4] at A2
            obtain ⟨s, t, hst, ws, wt⟩ := addc_wh g1.wa g1.wb g2.wa g2.wb (by omega) (by omega) (by omega) (by omega) (by omega) (by omega) (by omega) (by omega)
            have ha := add_run _ _ _ _ s t hst
            have e1 := eq_wh g1.wa g1.wa
            have e2 := eq_wh g1.wb g1.wb
            have e3 := eq_wh g3.wa ws
            have e4 := eq_wh g3.wb wt
            rw [decide_eq_true rfl] at e1 e2 e3 e4
            have R := Lib.hid (fun w => refPoint_is _ _ _ w g3.is)
            have hneg : IntKind.i64.wrap (-Y) = -Y := IntWalk.i64_in _ (by omega)
            clear z1 z2 z3 z4 g1 g2 g3 hst ws wt hco
            generalize fl (X + -Y) = f1 at *
            generalize fl (Y + X) = f2 at *
            generalize fl (-Y) = f3 at *
            generalize fl X = f4 at *
            generalize fl Y = f5 at *
            go_wp2_with fail
            go_quiet (first | ((go_at_call_of 33 (Value.int IntKind.i64 x); exact quiet_left (WX.out _))) | ((go_at_call_of 33 (Value.int IntKind.i64 y); exact quiet_left (WY.out _))) | ((go_at_call 10; exact quiet_left (O1.out _))))
            go_wp2_with fail
            have k0 : (wr.drewN nq).cell? ⟨b, off + i * 10, none⟩ = some (.int .i64 x) := c0
            have k1 : (wr.drewN nq).cell? ⟨b, off + i * 10 + 1, none⟩ = some (.int .i64 y) := c1
            have HBx : Hid (Below w.heap.size w (wr.drewN nq)) := below_drewN HB.out nq
            clear c0 c1 HB
            generalize wr.drewN nq = wx at *
            go_quiet (first | ((go_at_call_of 33 (Value.int IntKind.i64 x); exact quiet_left (WX.out _))) | ((go_at_call_of 33 (Value.int IntKind.i64 y); exact quiet_left (WY.out _))) | ((go_at_call 10; exact quiet_left (O2.out _))))
            go_wp2_with fail
            refine (A1.out _).mono ?_
            rintro e w3 ⟨rfl, hb3⟩
            go_wp2_with fail
            refine (A2.out _).mono ?_
            rintro e w4 ⟨rfl, hb4⟩
            have HZ : Hid (Below w.heap.size w w4) := (below_drewN HBx.out _).trans ((hb3.mono HBx.out.size).trans (hb4.mono (Nat.le_trans HBx.out.size hb3.size)))
            clear hb3 hb4
            go_wp2_with fail
            refine (num_any _ _).mono ?_
            rintro e w' ⟨rfl, rfl⟩
            go_wp2_with fail
            refine (num_any _ _).mono ?_
            rintro e w' ⟨rfl, rfl⟩
            go_wp2_with fail
            refine (num_any _ _).mono ?_
            rintro e w' ⟨rfl, rfl⟩
            go_wp2_with fail
            refine (num_any _ _).mono ?_
            rintro e w' ⟨rfl, rfl⟩
            go_wp2_with fail
            refine (R.out _).mono ?_
            rintro e w' ⟨rfl, rfl⟩
            go_wp2_with fail
            go_roundg (12 - (i + 1))
            case measure => omega
            case rel => exact ⟨i + 1, by go_num, by omega, by omega, HZ.out⟩
      · have hiz : decide ((i : Int) < 12) = false := decide_eq_false (by omega)
        have hiy : ¬ (i : Int) < 12 := by omega
        have HW := Lib.hid (wakes_any wr)
        go_wp2_with fail
        refine (HW.out).mono ?_
        rintro e w1 ⟨rfl, hb1⟩
        have HZ : Hid (Below w.heap.size w w1) := HB.out.trans (hb1.mono HB.out.size)
        clear hb1 HW
        go_wp2
        go_ret
        exact ⟨rfl, HZ.out⟩
    · have hinz : decide ((i : Int) < (n : Int)) = false := decide_eq_false (by omega)
      have hiny : ¬ (i : Int) < (n : Int) := by omega
      have HW := Lib.hid (wakes_any wr)
      go_wp2_with fail
      refine (HW.out).mono ?_
      rintro e w1 ⟨rfl, hb1⟩
      have HZ : Hid (Below w.heap.size w w1) := HB.out.trans (hb1.mono HB.out.size)
      clear hb1 HW
      go_wp2
      go_ret
      exact ⟨rfl, HZ.out⟩
end Go.Proofs.Ytjoeogdkcggmdaa
