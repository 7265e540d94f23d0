/- The walk of PointBoth. -/
import Derived.Test.YtjoeogdkcggmdaaL0
import Derived.Test.YtjoeogdkcggmdaaM3
import Derived.Laws.Entries
import Derived.Laws.ShiftsVar
import Derived.Laws.ShiftsVarLaws
import Derived.IntWalk
namespace Go.Proofs.Ytjoeogdkcggmdaa
open Go.RowKit Go.Lib
set_option linter.unusedVariables false

theorem store_cx (P : Program) (w : World) (a : Addr) (m : Mode) (k : FloatKind) (x y : Nat) : (store a (.complex k x y) m).run P w = stored P w a (.complex k x y) m := run_store P w a _ m rfl
attribute [local go_sem] store_cx

set_option maxHeartbeats 8000000 in
set_option maxRecDepth 100000 in
theorem pointBoth_walk (a : Option Addr) (n cap : Nat) (w : World) (h : AsksIs w a n) :
    Calls Try.prog 7 #[.slice a n cap] w fun e w' => e = .returned (.bool true) ∧ Below w.heap.size w w' := by
  have mixed : Try.prog.follows .mixedOrders = true := by kernel_rfl
  have HA := Lib.hid h
  clear h
  go_enter Try.func7, Try.ntmps7
  go_wp2
  go_loopg [3] 12 (fun g1 v wr => ∃ i : Nat, v = .int .i64 i ∧ i ≤ 12 ∧ 12 - i ≤ g1 ∧ Hid (Below w.heap.size w wr))
  case atStart => exact ⟨0, rfl, by omega, by omega, Below.refl _ _⟩
  case round =>
    obtain ⟨i, rfl, hi12, hg1, HB⟩ := hrel
    by_cases hin : i < n
    · have hinz : decide ((i : Int) < (n : Int)) = true := decide_eq_true (by omega)
      have hiny : (i : Int) < (n : Int) := by omega
      by_cases hi : i < 12
      · have hiz : decide ((i : Int) < 12) = true := decide_eq_true (by omega)
        have hiy : (i : Int) < 12 := by omega
        obtain ⟨b, off, x, y, f, rfl, hask, hbl⟩ := HA.out i hin
        have HK := Lib.hid hask
        have HN := Lib.hid (XsAt.new wr)
        have HBa := Lib.hid ((HB.out).alloc (HB.out).size (.cells #[.complex .f64 0 0, .complex .f64 0 0, .complex .f64 0 0, .complex .f64 0 0] 53))
        have hgw := (HB.out).size
        clear hask
        go_wp2_with fail
        generalize wr.alloc (.cells #[.complex .f64 0 0, .complex .f64 0 0, .complex .f64 0 0, .complex .f64 0 0] 53) = wa at *
        generalize wr.heap.size = g at *
        go_loopg [5] 4 (fun g2 v wr2 => ∃ k : Nat, v = .int .i64 k ∧ k ≤ 4 ∧ 4 - k ≤ g2 ∧ Hid (XsAt wr2 g) ∧ Hid (Below w.heap.size w wr2))
        case atStart => exact ⟨0, rfl, by omega, by omega, HN.out, HBa.out⟩
        case round =>
          clear HN HBa HB
          obtain ⟨k, rfl, hk4, hg2, HX, HB⟩ := hrel
          by_cases hk : k < 4
          · have hkz : decide ((k : Int) < 4) = true := decide_eq_true (by omega)
            have hky : (k : Int) < 4 := by omega
            obtain ⟨c0, c1, _⟩ := HK.out.below hbl HB.out
            obtain ⟨old, hold⟩ := HX.out.cell k hk
            have hfro := HX.out.frozen k
            have hm5 : IntKind.i64.wrap (5 * (k : Int)) = 5 * (k : Int) := IntWalk.i64_in _ (by omega)
            have hm6 : (0 : Int) ≤ 5 * (k : Int) := by omega
            have hm7 : ¬ 5 * (k : Int) < 0 := by omega
            go_wp2_with fail
            go_quiet ((go_at_call 33; exact quiet_left (within_any _ _ _ (by decide) (by decide))))
            go_wp2_with fail
            refine (of_yes _ _ _ (coord_win _) (coord_win _)).mono ?_
            rintro e w' ⟨rfl, rfl⟩
            go_wp2_with fail
            refine (num_any _ _).mono ?_
            rintro e w' ⟨rfl, rfl⟩
            go_wp2_with fail
            go_roundg (4 - (k + 1))
            case measure => omega
            case rel => exact ⟨k + 1, by go_num, by omega, by omega, HX.out.set k hk _ _ (sm_within _) (sm_within _), (below_drewN HB.out _).setCell hgw _⟩
          · have hkz : decide ((k : Int) < 4) = false := decide_eq_false (by omega)
            have hky : ¬ (k : Int) < 4 := by omega
            obtain ⟨x0, y0, x1, y1, x2, y2, x3, y3, s1, s2, s3, s4, s5, s6, s7, s8, h4⟩ := HX.out.four
            obtain ⟨j1, j2, j3, j4, jx, jy, ju, jv, CJ, BJ, HJ⟩ := join_small s1 s2 s3 s4 s5 s6 s7 s8
            obtain ⟨m1, m2, m3, m4, mx, my, mu, mv, CM, BM, HM⟩ := meet_small s1 s2 s3 s4 s5 s6 s7 s8
            have BX1 := Lib.hid (bx_small s1 s2 s3 s4)
            have BX2 := Lib.hid (bx_small s5 s6 s7 s8)
            have CJ := Lib.hid CJ
            have CM := Lib.hid CM
            have BJ := Lib.hid BJ
            have BM := Lib.hid BM
            have HJ := Lib.hid HJ
            have HM := Lib.hid HM
            have HF := Lib.hid h4
            clear s1 s2 s3 s4 s5 s6 s7 s8 h4 HX
            generalize fl x0 = a0 at *
            generalize fl y0 = a1 at *
            generalize fl x1 = b0 at *
            generalize fl y1 = b1 at *
            generalize fl x2 = c0 at *
            generalize fl y2 = c1 at *
            generalize fl x3 = d0 at *
            generalize fl y3 = d1 at *
            obtain ⟨e0, e1, e2, e3⟩ := HF.out
            go_wp2_with fail
            refine (CJ.out _).mono ?_
            rintro e w1 ⟨rfl, hb1⟩
            have HF1 := Lib.hid (HF.out.next hb1)
            have HB1 : Hid (Below w.heap.size w w1) := HB.out.trans (hb1.mono HB.out.size)
            clear hb1 e0 e1 e2 e3
            obtain ⟨e0, e1, e2, e3⟩ := HF1.out
            go_wp2_with fail
            refine (CM.out _).mono ?_
            rintro e w2 ⟨rfl, hb2⟩
            have HF2 := Lib.hid (HF1.out.next hb2)
            have HB2 : Hid (Below w.heap.size w w2) := HB1.out.trans (hb2.mono HB1.out.size)
            clear hb2 e0 e1 e2 e3
            obtain ⟨e0, e1, e2, e3⟩ := HF2.out
            clear e0 e1 e2 e3 CJ CM
            go_wp2_with fail
            refine (num_any _ _).mono ?_
            rintro e w' ⟨rfl, rfl⟩
            go_wp2_with fail
            refine (num_any _ _).mono ?_
            rintro e w' ⟨rfl, rfl⟩
            go_wp2_with fail
            go_loopg [16] 100 (fun g3 v wr => ∃ k : Nat, v = .int .i64 k ∧ k ≤ 100 ∧ 100 - k ≤ g3 ∧ Hid (Four wr g a0 a1 b0 b1 c0 c1 d0 d1) ∧ Hid (Below w.heap.size w wr))
            case atStart => exact ⟨0, rfl, by omega, by omega, HF2.out, HB2.out⟩
            case round =>
              clear HF HB HF1 HB1 HF2 HB2 hk4 hg2 hk hkz hky
              obtain ⟨k, rfl, hk100, hg3, HF, HB⟩ := hrel
              by_cases hk : k < 100
              · have hkz : decide ((k : Int) < 100) = true := decide_eq_true (by omega)
                have hky : (k : Int) < 100 := by omega
                obtain ⟨r0, hr0, hr⟩ : ∃ r0 : Nat, r0 < 10 ∧ (k : Int).tmod 10 = (r0 : Int) := ⟨k % 10, by omega, by rw [Int.tmod_eq_emod_of_nonneg (by omega)]; omega⟩
                obtain ⟨q0, hq0, hq⟩ : ∃ q0 : Nat, q0 < 10 ∧ (k : Int).tdiv 10 = (q0 : Int) := ⟨k / 10, by omega, by rw [Int.tdiv_eq_ediv_of_nonneg (by omega)]; omega⟩
                have hr' : (k : Int) % 10 = (r0 : Int) := by rw [← hr, Int.tmod_eq_emod_of_nonneg (by omega)]
                have hq' : (k : Int) / 10 = (q0 : Int) := by rw [← hq, Int.tdiv_eq_ediv_of_nonneg (by omega)]
                obtain ⟨P1, hP1⟩ : ∃ P, floatOfInt .f64 ((r0 : Int) * 4) = P := ⟨_, rfl⟩
                obtain ⟨P2, hP2⟩ : ∃ P, floatOfInt .f64 ((q0 : Int) * 4) = P := ⟨_, rfl⟩
                have gp : Pt P1 P2 ((r0 : Int) * 4) ((q0 : Int) * 4) := by
                  rw [← hP1, ← hP2]
                  exact pt_fl (by omega) (by omega) (by omega) (by omega)
                have CA := Lib.hid (fun w => has_yes a0 a1 b0 b1 P1 P2 _ _ _ _ _ _ w BX1.out gp)
                have CB := Lib.hid (fun w => has_yes c0 c1 d0 d1 P1 P2 _ _ _ _ _ _ w BX2.out gp)
                have CJ := Lib.hid (fun w => has_yes j1 j2 j3 j4 P1 P2 _ _ _ _ _ _ w BJ.out gp)
                have CM := Lib.hid (fun w => has_yes m1 m2 m3 m4 P1 P2 _ _ _ _ _ _ w BM.out gp)
                have hJ := HJ.out ((r0 : Int) * 4) ((q0 : Int) * 4)
                have hM := HM.out ((r0 : Int) * 4) ((q0 : Int) * 4)
                generalize hasB x0 y0 x1 y1 ((r0 : Int) * 4) ((q0 : Int) * 4) = A at CA hJ hM
                generalize hasB x2 y2 x3 y3 ((r0 : Int) * 4) ((q0 : Int) * 4) = B at CB hJ hM
                generalize hasB jx jy ju jv ((r0 : Int) * 4) ((q0 : Int) * 4) = J at CJ hJ
                generalize hasB mx my mu mv ((r0 : Int) * 4) ((q0 : Int) * 4) = M at CM hM
                have HJ1 := Lib.hid hJ
                have HM1 := Lib.hid hM
                clear hJ hM gp
                obtain ⟨e0, e1, e2, e3⟩ := HF.out
                go_wp2_with fail
                refine (CA.out _).mono ?_
                rintro e w1 ⟨rfl, hb1⟩
                have HF1 := Lib.hid (HF.out.next hb1)
                have HB1 : Hid (Below w.heap.size w w1) := HB.out.trans (hb1.mono HB.out.size)
                clear hb1 e0 e1 e2 e3
                obtain ⟨e0, e1, e2, e3⟩ := HF1.out
                go_wp2_with fail
                refine (CB.out _).mono ?_
                rintro e w2 ⟨rfl, hb2⟩
                have HF2 := Lib.hid (HF1.out.next hb2)
                have HB2 : Hid (Below w.heap.size w w2) := HB1.out.trans (hb2.mono HB1.out.size)
                clear hb2 e0 e1 e2 e3
                obtain ⟨e0, e1, e2, e3⟩ := HF2.out
                go_wp2_with fail
                refine (CJ.out _).mono ?_
                rintro e w3 ⟨rfl, hb3⟩
                have HF3 := Lib.hid (HF2.out.next hb3)
                have HB3 : Hid (Below w.heap.size w w3) := HB2.out.trans (hb3.mono HB2.out.size)
                clear hb3 e0 e1 e2 e3
                obtain ⟨e0, e1, e2, e3⟩ := HF3.out
                go_wp2_with fail
                refine (CM.out _).mono ?_
                rintro e w4 ⟨rfl, hb4⟩
                have HF4 := Lib.hid (HF3.out.next hb4)
                have HB4 : Hid (Below w.heap.size w w4) := HB3.out.trans (hb4.mono HB3.out.size)
                clear hb4 e0 e1 e2 e3
                obtain ⟨e0, e1, e2, e3⟩ := HF4.out
                clear CA CB CJ CM hr hq hr' hq' hP1 hP2
                have hM := HM1.out
                subst hM
                cases A
                · cases B
                  · cases J
                    · clear HJ1 HM1
                      go_wp2_with fail
                      refine (num_any _ _).mono ?_
                      rintro e w' ⟨rfl, rfl⟩
                      go_wp2_with fail
                      refine (num_any _ _).mono ?_
                      rintro e w' ⟨rfl, rfl⟩
                      go_wp2_with fail
                      refine (num_any _ _).mono ?_
                      rintro e w' ⟨rfl, rfl⟩
                      go_wp2_with fail
                      refine (num_any _ _).mono ?_
                      rintro e w' ⟨rfl, rfl⟩
                      go_wp2_with fail
                      go_roundg (100 - (k + 1))
                      case measure => omega
                      case rel => exact ⟨k + 1, by go_num, by omega, by omega, HF4.out, HB4.out⟩
                    · clear HJ1 HM1
                      go_wp2_with fail
                      refine (num_any _ _).mono ?_
                      rintro e w' ⟨rfl, rfl⟩
                      go_wp2_with fail
                      refine (num_any _ _).mono ?_
                      rintro e w' ⟨rfl, rfl⟩
                      go_wp2_with fail
                      refine (num_any _ _).mono ?_
                      rintro e w' ⟨rfl, rfl⟩
                      go_wp2_with fail
                      refine (num_any _ _).mono ?_
                      rintro e w' ⟨rfl, rfl⟩
                      go_wp2_with fail
                      go_roundg (100 - (k + 1))
                      case measure => omega
                      case rel => exact ⟨k + 1, by go_num, by omega, by omega, HF4.out, HB4.out⟩
                  · have hJ := HJ1.out rfl
                    subst hJ
                    clear HJ1 HM1
                    go_wp2_with fail
                    refine (num_any _ _).mono ?_
                    rintro e w' ⟨rfl, rfl⟩
                    go_wp2_with fail
                    refine (num_any _ _).mono ?_
                    rintro e w' ⟨rfl, rfl⟩
                    go_wp2_with fail
                    refine (num_any _ _).mono ?_
                    rintro e w' ⟨rfl, rfl⟩
                    go_wp2_with fail
                    refine (num_any _ _).mono ?_
                    rintro e w' ⟨rfl, rfl⟩
                    go_wp2_with fail
                    go_roundg (100 - (k + 1))
                    case measure => omega
                    case rel => exact ⟨k + 1, by go_num, by omega, by omega, HF4.out, HB4.out⟩
                · cases B
                  · have hJ := HJ1.out rfl
                    subst hJ
                    clear HJ1 HM1
                    go_wp2_with fail
                    refine (num_any _ _).mono ?_
                    rintro e w' ⟨rfl, rfl⟩
                    go_wp2_with fail
                    refine (num_any _ _).mono ?_
                    rintro e w' ⟨rfl, rfl⟩
                    go_wp2_with fail
                    refine (num_any _ _).mono ?_
                    rintro e w' ⟨rfl, rfl⟩
                    go_wp2_with fail
                    refine (num_any _ _).mono ?_
                    rintro e w' ⟨rfl, rfl⟩
                    go_wp2_with fail
                    go_roundg (100 - (k + 1))
                    case measure => omega
                    case rel => exact ⟨k + 1, by go_num, by omega, by omega, HF4.out, HB4.out⟩
                  · have hJ := HJ1.out rfl
                    subst hJ
                    clear HJ1 HM1
                    go_wp2_with fail
                    refine (num_any _ _).mono ?_
                    rintro e w' ⟨rfl, rfl⟩
                    go_wp2_with fail
                    refine (num_any _ _).mono ?_
                    rintro e w' ⟨rfl, rfl⟩
                    go_wp2_with fail
                    refine (num_any _ _).mono ?_
                    rintro e w' ⟨rfl, rfl⟩
                    go_wp2_with fail
                    refine (num_any _ _).mono ?_
                    rintro e w' ⟨rfl, rfl⟩
                    go_wp2_with fail
                    go_roundg (100 - (k + 1))
                    case measure => omega
                    case rel => exact ⟨k + 1, by go_num, by omega, by omega, HF4.out, HB4.out⟩
              · have hkz : decide ((k : Int) < 100) = false := decide_eq_false (by omega)
                have hky : ¬ (k : Int) < 100 := by omega
                go_wp2_with fail
                go_roundg (12 - (i + 1))
                case measure => omega
                case rel => exact ⟨i + 1, by go_num, by omega, by omega, HB.out⟩
      · have hiz : decide ((i : Int) < 12) = false := decide_eq_false (by omega)
        have hiy : ¬ (i : Int) < 12 := by omega
        have HW := Lib.hid (wakes_any wr)
        go_wp2_with fail
        refine (HW.out).mono ?_
        rintro e w1 ⟨rfl, hb1⟩
        have HZ : Hid (Below w.heap.size w w1) := HB.out.trans (hb1.mono HB.out.size)
        clear hb1 HW
        go_wp2
        go_ret
        exact ⟨rfl, HZ.out⟩
    · have hinz : decide ((i : Int) < (n : Int)) = false := decide_eq_false (by omega)
      have hiny : ¬ (i : Int) < (n : Int) := by omega
      have HW := Lib.hid (wakes_any wr)
      go_wp2_with fail
      refine (HW.out).mono ?_
      rintro e w1 ⟨rfl, hb1⟩
      have HZ : Hid (Below w.heap.size w w1) := HB.out.trans (hb1.mono HB.out.size)
      clear hb1 HW
      go_wp2
      go_ret
      exact ⟨rfl, HZ.out⟩
end Go.Proofs.Ytjoeogdkcggmdaa
