/- The walk of PointHas. -/
import Derived.Test.YtjoeogdkcggmdaaL0
namespace Go.Proofs.Ytjoeogdkcggmdaa
open Go.RowKit Go.Lib
set_option linter.unusedVariables false

set_option maxHeartbeats 4000000 in
set_option maxRecDepth 100000 in
theorem pointHas_walk (a : Option Addr) (n cap : Nat) (w : World) (h : AsksIs w a n) :
    Calls Try.prog 5 #[.slice a n cap] w fun e w' => e = .returned (.bool true) ∧ Below w.heap.size w w' := by
  have mixed : Try.prog.follows .mixedOrders = true := by kernel_rfl
  have HA := Lib.hid h
  clear h
  go_enter Try.func5, Try.ntmps5
  go_wp2
  go_loopg [3] 12 (fun g1 v wr => ∃ i : Nat, v = .int .i64 i ∧ i ≤ 12 ∧ 12 - i ≤ g1 ∧ Hid (Below w.heap.size w wr))
  case atStart => exact ⟨0, rfl, by omega, by omega, Below.refl _ _⟩
  case round =>
    obtain ⟨i, rfl, hi12, hg1, HB⟩ := hrel
    by_cases hin : i < n
    · have hinz : decide ((i : Int) < (n : Int)) = true := decide_eq_true (by omega)
      have hiny : (i : Int) < (n : Int) := by omega
      by_cases hi : i < 12
      · have hiz : decide ((i : Int) < 12) = true := decide_eq_true (by omega)
        have hiy : (i : Int) < 12 := by omega
        obtain ⟨b, off, x, y, f, rfl, hask, hbl⟩ := HA.out i hin
        have hS0 := held_mk (hask.below hbl HB.out).drew (HB.out).drew
        clear hask
        go_wp2_with fail
        go_region_held3 (fun w' => w'.cell? ⟨b, off + i * 10, none⟩ = some (.int .i64 x) ∧ w'.cell? ⟨b, off + i * 10 + 1, none⟩ = some (.int .i64 y) ∧ w'.cell? ⟨b, off + i * 10 + 2, none⟩ = some (.float .f64 (f 0)) ∧ w'.cell? ⟨b, off + i * 10 + 3, none⟩ = some (.float .f64 (f 1)) ∧ w'.cell? ⟨b, off + i * 10 + 4, none⟩ = some (.float .f64 (f 2)) ∧ w'.cell? ⟨b, off + i * 10 + 5, none⟩ = some (.float .f64 (f 3)) ∧ w'.cell? ⟨b, off + i * 10 + 6, none⟩ = some (.float .f64 (f 4)) ∧ w'.cell? ⟨b, off + i * 10 + 7, none⟩ = some (.float .f64 (f 5)) ∧ w'.cell? ⟨b, off + i * 10 + 8, none⟩ = some (.float .f64 (f 6)) ∧ w'.cell? ⟨b, off + i * 10 + 9, none⟩ = some (.float .f64 (f 7)) ∧ Hid (Below w.heap.size w w')) (assumption) (first | (go_at_call 14; with_reducible refine (c0_any x y f _).mono ?_; rintro e w1 ⟨rfl, hB1⟩; have hS1 := held_next (n := w.heap.size) (w0 := w) (by assumption) hB1 (Nat.le_refl _)) | (go_at_call 14; with_reducible refine (c1_any x y f _).mono ?_; rintro e w2 ⟨rfl, hB2⟩; have hS2 := held_next (n := w.heap.size) (w0 := w) (by assumption) hB2 (Nat.le_refl _)) | (go_at_call 14; with_reducible refine (c2_any x y f _).mono ?_; rintro e w3 ⟨rfl, hB3⟩; have hS3 := held_next (n := w.heap.size) (w0 := w) (by assumption) hB3 (Nat.le_refl _)))
        have HB3 := Lib.hid (held_out hS3).2
        rename_i hHeld
        clear hHeld hS0 hS1 hS2 hS3 hB1 hB2 hB3
        cases hbx : isBox (f 0) (f 1) (f 2) (f 3)
        · have C := Lib.hid (fun w => refBox_is (f 0) (f 1) (f 2) (f 3) _ w hbx)
          have D := Lib.hid (fun w => has_no (f 0) (f 1) (f 2) (f 3) (f 4) (f 5) w (by rw [hbx]; rfl))
          clear hbx
          go_wp2_with fail
          refine (C.out _).mono ?_
          rintro e w' ⟨rfl, rfl⟩
          go_wp2_with fail
          refine (D.out _).mono ?_
          rintro e w4 ⟨rfl, hb4⟩
          have HZ : Hid (Below w.heap.size w w4) := HB3.out.trans (hb4.mono HB3.out.size)
          clear hb4
          go_wp2_with fail
          refine (num_any _ _).mono ?_
          rintro e w' ⟨rfl, rfl⟩
          go_wp2_with fail
          go_roundg (12 - (i + 1))
          case measure => omega
          case rel => exact ⟨i + 1, by go_num, by omega, by omega, HZ.out⟩
        · cases hpt : isPt (f 4) (f 5)
          · have C := Lib.hid (fun w => refBox_is (f 0) (f 1) (f 2) (f 3) _ w hbx)
            have E := Lib.hid (fun w => refPoint_is (f 4) (f 5) _ w hpt)
            have D := Lib.hid (fun w => has_no (f 0) (f 1) (f 2) (f 3) (f 4) (f 5) w (by rw [hbx, hpt]; rfl))
            clear hbx hpt
            go_wp2_with fail
            refine (C.out _).mono ?_
            rintro e w' ⟨rfl, rfl⟩
            go_wp2_with fail
            refine (E.out _).mono ?_
            rintro e w' ⟨rfl, rfl⟩
            go_wp2_with fail
            refine (D.out _).mono ?_
            rintro e w4 ⟨rfl, hb4⟩
            have HZ : Hid (Below w.heap.size w w4) := HB3.out.trans (hb4.mono HB3.out.size)
            clear hb4
            go_wp2_with fail
            refine (num_any _ _).mono ?_
            rintro e w' ⟨rfl, rfl⟩
            go_wp2_with fail
            go_roundg (12 - (i + 1))
            case measure => omega
            case rel => exact ⟨i + 1, by go_num, by omega, by omega, HZ.out⟩
          · have C := Lib.hid (fun w => refBox_is (f 0) (f 1) (f 2) (f 3) _ w hbx)
            have E := Lib.hid (fun w => refPoint_is (f 4) (f 5) _ w hpt)
            have D := Lib.hid (fun w => has_yes (f 0) (f 1) (f 2) (f 3) (f 4) (f 5) _ _ _ _ _ _ w (bx_of hbx) (pt_of hpt))
            have F := Lib.hid (fun w => refHas_bx (f 0) (f 1) (f 2) (f 3) (f 4) (f 5) _ _ _ _ _ _ w (bx_of hbx) (pt_of hpt))
            clear hbx hpt
            generalize hasB (partOf (f 0)) (partOf (f 1)) (partOf (f 2)) (partOf (f 3)) (partOf (f 4)) (partOf (f 5)) = hv at *
            have hvv : (hv != hv) = false := by cases hv <;> rfl
            go_wp2_with fail
            refine (C.out _).mono ?_
            rintro e w' ⟨rfl, rfl⟩
            go_wp2_with fail
            refine (E.out _).mono ?_
            rintro e w' ⟨rfl, rfl⟩
            go_wp2_with fail
            refine (F.out _).mono ?_
            rintro e w' ⟨rfl, rfl⟩
            go_wp2_with fail
            refine (D.out _).mono ?_
            rintro e w4 ⟨rfl, hb4⟩
            have HZ : Hid (Below w.heap.size w w4) := HB3.out.trans (hb4.mono HB3.out.size)
            clear hb4
            go_wp2_with fail
            refine (num_any _ _).mono ?_
            rintro e w' ⟨rfl, rfl⟩
            go_wp2_with fail
            go_roundg (12 - (i + 1))
            case measure => omega
            case rel => exact ⟨i + 1, by go_num, by omega, by omega, HZ.out⟩
      · have hiz : decide ((i : Int) < 12) = false := decide_eq_false (by omega)
        have hiy : ¬ (i : Int) < 12 := by omega
        have HW := Lib.hid (wakes_any wr)
        go_wp2_with fail
        refine (HW.out).mono ?_
        rintro e w1 ⟨rfl, hb1⟩
        have HZ : Hid (Below w.heap.size w w1) := HB.out.trans (hb1.mono HB.out.size)
        clear hb1 HW
        go_wp2
        go_ret
        exact ⟨rfl, HZ.out⟩
    · have hinz : decide ((i : Int) < (n : Int)) = false := decide_eq_false (by omega)
      have hiny : ¬ (i : Int) < (n : Int) := by omega
      have HW := Lib.hid (wakes_any wr)
      go_wp2_with fail
      refine (HW.out).mono ?_
      rintro e w1 ⟨rfl, hb1⟩
      have HZ : Hid (Below w.heap.size w w1) := HB.out.trans (hb1.mono HB.out.size)
      clear hb1 HW
      go_wp2
      go_ret
      exact ⟨rfl, HZ.out⟩
end Go.Proofs.Ytjoeogdkcggmdaa
