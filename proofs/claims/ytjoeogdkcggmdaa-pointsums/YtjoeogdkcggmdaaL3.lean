/- The walk of PointSums. -/
import Derived.Test.YtjoeogdkcggmdaaL0
import Derived.IntWalk
namespace Go.Proofs.Ytjoeogdkcggmdaa
open Go.RowKit Go.Lib
set_option linter.unusedVariables false

set_option maxHeartbeats 8000000 in
set_option maxRecDepth 100000 in
theorem pointSums_walk (a : Option Addr) (n cap : Nat) (w : World) (h : AsksIs w a n) :
    Calls Try.prog 4 #[.slice a n cap] w fun e w' => e = .returned (.bool true) ∧ Below w.heap.size w w' := by
  have mixed : Try.prog.follows .mixedOrders = true := by kernel_rfl
  have HA := Lib.hid h
  clear h
  go_enter Try.func4, Try.ntmps4
  go_wp2
  go_loopg [3] 12 (fun g1 v wr => ∃ i : Nat, v = .int .i64 i ∧ i ≤ 12 ∧ 12 - i ≤ g1 ∧ Hid (Below w.heap.size w wr))
  case atStart => exact ⟨0, rfl, by omega, by omega, Below.refl _ _⟩
  case round =>
    obtain ⟨i, rfl, hi12, hg1, HB⟩ := hrel
    by_cases hin : i < n
    · have hinz : decide ((i : Int) < (n : Int)) = true := decide_eq_true (by omega)
      have hiny : (i : Int) < (n : Int) := by omega
      by_cases hi : i < 12
      · have hiz : decide ((i : Int) < 12) = true := decide_eq_true (by omega)
        have hiy : (i : Int) < 12 := by omega
        obtain ⟨b, off, x, y, f, rfl, hask, hbl⟩ := HA.out i hin
        have HK := Lib.hid hask
        clear hask
        go_wp2_with fail
        go_loopg [4] 4 (fun g2 v wr => ∃ k : Nat, v = .int .i64 k ∧ k ≤ 4 ∧ 4 - k ≤ g2 ∧ Hid (Below w.heap.size w wr))
        case atStart => exact ⟨0, rfl, by omega, by omega, HB.out⟩
        case round =>
          clear HB
          obtain ⟨k, rfl, hk4, hg2, HB⟩ := hrel
          by_cases hk : k < 4
          · have hkz : decide ((k : Int) < 4) = true := decide_eq_true (by omega)
            have hky : (k : Int) < 4 := by omega
            obtain ⟨k2, hk2, hkk⟩ : ∃ k2 : Nat, k2 < 4 ∧ ((k : Int) + 1).tmod 4 = (k2 : Int) := ⟨(k + 1) % 4, by omega, by rw [Int.tmod_eq_emod_of_nonneg (by omega)]; omega⟩
            have hS0 := held_mk (HK.out.below hbl HB.out).drew (HB.out).drew
            have hkw : IntKind.i64.wrap ((k : Int) + 1) = (k : Int) + 1 := IntWalk.i64_in _ (by omega)
            go_wp2_with fail
            go_region_held3 (fun w' => w'.cell? ⟨b, off + i * 10, none⟩ = some (.int .i64 x) ∧ w'.cell? ⟨b, off + i * 10 + 1, none⟩ = some (.int .i64 y) ∧ w'.cell? ⟨b, off + i * 10 + 2, none⟩ = some (.float .f64 (f 0)) ∧ w'.cell? ⟨b, off + i * 10 + 3, none⟩ = some (.float .f64 (f 1)) ∧ w'.cell? ⟨b, off + i * 10 + 4, none⟩ = some (.float .f64 (f 2)) ∧ w'.cell? ⟨b, off + i * 10 + 5, none⟩ = some (.float .f64 (f 3)) ∧ w'.cell? ⟨b, off + i * 10 + 6, none⟩ = some (.float .f64 (f 4)) ∧ w'.cell? ⟨b, off + i * 10 + 7, none⟩ = some (.float .f64 (f 5)) ∧ w'.cell? ⟨b, off + i * 10 + 8, none⟩ = some (.float .f64 (f 6)) ∧ w'.cell? ⟨b, off + i * 10 + 9, none⟩ = some (.float .f64 (f 7)) ∧ Hid (Below w.heap.size w w')) (assumption) (first | (go_at_call 14; with_reducible refine (c_any k hk x y f _).mono ?_; rintro e w1 ⟨rfl, hB1⟩; have hS1 := held_next (n := w.heap.size) (w0 := w) (by assumption) hB1 (Nat.le_refl _)) | (go_at_call 14; with_reducible refine (c_any k2 hk2 x y f _).mono ?_; rintro e w2 ⟨rfl, hB2⟩; have hS2 := held_next (n := w.heap.size) (w0 := w) (by assumption) hB2 (Nat.le_refl _)))
            have HB2 := Lib.hid (held_out hS2).2
            rename_i hHeld
            clear hHeld hS0 hS1 hS2 hB1 hB2 hkw hkk hkz hiz hinz
            generalize f (2 * k) = p1
            generalize f (2 * k + 1) = p2
            generalize f (2 * k2) = q1
            generalize f (2 * k2 + 1) = q2
            cases h1 : isPt p1 p2
            · have hb : (isPt p1 p2 && isPt q1 q2) = false := by rw [h1]; rfl
              have D := Lib.hid (fun w => add_no p1 p2 q1 q2 w hb)
              have E := Lib.hid (fun w => sub_no p1 p2 q1 q2 w hb)
              have C := Lib.hid (fun w => refPoint_is p1 p2 _ w h1)
              clear h1 hb
              go_wp2_with fail
              refine (C.out _).mono ?_
              rintro e w' ⟨rfl, rfl⟩
              go_wp2_with fail
              refine (D.out _).mono ?_
              rintro e w5 ⟨rfl, hb5⟩
              go_wp2_with fail
              refine (E.out _).mono ?_
              rintro e w6 ⟨rfl, hb6⟩
              have HZ : Hid (Below w.heap.size w w6) := HB2.out.trans ((hb5.mono HB2.out.size).trans (hb6.mono (Nat.le_trans HB2.out.size hb5.size)))
              clear hb5 hb6
              go_wp2_with fail
              refine (told_no _).mono ?_
              rintro e w' ⟨rfl, rfl⟩
              go_wp2_with fail
              refine (told_no _).mono ?_
              rintro e w' ⟨rfl, rfl⟩
              go_wp2_with fail
              go_roundg (4 - (k + 1))
              case measure => omega
              case rel => exact ⟨k + 1, by go_num, by omega, by omega, HZ.out⟩
            · cases h2 : isPt q1 q2
              · have hb : (isPt p1 p2 && isPt q1 q2) = false := by rw [h1, h2]; rfl
                have D := Lib.hid (fun w => add_no p1 p2 q1 q2 w hb)
                have E := Lib.hid (fun w => sub_no p1 p2 q1 q2 w hb)
                have C := Lib.hid (fun w => refPoint_is p1 p2 _ w h1)
                have C2 := Lib.hid (fun w => refPoint_is q1 q2 _ w h2)
                clear h1 h2 hb
                go_wp2_with fail
                refine (C.out _).mono ?_
                rintro e w' ⟨rfl, rfl⟩
                go_wp2_with fail
                refine (C2.out _).mono ?_
                rintro e w' ⟨rfl, rfl⟩
                go_wp2_with fail
                refine (D.out _).mono ?_
                rintro e w5 ⟨rfl, hb5⟩
                go_wp2_with fail
                refine (E.out _).mono ?_
                rintro e w6 ⟨rfl, hb6⟩
                have HZ : Hid (Below w.heap.size w w6) := HB2.out.trans ((hb5.mono HB2.out.size).trans (hb6.mono (Nat.le_trans HB2.out.size hb5.size)))
                clear hb5 hb6
                go_wp2_with fail
                refine (told_no _).mono ?_
                rintro e w' ⟨rfl, rfl⟩
                go_wp2_with fail
                refine (told_no _).mono ?_
                rintro e w' ⟨rfl, rfl⟩
                go_wp2_with fail
                go_roundg (4 - (k + 1))
                case measure => omega
                case rel => exact ⟨k + 1, by go_num, by omega, by omega, HZ.out⟩
              · have C := Lib.hid (fun w => refPoint_is p1 p2 _ w h1)
                have C2 := Lib.hid (fun w => refPoint_is q1 q2 _ w h2)
                have g1 := pt_of h1
                have g2 := pt_of h2
                have D := Lib.hid (fun w => add_yes p1 p2 q1 q2 _ _ _ _ w g1 g2)
                have E := Lib.hid (fun w => sub_yes p1 p2 q1 q2 _ _ _ _ w g1 g2)
                have F := Lib.hid (fun w => refAdd_pt p1 p2 q1 q2 _ _ _ _ w g1 g2)
                have G := Lib.hid (fun w => refSub_pt p1 p2 q1 q2 _ _ _ _ w g1 g2)
                have s1 := sat_bd (partOf p1 + partOf q1)
                have s2 := sat_bd (partOf p2 + partOf q2)
                have s3 := sat_bd (partOf p1 - partOf q1)
                have s4 := sat_bd (partOf p2 - partOf q2)
                have T1 := Lib.hid (fun w => told_yes _ _ w s1.1 s1.2 s2.1 s2.2)
                have T2 := Lib.hid (fun w => told_yes _ _ w s3.1 s3.2 s4.1 s4.2)
                clear h1 h2 g1 g2 s1 s2 s3 s4
                generalize fl (satI (partOf p1 + partOf q1)) = r1 at *
                generalize fl (satI (partOf p2 + partOf q2)) = r2 at *
                generalize fl (satI (partOf p1 - partOf q1)) = r3 at *
                generalize fl (satI (partOf p2 - partOf q2)) = r4 at *
                go_wp2_with fail
                refine (C.out _).mono ?_
                rintro e w' ⟨rfl, rfl⟩
                go_wp2_with fail
                refine (C2.out _).mono ?_
                rintro e w' ⟨rfl, rfl⟩
                go_wp2_with fail
                refine (D.out _).mono ?_
                rintro e w5 ⟨rfl, hb5⟩
                go_wp2_with fail
                refine (E.out _).mono ?_
                rintro e w6 ⟨rfl, hb6⟩
                have HZ : Hid (Below w.heap.size w w6) := HB2.out.trans ((hb5.mono HB2.out.size).trans (hb6.mono (Nat.le_trans HB2.out.size hb5.size)))
                clear hb5 hb6
                go_wp2_with fail
                refine (F.out _).mono ?_
                rintro e w' ⟨rfl, rfl⟩
                go_wp2_with fail
                refine (G.out _).mono ?_
                rintro e w' ⟨rfl, rfl⟩
                go_wp2_with fail
                refine (T1.out _).mono ?_
                rintro e w' ⟨rfl, rfl⟩
                go_wp2_with fail
                refine (T2.out _).mono ?_
                rintro e w' ⟨rfl, rfl⟩
                go_wp2_with fail
                go_roundg (4 - (k + 1))
                case measure => omega
                case rel => exact ⟨k + 1, by go_num, by omega, by omega, HZ.out⟩
          · have hkz : decide ((k : Int) < 4) = false := decide_eq_false (by omega)
            have hky : ¬ (k : Int) < 4 := by omega
            go_wp2_with fail
            go_roundg (12 - (i + 1))
            case measure => omega
            case rel => exact ⟨i + 1, by go_num, by omega, by omega, HB.out⟩
      · have hiz : decide ((i : Int) < 12) = false := decide_eq_false (by omega)
        have hiy : ¬ (i : Int) < 12 := by omega
        have HW := Lib.hid (wakes_any wr)
        go_wp2_with fail
        refine (HW.out).mono ?_
        rintro e w1 ⟨rfl, hb1⟩
        have HZ : Hid (Below w.heap.size w w1) := HB.out.trans (hb1.mono HB.out.size)
        clear hb1 HW
        go_wp2
        go_ret
        exact ⟨rfl, HZ.out⟩
    · have hinz : decide ((i : Int) < (n : Int)) = false := decide_eq_false (by omega)
      have hiny : ¬ (i : Int) < (n : Int) := by omega
      have HW := Lib.hid (wakes_any wr)
      go_wp2_with fail
      refine (HW.out).mono ?_
      rintro e w1 ⟨rfl, hb1⟩
      have HZ : Hid (Below w.heap.size w w1) := HB.out.trans (hb1.mono HB.out.size)
      clear hb1 HW
      go_wp2
      go_ret
      exact ⟨rfl, HZ.out⟩
end Go.Proofs.Ytjoeogdkcggmdaa
