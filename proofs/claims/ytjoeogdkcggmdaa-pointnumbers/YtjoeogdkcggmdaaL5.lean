/- The walk of PointNumbers. -/
import Derived.Test.YtjoeogdkcggmdaaL0
import Derived.Laws.Entries
import Derived.IntWalk
namespace Go.Proofs.Ytjoeogdkcggmdaa
open Go.RowKit Go.Lib
set_option linter.unusedVariables false

theorem store_fl (P : Program) (w : World) (a : Addr) (m : Mode) (k : FloatKind) (b : Nat) : (store a (.float k b) m).run P w = stored P w a (.float k b) m := run_store P w a _ m rfl
theorem store_cx (P : Program) (w : World) (a : Addr) (m : Mode) (k : FloatKind) (x y : Nat) : (store a (.complex k x y) m).run P w = stored P w a (.complex k x y) m := run_store P w a _ m rfl
attribute [local go_sem] store_fl store_cx

theorem AskAt.next {w w' : World} {b o : Nat} {x y : Int} {f : Nat → Nat} (h : AskAt w b o x y f) (hb : Below w.heap.size w w') : AskAt w' b o x y f := h.below h.lt hb
theorem ask10 {w : World} {g : Nat} {x y : Int} {f : Nat → Nat} (h : AskAt w g 0 x y f) : w.cell? ⟨g, 0, none⟩ = some (.int .i64 x) ∧ w.cell? ⟨g, 1, none⟩ = some (.int .i64 y) ∧ w.cell? ⟨g, 2, none⟩ = some (.float .f64 (f 0)) ∧ w.cell? ⟨g, 3, none⟩ = some (.float .f64 (f 1)) ∧ w.cell? ⟨g, 4, none⟩ = some (.float .f64 (f 2)) ∧ w.cell? ⟨g, 5, none⟩ = some (.float .f64 (f 3)) ∧ w.cell? ⟨g, 6, none⟩ = some (.float .f64 (f 4)) ∧ w.cell? ⟨g, 7, none⟩ = some (.float .f64 (f 5)) ∧ w.cell? ⟨g, 8, none⟩ = some (.float .f64 (f 6)) ∧ w.cell? ⟨g, 9, none⟩ = some (.float .f64 (f 7)) := h
theorem new_ask (w : World) (x y : Int) (f : Nat → Nat) : AskAt (w.alloc (.cells #[.int .i64 x, .int .i64 y, .float .f64 (f 0), .float .f64 (f 1), .float .f64 (f 2), .float .f64 (f 3), .float .f64 (f 4), .float .f64 (f 5), .float .f64 (f 6), .float .f64 (f 7)] 26)) w.heap.size 0 x y f := by
  refine ⟨?_, ?_, ?_, ?_, ?_, ?_, ?_, ?_, ?_, ?_⟩ <;> simp [go_sem]
theorem coord_is (a : Int) (v : Bool) (w : World) (h : coordB a = v) : Calls Try.prog 9 #[.int .i64 a] w fun e w' => e = .returned (.bool v) ∧ w = w' := by
  rw [← h]; exact coord_any a w

set_option maxHeartbeats 8000000 in
set_option maxRecDepth 100000 in
theorem pointNumbers_walk (a : Option Addr) (n cap : Nat) (w : World) (h : AsksIs w a n) :
    Calls Try.prog 3 #[.slice a n cap] w fun e w' => e = .returned (.bool true) ∧ Below w.heap.size w w' := by
  have mixed : Try.prog.follows .mixedOrders = true := by kernel_rfl
  have HA := Lib.hid h
  clear h
  go_enter Try.func3, Try.ntmps3
  go_wp2
  go_loopg [3] 12 (fun g1 v wr => ∃ i : Nat, v = .int .i64 i ∧ i ≤ 12 ∧ 12 - i ≤ g1 ∧ Hid (Below w.heap.size w wr))
  case atStart => exact ⟨0, rfl, by omega, by omega, Below.refl _ _⟩
  case round =>
    obtain ⟨i, rfl, hi12, hg1, HB⟩ := hrel
    by_cases hin : i < n
    · have hinz : decide ((i : Int) < (n : Int)) = true := decide_eq_true (by omega)
      have hiny : (i : Int) < (n : Int) := by omega
      by_cases hi : i < 12
      · have hiz : decide ((i : Int) < 12) = true := decide_eq_true (by omega)
        have hiy : (i : Int) < 12 := by omega
        obtain ⟨b, off, x, y, f, rfl, hask, hbl⟩ := HA.out i hin
        obtain ⟨c0, c1, c2, c3, c4, c5, c6, c7, c8, c9⟩ := hask.below hbl HB.out
        clear hask
        have H := Lib.hid (new_ask wr x y f)
        have HBa := Lib.hid ((HB.out).alloc (HB.out).size (.cells #[.int .i64 x, .int .i64 y, .float .f64 (f 0), .float .f64 (f 1), .float .f64 (f 2), .float .f64 (f 3), .float .f64 (f 4), .float .f64 (f 5), .float .f64 (f 6), .float .f64 (f 7)] 26))
        cases hx : coordB x
        · have CX := Lib.hid (fun w => coord_is x _ w hx)
          have ON := Lib.hid (fun w => of_no x y w (by rw [hx]; rfl))
          clear hx
          go_wp2_with fail
          have hA := H.out
          have hBa := HBa.out
          clear H HBa HB c0 c1 c2 c3 c4 c5 c6 c7 c8 c9
          generalize wr.alloc (.cells #[.int .i64 x, .int .i64 y, .float .f64 (f 0), .float .f64 (f 1), .float .f64 (f 2), .float .f64 (f 3), .float .f64 (f 4), .float .f64 (f 5), .float .f64 (f 6), .float .f64 (f 7)] 26) = wa at *
          generalize wr.heap.size = g at *
          obtain ⟨k0, k1, k2, k3, k4, k5, k6, k7, k8, k9⟩ := ask10 hA
          go_wp2_with fail
          refine (CX.out _).mono ?_
          rintro e w' ⟨rfl, rfl⟩
          go_wp2_with fail
          refine (ON.out _).mono ?_
          rintro e w' ⟨rfl, rfl⟩
          go_wp2_with fail
          refine (told_no _).mono ?_
          rintro e w' ⟨rfl, rfl⟩
          have HK := Lib.hid hA
          have HB := Lib.hid hBa
          clear hA hBa k0 k1 k2 k3 k4 k5 k6 k7 k8 k9
          go_wp2_with fail
          go_loopg [8] 4 (fun g2 v wr => ∃ k : Nat, v = .int .i64 k ∧ k ≤ 4 ∧ 4 - k ≤ g2 ∧ Hid (AskAt wr g 0 x y f) ∧ Hid (Below w.heap.size w wr))
          case atStart => exact ⟨0, rfl, by omega, by omega, HK.out, HB.out⟩
          case round =>
            clear HK HB
            obtain ⟨k, rfl, hk4, hg2, HK, HB⟩ := hrel
            by_cases hk : k < 4
            · have hkz : decide ((k : Int) < 4) = true := decide_eq_true (by omega)
              have hky : (k : Int) < 4 := by omega
              have CA := Lib.hid (fun w => c_any k hk x y f w)
              obtain ⟨k0, k1, k2, k3, k4, k5, k6, k7, k8, k9⟩ := ask10 HK.out
              generalize f (2 * k) = p1 at CA
              generalize f (2 * k + 1) = p2 at CA
              cases h1 : isPt p1 p2
              · have RP := Lib.hid (fun w => refPoint_is p1 p2 _ w h1)
                have PA := Lib.hid (fun w => parts_no p1 p2 w h1)
                have TU := Lib.hid (fun w => turn_no p1 p2 w h1)
                clear h1
                go_wp2_with fail
                refine (CA.out _).mono ?_
                rintro e w1 ⟨rfl, hb1⟩
                have HK1 := Lib.hid (HK.out.next hb1)
                have HB1 : Hid (Below w.heap.size w w1) := HB.out.trans (hb1.mono HB.out.size)
                clear hb1 k0 k1 k2 k3 k4 k5 k6 k7 k8 k9
                obtain ⟨k0, k1, k2, k3, k4, k5, k6, k7, k8, k9⟩ := ask10 HK1.out
                go_wp2_with fail
                refine (PA.out _).mono ?_
                rintro e w2 ⟨rfl, hb2⟩
                have HK2 := Lib.hid (HK1.out.next hb2)
                have HB2 : Hid (Below w.heap.size w w2) := HB1.out.trans (hb2.mono HB1.out.size)
                clear hb2 k0 k1 k2 k3 k4 k5 k6 k7 k8 k9
                obtain ⟨k0, k1, k2, k3, k4, k5, k6, k7, k8, k9⟩ := ask10 HK2.out
                go_wp2_with fail
                refine (CA.out _).mono ?_
                rintro e w3 ⟨rfl, hb3⟩
                have HK3 := Lib.hid (HK2.out.next hb3)
                have HB3 : Hid (Below w.heap.size w w3) := HB2.out.trans (hb3.mono HB2.out.size)
                clear hb3 k0 k1 k2 k3 k4 k5 k6 k7 k8 k9
                obtain ⟨k0, k1, k2, k3, k4, k5, k6, k7, k8, k9⟩ := ask10 HK3.out
                go_wp2_with fail
                refine (TU.out _).mono ?_
                rintro e w4 ⟨rfl, hb4⟩
                have HK4 := Lib.hid (HK3.out.next hb4)
                have HB4 : Hid (Below w.heap.size w w4) := HB3.out.trans (hb4.mono HB3.out.size)
                clear hb4 k0 k1 k2 k3 k4 k5 k6 k7 k8 k9
                obtain ⟨k0, k1, k2, k3, k4, k5, k6, k7, k8, k9⟩ := ask10 HK4.out
                go_wp2_with fail
                refine (CA.out _).mono ?_
                rintro e w5 ⟨rfl, hb5⟩
                have HK5 := Lib.hid (HK4.out.next hb5)
                have HB5 : Hid (Below w.heap.size w w5) := HB4.out.trans (hb5.mono HB4.out.size)
                clear hb5 k0 k1 k2 k3 k4 k5 k6 k7 k8 k9
                obtain ⟨k0, k1, k2, k3, k4, k5, k6, k7, k8, k9⟩ := ask10 HK5.out
                go_wp2_with fail
                refine (RP.out _).mono ?_
                rintro e w' ⟨rfl, rfl⟩
                go_wp2_with fail
                refine (num_any _ _).mono ?_
                rintro e w' ⟨rfl, rfl⟩
                go_wp2_with fail
                refine (num_any _ _).mono ?_
                rintro e w' ⟨rfl, rfl⟩
                go_wp2_with fail
                go_roundg (4 - (k + 1))
                case measure => omega
                case rel => exact ⟨k + 1, by go_num, by omega, by omega, HK5.out, HB5.out⟩
              · have g1 := pt_of h1
                have RP := Lib.hid (fun w => refPoint_is p1 p2 _ w h1)
                have PA := Lib.hid (fun w => parts_yes p1 p2 _ _ w g1)
                have TU := Lib.hid (fun w => turn_yes p1 p2 _ _ w g1)
                have XP := Lib.hid (fun w => X_pt g1 w)
                have YP := Lib.hid (fun w => Y_pt g1 w)
                have OF := Lib.hid (fun w => refOf_any (partOf p2) (partOf p1) w)
                have TO := Lib.hid (fun w => told_yes (partOf p2) (partOf p1) w g1.y1 g1.y2 g1.x1 g1.x2)
                clear h1 g1
                generalize fl (partOf p1) = r1 at *
                generalize fl (partOf p2) = r2 at *
                generalize partOf p1 = x1 at *
                generalize partOf p2 = y1 at *
                have nx : (x1 != x1) = false := by simp
                have ny : (y1 != y1) = false := by simp
                go_wp2_with fail
                refine (CA.out _).mono ?_
                rintro e w1 ⟨rfl, hb1⟩
                have HK1 := Lib.hid (HK.out.next hb1)
                have HB1 : Hid (Below w.heap.size w w1) := HB.out.trans (hb1.mono HB.out.size)
                clear hb1 k0 k1 k2 k3 k4 k5 k6 k7 k8 k9
                obtain ⟨k0, k1, k2, k3, k4, k5, k6, k7, k8, k9⟩ := ask10 HK1.out
                go_wp2_with fail
                refine (PA.out _).mono ?_
                rintro e w2 ⟨rfl, hb2⟩
                have HK2 := Lib.hid (HK1.out.next hb2)
                have HB2 : Hid (Below w.heap.size w w2) := HB1.out.trans (hb2.mono HB1.out.size)
                clear hb2 k0 k1 k2 k3 k4 k5 k6 k7 k8 k9
                obtain ⟨k0, k1, k2, k3, k4, k5, k6, k7, k8, k9⟩ := ask10 HK2.out
                go_wp2_with fail
                refine (CA.out _).mono ?_
                rintro e w3 ⟨rfl, hb3⟩
                have HK3 := Lib.hid (HK2.out.next hb3)
                have HB3 : Hid (Below w.heap.size w w3) := HB2.out.trans (hb3.mono HB2.out.size)
                clear hb3 k0 k1 k2 k3 k4 k5 k6 k7 k8 k9
                obtain ⟨k0, k1, k2, k3, k4, k5, k6, k7, k8, k9⟩ := ask10 HK3.out
                go_wp2_with fail
                refine (TU.out _).mono ?_
                rintro e w4 ⟨rfl, hb4⟩
                have HK4 := Lib.hid (HK3.out.next hb4)
                have HB4 : Hid (Below w.heap.size w w4) := HB3.out.trans (hb4.mono HB3.out.size)
                clear hb4 k0 k1 k2 k3 k4 k5 k6 k7 k8 k9
                obtain ⟨k0, k1, k2, k3, k4, k5, k6, k7, k8, k9⟩ := ask10 HK4.out
                go_wp2_with fail
                refine (CA.out _).mono ?_
                rintro e w5 ⟨rfl, hb5⟩
                have HK5 := Lib.hid (HK4.out.next hb5)
                have HB5 : Hid (Below w.heap.size w w5) := HB4.out.trans (hb5.mono HB4.out.size)
                clear hb5 k0 k1 k2 k3 k4 k5 k6 k7 k8 k9
                obtain ⟨k0, k1, k2, k3, k4, k5, k6, k7, k8, k9⟩ := ask10 HK5.out
                go_wp2_with fail
                refine (RP.out _).mono ?_
                rintro e w' ⟨rfl, rfl⟩
                go_wp2_with fail
                refine (num_any _ _).mono ?_
                rintro e w' ⟨rfl, rfl⟩
                go_wp2_with fail
                refine (CA.out _).mono ?_
                rintro e w6 ⟨rfl, hb6⟩
                have HK6 := Lib.hid (HK5.out.next hb6)
                have HB6 : Hid (Below w.heap.size w w6) := HB5.out.trans (hb6.mono HB5.out.size)
                clear hb6 k0 k1 k2 k3 k4 k5 k6 k7 k8 k9
                obtain ⟨k0, k1, k2, k3, k4, k5, k6, k7, k8, k9⟩ := ask10 HK6.out
                go_wp2_with fail
                refine (XP.out _).mono ?_
                rintro e w' ⟨rfl, rfl⟩
                go_wp2_with fail
                refine (CA.out _).mono ?_
                rintro e w7 ⟨rfl, hb7⟩
                have HK7 := Lib.hid (HK6.out.next hb7)
                have HB7 : Hid (Below w.heap.size w w7) := HB6.out.trans (hb7.mono HB6.out.size)
                clear hb7 k0 k1 k2 k3 k4 k5 k6 k7 k8 k9
                obtain ⟨k0, k1, k2, k3, k4, k5, k6, k7, k8, k9⟩ := ask10 HK7.out
                go_wp2_with fail
                refine (YP.out _).mono ?_
                rintro e w' ⟨rfl, rfl⟩
                go_wp2_with fail
                refine (OF.out _).mono ?_
                rintro e w' ⟨rfl, rfl⟩
                go_wp2_with fail
                refine (TO.out _).mono ?_
                rintro e w' ⟨rfl, rfl⟩
                go_wp2_with fail
                go_roundg (4 - (k + 1))
                case measure => omega
                case rel => exact ⟨k + 1, by go_num, by omega, by omega, HK7.out, HB7.out⟩
            · have hkz : decide ((k : Int) < 4) = false := decide_eq_false (by omega)
              have hky : ¬ (k : Int) < 4 := by omega
              go_wp2_with fail
              go_roundg (12 - (i + 1))
              case measure => omega
              case rel => exact ⟨i + 1, by go_num, by omega, by omega, HB.out⟩
        · cases hy : coordB y
          · have CX := Lib.hid (fun w => coord_is x _ w hx)
            have CY := Lib.hid (fun w => coord_is y _ w hy)
            have ON := Lib.hid (fun w => of_no x y w (by rw [hx, hy]; rfl))
            clear hx hy
            go_wp2_with fail
            have hA := H.out
            have hBa := HBa.out
            clear H HBa HB c0 c1 c2 c3 c4 c5 c6 c7 c8 c9
            generalize wr.alloc (.cells #[.int .i64 x, .int .i64 y, .float .f64 (f 0), .float .f64 (f 1), .float .f64 (f 2), .float .f64 (f 3), .float .f64 (f 4), .float .f64 (f 5), .float .f64 (f 6), .float .f64 (f 7)] 26) = wa at *
            generalize wr.heap.size = g at *
            obtain ⟨k0, k1, k2, k3, k4, k5, k6, k7, k8, k9⟩ := ask10 hA
            go_wp2_with fail
            refine (CX.out _).mono ?_
            rintro e w' ⟨rfl, rfl⟩
            go_wp2_with fail
            refine (CY.out _).mono ?_
            rintro e w' ⟨rfl, rfl⟩
            go_wp2_with fail
            refine (ON.out _).mono ?_
            rintro e w' ⟨rfl, rfl⟩
            go_wp2_with fail
            refine (told_no _).mono ?_
            rintro e w' ⟨rfl, rfl⟩
            have HK := Lib.hid hA
            have HB := Lib.hid hBa
            clear hA hBa k0 k1 k2 k3 k4 k5 k6 k7 k8 k9
            go_wp2_with fail
            go_loopg [8] 4 (fun g2 v wr => ∃ k : Nat, v = .int .i64 k ∧ k ≤ 4 ∧ 4 - k ≤ g2 ∧ Hid (AskAt wr g 0 x y f) ∧ Hid (Below w.heap.size w wr))
            case atStart => exact ⟨0, rfl, by omega, by omega, HK.out, HB.out⟩
            case round =>
              clear HK HB
              obtain ⟨k, rfl, hk4, hg2, HK, HB⟩ := hrel
              by_cases hk : k < 4
              · have hkz : decide ((k : Int) < 4) = true := decide_eq_true (by omega)
                have hky : (k : Int) < 4 := by omega
                have CA := Lib.hid (fun w => c_any k hk x y f w)
                obtain ⟨k0, k1, k2, k3, k4, k5, k6, k7, k8, k9⟩ := ask10 HK.out
                generalize f (2 * k) = p1 at CA
                generalize f (2 * k + 1) = p2 at CA
                cases h1 : isPt p1 p2
                · have RP := Lib.hid (fun w => refPoint_is p1 p2 _ w h1)
                  have PA := Lib.hid (fun w => parts_no p1 p2 w h1)
                  have TU := Lib.hid (fun w => turn_no p1 p2 w h1)
                  clear h1
                  go_wp2_with fail
                  refine (CA.out _).mono ?_
                  rintro e w1 ⟨rfl, hb1⟩
                  have HK1 := Lib.hid (HK.out.next hb1)
                  have HB1 : Hid (Below w.heap.size w w1) := HB.out.trans (hb1.mono HB.out.size)
                  clear hb1 k0 k1 k2 k3 k4 k5 k6 k7 k8 k9
                  obtain ⟨k0, k1, k2, k3, k4, k5, k6, k7, k8, k9⟩ := ask10 HK1.out
                  go_wp2_with fail
                  refine (PA.out _).mono ?_
                  rintro e w2 ⟨rfl, hb2⟩
                  have HK2 := Lib.hid (HK1.out.next hb2)
                  have HB2 : Hid (Below w.heap.size w w2) := HB1.out.trans (hb2.mono HB1.out.size)
                  clear hb2 k0 k1 k2 k3 k4 k5 k6 k7 k8 k9
                  obtain ⟨k0, k1, k2, k3, k4, k5, k6, k7, k8, k9⟩ := ask10 HK2.out
                  go_wp2_with fail
                  refine (CA.out _).mono ?_
                  rintro e w3 ⟨rfl, hb3⟩
                  have HK3 := Lib.hid (HK2.out.next hb3)
                  have HB3 : Hid (Below w.heap.size w w3) := HB2.out.trans (hb3.mono HB2.out.size)
                  clear hb3 k0 k1 k2 k3 k4 k5 k6 k7 k8 k9
                  obtain ⟨k0, k1, k2, k3, k4, k5, k6, k7, k8, k9⟩ := ask10 HK3.out
                  go_wp2_with fail
                  refine (TU.out _).mono ?_
                  rintro e w4 ⟨rfl, hb4⟩
                  have HK4 := Lib.hid (HK3.out.next hb4)
                  have HB4 : Hid (Below w.heap.size w w4) := HB3.out.trans (hb4.mono HB3.out.size)
                  clear hb4 k0 k1 k2 k3 k4 k5 k6 k7 k8 k9
                  obtain ⟨k0, k1, k2, k3, k4, k5, k6, k7, k8, k9⟩ := ask10 HK4.out
                  go_wp2_with fail
                  refine (CA.out _).mono ?_
                  rintro e w5 ⟨rfl, hb5⟩
                  have HK5 := Lib.hid (HK4.out.next hb5)
                  have HB5 : Hid (Below w.heap.size w w5) := HB4.out.trans (hb5.mono HB4.out.size)
                  clear hb5 k0 k1 k2 k3 k4 k5 k6 k7 k8 k9
                  obtain ⟨k0, k1, k2, k3, k4, k5, k6, k7, k8, k9⟩ := ask10 HK5.out
                  go_wp2_with fail
                  refine (RP.out _).mono ?_
                  rintro e w' ⟨rfl, rfl⟩
                  go_wp2_with fail
                  refine (num_any _ _).mono ?_
                  rintro e w' ⟨rfl, rfl⟩
                  go_wp2_with fail
                  refine (num_any _ _).mono ?_
                  rintro e w' ⟨rfl, rfl⟩
                  go_wp2_with fail
                  go_roundg (4 - (k + 1))
                  case measure => omega
                  case rel => exact ⟨k + 1, by go_num, by omega, by omega, HK5.out, HB5.out⟩
                · have g1 := pt_of h1
                  have RP := Lib.hid (fun w => refPoint_is p1 p2 _ w h1)
                  have PA := Lib.hid (fun w => parts_yes p1 p2 _ _ w g1)
                  have TU := Lib.hid (fun w => turn_yes p1 p2 _ _ w g1)
                  have XP := Lib.hid (fun w => X_pt g1 w)
                  have YP := Lib.hid (fun w => Y_pt g1 w)
                  have OF := Lib.hid (fun w => refOf_any (partOf p2) (partOf p1) w)
                  have TO := Lib.hid (fun w => told_yes (partOf p2) (partOf p1) w g1.y1 g1.y2 g1.x1 g1.x2)
                  clear h1 g1
                  generalize fl (partOf p1) = r1 at *
                  generalize fl (partOf p2) = r2 at *
                  generalize partOf p1 = x1 at *
                  generalize partOf p2 = y1 at *
                  have nx : (x1 != x1) = false := by simp
                  have ny : (y1 != y1) = false := by simp
                  go_wp2_with fail
                  refine (CA.out _).mono ?_
                  rintro e w1 ⟨rfl, hb1⟩
                  have HK1 := Lib.hid (HK.out.next hb1)
                  have HB1 : Hid (Below w.heap.size w w1) := HB.out.trans (hb1.mono HB.out.size)
                  clear hb1 k0 k1 k2 k3 k4 k5 k6 k7 k8 k9
                  obtain ⟨k0, k1, k2, k3, k4, k5, k6, k7, k8, k9⟩ := ask10 HK1.out
                  go_wp2_with fail
                  refine (PA.out _).mono ?_
                  rintro e w2 ⟨rfl, hb2⟩
                  have HK2 := Lib.hid (HK1.out.next hb2)
                  have HB2 : Hid (Below w.heap.size w w2) := HB1.out.trans (hb2.mono HB1.out.size)
                  clear hb2 k0 k1 k2 k3 k4 k5 k6 k7 k8 k9
                  obtain ⟨k0, k1, k2, k3, k4, k5, k6, k7, k8, k9⟩ := ask10 HK2.out
                  go_wp2_with fail
                  refine (CA.out _).mono ?_
                  rintro e w3 ⟨rfl, hb3⟩
                  have HK3 := Lib.hid (HK2.out.next hb3)
                  have HB3 : Hid (Below w.heap.size w w3) := HB2.out.trans (hb3.mono HB2.out.size)
                  clear hb3 k0 k1 k2 k3 k4 k5 k6 k7 k8 k9
                  obtain ⟨k0, k1, k2, k3, k4, k5, k6, k7, k8, k9⟩ := ask10 HK3.out
                  go_wp2_with fail
                  refine (TU.out _).mono ?_
                  rintro e w4 ⟨rfl, hb4⟩
                  have HK4 := Lib.hid (HK3.out.next hb4)
                  have HB4 : Hid (Below w.heap.size w w4) := HB3.out.trans (hb4.mono HB3.out.size)
                  clear hb4 k0 k1 k2 k3 k4 k5 k6 k7 k8 k9
                  obtain ⟨k0, k1, k2, k3, k4, k5, k6, k7, k8, k9⟩ := ask10 HK4.out
                  go_wp2_with fail
                  refine (CA.out _).mono ?_
                  rintro e w5 ⟨rfl, hb5⟩
                  have HK5 := Lib.hid (HK4.out.next hb5)
                  have HB5 : Hid (Below w.heap.size w w5) := HB4.out.trans (hb5.mono HB4.out.size)
                  clear hb5 k0 k1 k2 k3 k4 k5 k6 k7 k8 k9
                  obtain ⟨k0, k1, k2, k3, k4, k5, k6, k7, k8, k9⟩ := ask10 HK5.out
                  go_wp2_with fail
                  refine (RP.out _).mono ?_
                  rintro e w' ⟨rfl, rfl⟩
                  go_wp2_with fail
                  refine (num_any _ _).mono ?_
                  rintro e w' ⟨rfl, rfl⟩
                  go_wp2_with fail
                  refine (CA.out _).mono ?_
                  rintro e w6 ⟨rfl, hb6⟩
                  have HK6 := Lib.hid (HK5.out.next hb6)
                  have HB6 : Hid (Below w.heap.size w w6) := HB5.out.trans (hb6.mono HB5.out.size)
                  clear hb6 k0 k1 k2 k3 k4 k5 k6 k7 k8 k9
                  obtain ⟨k0, k1, k2, k3, k4, k5, k6, k7, k8, k9⟩ := ask10 HK6.out
                  go_wp2_with fail
                  refine (XP.out _).mono ?_
                  rintro e w' ⟨rfl, rfl⟩
                  go_wp2_with fail
                  refine (CA.out _).mono ?_
                  rintro e w7 ⟨rfl, hb7⟩
                  have HK7 := Lib.hid (HK6.out.next hb7)
                  have HB7 : Hid (Below w.heap.size w w7) := HB6.out.trans (hb7.mono HB6.out.size)
                  clear hb7 k0 k1 k2 k3 k4 k5 k6 k7 k8 k9
                  obtain ⟨k0, k1, k2, k3, k4, k5, k6, k7, k8, k9⟩ := ask10 HK7.out
                  go_wp2_with fail
                  refine (YP.out _).mono ?_
                  rintro e w' ⟨rfl, rfl⟩
                  go_wp2_with fail
                  refine (OF.out _).mono ?_
                  rintro e w' ⟨rfl, rfl⟩
                  go_wp2_with fail
                  refine (TO.out _).mono ?_
                  rintro e w' ⟨rfl, rfl⟩
                  go_wp2_with fail
                  go_roundg (4 - (k + 1))
                  case measure => omega
                  case rel => exact ⟨k + 1, by go_num, by omega, by omega, HK7.out, HB7.out⟩
              · have hkz : decide ((k : Int) < 4) = false := decide_eq_false (by omega)
                have hky : ¬ (k : Int) < 4 := by omega
                go_wp2_with fail
                go_roundg (12 - (i + 1))
                case measure => omega
                case rel => exact ⟨i + 1, by go_num, by omega, by omega, HB.out⟩
          · have CX := Lib.hid (fun w => coord_is x _ w hx)
            have CY := Lib.hid (fun w => coord_is y _ w hy)
            have OY := Lib.hid (fun w => of_yes x y w hx hy)
            have RO := Lib.hid (fun w => refOf_any x y w)
            simp only [coordB, decide_eq_true_eq] at hx hy
            have TY := Lib.hid (fun w => told_yes x y w hx.1 hx.2 hy.1 hy.2)
            clear hx hy
            generalize fl x = fx at *
            generalize fl y = fy at *
            go_wp2_with fail
            have hA := H.out
            have hBa := HBa.out
            clear H HBa HB c0 c1 c2 c3 c4 c5 c6 c7 c8 c9
            generalize wr.alloc (.cells #[.int .i64 x, .int .i64 y, .float .f64 (f 0), .float .f64 (f 1), .float .f64 (f 2), .float .f64 (f 3), .float .f64 (f 4), .float .f64 (f 5), .float .f64 (f 6), .float .f64 (f 7)] 26) = wa at *
            generalize wr.heap.size = g at *
            obtain ⟨k0, k1, k2, k3, k4, k5, k6, k7, k8, k9⟩ := ask10 hA
            go_wp2_with fail
            refine (CX.out _).mono ?_
            rintro e w' ⟨rfl, rfl⟩
            go_wp2_with fail
            refine (CY.out _).mono ?_
            rintro e w' ⟨rfl, rfl⟩
            go_wp2_with fail
            refine (OY.out _).mono ?_
            rintro e w' ⟨rfl, rfl⟩
            go_wp2_with fail
            refine (RO.out _).mono ?_
            rintro e w' ⟨rfl, rfl⟩
            go_wp2_with fail
            refine (TY.out _).mono ?_
            rintro e w' ⟨rfl, rfl⟩
            have HK := Lib.hid hA
            have HB := Lib.hid hBa
            clear hA hBa k0 k1 k2 k3 k4 k5 k6 k7 k8 k9
            go_wp2_with fail
            go_loopg [8] 4 (fun g2 v wr => ∃ k : Nat, v = .int .i64 k ∧ k ≤ 4 ∧ 4 - k ≤ g2 ∧ Hid (AskAt wr g 0 x y f) ∧ Hid (Below w.heap.size w wr))
            case atStart => exact ⟨0, rfl, by omega, by omega, HK.out, HB.out⟩
            case round =>
              clear HK HB
              obtain ⟨k, rfl, hk4, hg2, HK, HB⟩ := hrel
              by_cases hk : k < 4
              · have hkz : decide ((k : Int) < 4) = true := decide_eq_true (by omega)
                have hky : (k : Int) < 4 := by omega
                have CA := Lib.hid (fun w => c_any k hk x y f w)
                obtain ⟨k0, k1, k2, k3, k4, k5, k6, k7, k8, k9⟩ := ask10 HK.out
                generalize f (2 * k) = p1 at CA
                generalize f (2 * k + 1) = p2 at CA
                cases h1 : isPt p1 p2
                · have RP := Lib.hid (fun w => refPoint_is p1 p2 _ w h1)
                  have PA := Lib.hid (fun w => parts_no p1 p2 w h1)
                  have TU := Lib.hid (fun w => turn_no p1 p2 w h1)
                  clear h1
                  go_wp2_with fail
                  refine (CA.out _).mono ?_
                  rintro e w1 ⟨rfl, hb1⟩
                  have HK1 := Lib.hid (HK.out.next hb1)
                  have HB1 : Hid (Below w.heap.size w w1) := HB.out.trans (hb1.mono HB.out.size)
                  clear hb1 k0 k1 k2 k3 k4 k5 k6 k7 k8 k9
                  obtain ⟨k0, k1, k2, k3, k4, k5, k6, k7, k8, k9⟩ := ask10 HK1.out
                  go_wp2_with fail
                  refine (PA.out _).mono ?_
                  rintro e w2 ⟨rfl, hb2⟩
                  have HK2 := Lib.hid (HK1.out.next hb2)
                  have HB2 : Hid (Below w.heap.size w w2) := HB1.out.trans (hb2.mono HB1.out.size)
                  clear hb2 k0 k1 k2 k3 k4 k5 k6 k7 k8 k9
                  obtain ⟨k0, k1, k2, k3, k4, k5, k6, k7, k8, k9⟩ := ask10 HK2.out
                  go_wp2_with fail
                  refine (CA.out _).mono ?_
                  rintro e w3 ⟨rfl, hb3⟩
                  have HK3 := Lib.hid (HK2.out.next hb3)
                  have HB3 : Hid (Below w.heap.size w w3) := HB2.out.trans (hb3.mono HB2.out.size)
                  clear hb3 k0 k1 k2 k3 k4 k5 k6 k7 k8 k9
                  obtain ⟨k0, k1, k2, k3, k4, k5, k6, k7, k8, k9⟩ := ask10 HK3.out
                  go_wp2_with fail
                  refine (TU.out _).mono ?_
                  rintro e w4 ⟨rfl, hb4⟩
                  have HK4 := Lib.hid (HK3.out.next hb4)
                  have HB4 : Hid (Below w.heap.size w w4) := HB3.out.trans (hb4.mono HB3.out.size)
                  clear hb4 k0 k1 k2 k3 k4 k5 k6 k7 k8 k9
                  obtain ⟨k0, k1, k2, k3, k4, k5, k6, k7, k8, k9⟩ := ask10 HK4.out
                  go_wp2_with fail
                  refine (CA.out _).mono ?_
                  rintro e w5 ⟨rfl, hb5⟩
                  have HK5 := Lib.hid (HK4.out.next hb5)
                  have HB5 : Hid (Below w.heap.size w w5) := HB4.out.trans (hb5.mono HB4.out.size)
                  clear hb5 k0 k1 k2 k3 k4 k5 k6 k7 k8 k9
                  obtain ⟨k0, k1, k2, k3, k4, k5, k6, k7, k8, k9⟩ := ask10 HK5.out
                  go_wp2_with fail
                  refine (RP.out _).mono ?_
                  rintro e w' ⟨rfl, rfl⟩
                  go_wp2_with fail
                  refine (num_any _ _).mono ?_
                  rintro e w' ⟨rfl, rfl⟩
                  go_wp2_with fail
                  refine (num_any _ _).mono ?_
                  rintro e w' ⟨rfl, rfl⟩
                  go_wp2_with fail
                  go_roundg (4 - (k + 1))
                  case measure => omega
                  case rel => exact ⟨k + 1, by go_num, by omega, by omega, HK5.out, HB5.out⟩
                · have g1 := pt_of h1
                  have RP := Lib.hid (fun w => refPoint_is p1 p2 _ w h1)
                  have PA := Lib.hid (fun w => parts_yes p1 p2 _ _ w g1)
                  have TU := Lib.hid (fun w => turn_yes p1 p2 _ _ w g1)
                  have XP := Lib.hid (fun w => X_pt g1 w)
                  have YP := Lib.hid (fun w => Y_pt g1 w)
                  have OF := Lib.hid (fun w => refOf_any (partOf p2) (partOf p1) w)
                  have TO := Lib.hid (fun w => told_yes (partOf p2) (partOf p1) w g1.y1 g1.y2 g1.x1 g1.x2)
                  clear h1 g1
                  generalize fl (partOf p1) = r1 at *
                  generalize fl (partOf p2) = r2 at *
                  generalize partOf p1 = x1 at *
                  generalize partOf p2 = y1 at *
                  have nx : (x1 != x1) = false := by simp
                  have ny : (y1 != y1) = false := by simp
                  go_wp2_with fail
                  refine (CA.out _).mono ?_
                  rintro e w1 ⟨rfl, hb1⟩
                  have HK1 := Lib.hid (HK.out.next hb1)
                  have HB1 : Hid (Below w.heap.size w w1) := HB.out.trans (hb1.mono HB.out.size)
                  clear hb1 k0 k1 k2 k3 k4 k5 k6 k7 k8 k9
                  obtain ⟨k0, k1, k2, k3, k4, k5, k6, k7, k8, k9⟩ := ask10 HK1.out
                  go_wp2_with fail
                  refine (PA.out _).mono ?_
                  rintro e w2 ⟨rfl, hb2⟩
                  have HK2 := Lib.hid (HK1.out.next hb2)
                  have HB2 : Hid (Below w.heap.size w w2) := HB1.out.trans (hb2.mono HB1.out.size)
                  clear hb2 k0 k1 k2 k3 k4 k5 k6 k7 k8 k9
                  obtain ⟨k0, k1, k2, k3, k4, k5, k6, k7, k8, k9⟩ := ask10 HK2.out
                  go_wp2_with fail
                  refine (CA.out _).mono ?_
                  rintro e w3 ⟨rfl, hb3⟩
                  have HK3 := Lib.hid (HK2.out.next hb3)
                  have HB3 : Hid (Below w.heap.size w w3) := HB2.out.trans (hb3.mono HB2.out.size)
                  clear hb3 k0 k1 k2 k3 k4 k5 k6 k7 k8 k9
                  obtain ⟨k0, k1, k2, k3, k4, k5, k6, k7, k8, k9⟩ := ask10 HK3.out
                  go_wp2_with fail
                  refine (TU.out _).mono ?_
                  rintro e w4 ⟨rfl, hb4⟩
                  have HK4 := Lib.hid (HK3.out.next hb4)
                  have HB4 : Hid (Below w.heap.size w w4) := HB3.out.trans (hb4.mono HB3.out.size)
                  clear hb4 k0 k1 k2 k3 k4 k5 k6 k7 k8 k9
                  obtain ⟨k0, k1, k2, k3, k4, k5, k6, k7, k8, k9⟩ := ask10 HK4.out
                  go_wp2_with fail
                  refine (CA.out _).mono ?_
                  rintro e w5 ⟨rfl, hb5⟩
                  have HK5 := Lib.hid (HK4.out.next hb5)
                  have HB5 : Hid (Below w.heap.size w w5) := HB4.out.trans (hb5.mono HB4.out.size)
                  clear hb5 k0 k1 k2 k3 k4 k5 k6 k7 k8 k9
                  obtain ⟨k0, k1, k2, k3, k4, k5, k6, k7, k8, k9⟩ := ask10 HK5.out
                  go_wp2_with fail
                  refine (RP.out _).mono ?_
                  rintro e w' ⟨rfl, rfl⟩
                  go_wp2_with fail
                  refine (num_any _ _).mono ?_
                  rintro e w' ⟨rfl, rfl⟩
                  go_wp2_with fail
                  refine (CA.out _).mono ?_
                  rintro e w6 ⟨rfl, hb6⟩
                  have HK6 := Lib.hid (HK5.out.next hb6)
                  have HB6 : Hid (Below w.heap.size w w6) := HB5.out.trans (hb6.mono HB5.out.size)
                  clear hb6 k0 k1 k2 k3 k4 k5 k6 k7 k8 k9
                  obtain ⟨k0, k1, k2, k3, k4, k5, k6, k7, k8, k9⟩ := ask10 HK6.out
                  go_wp2_with fail
                  refine (XP.out _).mono ?_
                  rintro e w' ⟨rfl, rfl⟩
                  go_wp2_with fail
                  refine (CA.out _).mono ?_
                  rintro e w7 ⟨rfl, hb7⟩
                  have HK7 := Lib.hid (HK6.out.next hb7)
                  have HB7 : Hid (Below w.heap.size w w7) := HB6.out.trans (hb7.mono HB6.out.size)
                  clear hb7 k0 k1 k2 k3 k4 k5 k6 k7 k8 k9
                  obtain ⟨k0, k1, k2, k3, k4, k5, k6, k7, k8, k9⟩ := ask10 HK7.out
                  go_wp2_with fail
                  refine (YP.out _).mono ?_
                  rintro e w' ⟨rfl, rfl⟩
                  go_wp2_with fail
                  refine (OF.out _).mono ?_
                  rintro e w' ⟨rfl, rfl⟩
                  go_wp2_with fail
                  refine (TO.out _).mono ?_
                  rintro e w' ⟨rfl, rfl⟩
                  go_wp2_with fail
                  go_roundg (4 - (k + 1))
                  case measure => omega
                  case rel => exact ⟨k + 1, by go_num, by omega, by omega, HK7.out, HB7.out⟩
              · have hkz : decide ((k : Int) < 4) = false := decide_eq_false (by omega)
                have hky : ¬ (k : Int) < 4 := by omega
                go_wp2_with fail
                go_roundg (12 - (i + 1))
                case measure => omega
                case rel => exact ⟨i + 1, by go_num, by omega, by omega, HB.out⟩
      · have hiz : decide ((i : Int) < 12) = false := decide_eq_false (by omega)
        have hiy : ¬ (i : Int) < 12 := by omega
        have HW := Lib.hid (wakes_any wr)
        go_wp2_with fail
        refine (HW.out).mono ?_
        rintro e w1 ⟨rfl, hb1⟩
        have HZ : Hid (Below w.heap.size w w1) := HB.out.trans (hb1.mono HB.out.size)
        clear hb1 HW
        go_wp2
        go_ret
        exact ⟨rfl, HZ.out⟩
    · have hinz : decide ((i : Int) < (n : Int)) = false := decide_eq_false (by omega)
      have hiny : ¬ (i : Int) < (n : Int) := by omega
      have HW := Lib.hid (wakes_any wr)
      go_wp2_with fail
      refine (HW.out).mono ?_
      rintro e w1 ⟨rfl, hb1⟩
      have HZ : Hid (Below w.heap.size w w1) := HB.out.trans (hb1.mono HB.out.size)
      clear hb1 HW
      go_wp2
      go_ret
      exact ⟨rfl, HZ.out⟩
end Go.Proofs.Ytjoeogdkcggmdaa
