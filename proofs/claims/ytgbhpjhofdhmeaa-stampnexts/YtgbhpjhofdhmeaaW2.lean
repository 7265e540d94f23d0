/- The walk of StampNexts. -/
import Derived.Test.YtgbhpjhofdhmeaaS4
import Derived.Deep.RegionWith
namespace Go.Proofs.Ytgbhpjhofdhmeaa
open Go.RowKit Go.Lib
set_option linter.unusedVariables false

theorem below_a2 {w w1 : World} (h : Below w.heap.size w w1) (o p : Obj) : Below w.heap.size w ((w1.alloc o).alloc p) := (h.alloc h.size o).alloc (by have := h.size; simp; omega) p
theorem st_same (t r : Int) (W : World) : (binOp .neq 24 (.agg #[.int .i64 t, .int .i64 r]) (.agg #[.int .i64 t, .int .i64 r])).run Try.prog W = .ok (.bool false) W := by
  rw [st_neq]
  congr 2
  simp
theorem above (t r : Int) : cmpS t 16 (t + 1) r = -1 := by
  unfold cmpS cmpI
  repeat (first | omega | split)

set_option maxHeartbeats 4000000 in
set_option maxRecDepth 100000 in
theorem stampNexts_walk (a : Option Addr) (n cap : Nat) (w : World) (h : AsksIs w a n) :
    Calls Try.prog 4 #[.slice a n cap] w (BoolPost w true) := by
  have mixed : Try.prog.follows .mixedOrders = true := by kernel_rfl
  have HA := Lib.hid h
  clear h
  go_enter Try.func4, Try.ntmps4
  go_wp2
  go_loopg [3] 20 (fun g1 v wr => ∃ i : Nat, v = .int .i64 i ∧ i ≤ 20 ∧ 20 - i ≤ g1 ∧ Hid (Below w.heap.size w wr))
  case atStart => exact ⟨0, rfl, by omega, by omega, Below.refl _ _⟩
  case round =>
    obtain ⟨i, rfl, hi20, hg1, HB⟩ := hrel
    by_cases hin : i < n
    · have hinz : decide ((i : Int) < (n : Int)) = true := decide_eq_true (by omega)
      have hiny : (i : Int) < (n : Int) := by omega
      by_cases hi : i < 20
      · have hiz : decide ((i : Int) < 20) = true := decide_eq_true (by omega)
        have hiy : (i : Int) < 20 := by omega
        obtain ⟨b, off, t, r, u, v, ax, xs, cx, ea, hask, _, _, _, _, _, _, _⟩ := HA.out i hin
        subst ea
        obtain ⟨q0, q1, _, _, _⟩ := hask.below HB.out hask.lt
        clear hask
        go_wp2_with fail
        go_quiet (fail)
        have HB1 := Lib.hid (below_drewN HB.out nq)
        clear q0 q1 HB
        generalize wr.drewN nq = wx at *
        have hE := st_same 0 0
        have hG := st_guard
        have hb0 := st_build0
        by_cases g : t < 0
        · have CN := Lib.hid (fun W => next_low t r g W)
          have CU0 := Lib.hid (fun W => upTo_is t 1099511627776 false (by simp [upB]; omega) W)
          have CE := Lib.hid (fun W => num_any 1 W)
          clear g
          go_wp2_with fail
          refine (CN.out _).mono ?_
          rintro e w1 ⟨rfl, hb1⟩
          have HB2 : Hid (Below w.heap.size w w1) := HB1.out.trans (hb1.mono HB1.out.size)
          clear hb1
          go_wp2_with fail
          refine (CU0.out _).mono ?_
          rintro e w' ⟨rfl, rfl⟩
          go_wp2_with fail
          refine (CE.out _).mono ?_
          rintro e w' ⟨rfl, rfl⟩
          go_wp2_with fail
          go_roundg (20 - (i + 1))
          case measure => omega
          case rel => exact ⟨i + 1, by go_num, by omega, by omega, below_a2 HB2.out _ _⟩
        · have g1 : ¬ t < 0 := g
          clear g
          by_cases g : 1099511627776 < t
          · have CN := Lib.hid (fun W => next_high t r g W)
            have CU0 := Lib.hid (fun W => upTo_is t 1099511627776 false (by simp [upB]; omega) W)
            have CE := Lib.hid (fun W => num_any 1 W)
            clear g
            go_wp2_with fail
            refine (CN.out _).mono ?_
            rintro e w1 ⟨rfl, hb1⟩
            have HB2 : Hid (Below w.heap.size w w1) := HB1.out.trans (hb1.mono HB1.out.size)
            clear hb1
            go_wp2_with fail
            refine (CU0.out _).mono ?_
            rintro e w' ⟨rfl, rfl⟩
            go_wp2_with fail
            refine (CE.out _).mono ?_
            rintro e w' ⟨rfl, rfl⟩
            go_wp2_with fail
            go_roundg (20 - (i + 1))
            case measure => omega
            case rel => exact ⟨i + 1, by go_num, by omega, by omega, below_a2 HB2.out _ _⟩
          · have g2 : ¬ 1099511627776 < t := g
            clear g
            by_cases g : 0 ≤ r ∧ r < 16
            · have g3 := g
              clear g
              by_cases g : t = 1099511627776
              · have g4 : ¬ t < 1099511627776 := by omega
                have CN := Lib.hid (fun W => next_full t r g g3 W)
                have CU0 := Lib.hid (fun W => upTo_is t 1099511627776 true (by simp [upB]; omega) W)
                have CU1 := Lib.hid (fun W => upTo_is r 15 true (by simp [upB]; omega) W)
                have CE := Lib.hid (fun W => num_any 5 W)
                clear g
                go_wp2_with fail
                refine (CN.out _).mono ?_
                rintro e w1 ⟨rfl, hb1⟩
                have HB2 : Hid (Below w.heap.size w w1) := HB1.out.trans (hb1.mono HB1.out.size)
                clear hb1
                go_wp2_with fail
                refine (CU0.out _).mono ?_
                rintro e w' ⟨rfl, rfl⟩
                go_wp2_with fail
                refine (CU1.out _).mono ?_
                rintro e w' ⟨rfl, rfl⟩
                go_wp2_with fail
                refine (CE.out _).mono ?_
                rintro e w' ⟨rfl, rfl⟩
                go_wp2_with fail
                go_roundg (20 - (i + 1))
                case measure => omega
                case rel => exact ⟨i + 1, by go_num, by omega, by omega, below_a2 HB2.out _ _⟩
              · have g4 : t < 1099511627776 := by omega
                have hE2 := st_same (t + 1) r
                have hb1 := st_build
                have CN := Lib.hid (fun W => next_ok t r (by omega) g4 g3 W)
                have CU0 := Lib.hid (fun W => upTo_is t 1099511627776 true (by simp [upB]; omega) W)
                have CU1 := Lib.hid (fun W => upTo_is r 15 true (by simp [upB]; omega) W)
                have CE := Lib.hid (fun W => num_any 0 W)
                have CC := Lib.hid (fun W => show Calls Try.prog 11 #[.agg #[.int .i64 t, .int .i64 16], .agg #[.int .i64 (t + 1), .int .i64 r]] W (IntBel W (-1)) by rw [← above t r]; exact cmp_any t 16 (t + 1) r W)
                clear g
                go_wp2_with fail
                refine (CN.out _).mono ?_
                rintro e w1 ⟨rfl, hb1⟩
                have HB2 : Hid (Below w.heap.size w w1) := HB1.out.trans (hb1.mono HB1.out.size)
                clear hb1
                go_wp2_with fail
                refine (CU0.out _).mono ?_
                rintro e w' ⟨rfl, rfl⟩
                go_wp2_with fail
                refine (CU1.out _).mono ?_
                rintro e w' ⟨rfl, rfl⟩
                go_wp2_with fail
                refine (CE.out _).mono ?_
                rintro e w' ⟨rfl, rfl⟩
                go_wp2_with fail
                refine (CC.out _).mono ?_
                rintro e w3 ⟨rfl, hb3⟩
                have HZ := Lib.hid ((below_a2 HB2.out _ _).trans (hb3.mono (below_a2 HB2.out _ _).size))
                clear hb3
                go_wp2_with fail
                go_roundg (20 - (i + 1))
                case measure => omega
                case rel => exact ⟨i + 1, by go_num, by omega, by omega, HZ.out⟩
            · have CN := Lib.hid (fun W => next_rep t r g1 g2 g W)
              have CU0 := Lib.hid (fun W => upTo_is t 1099511627776 true (by simp [upB]; omega) W)
              have CU1 := Lib.hid (fun W => upTo_is r 15 false (by simp [upB]; omega) W)
              have CE := Lib.hid (fun W => num_any 1 W)
              clear g
              go_wp2_with fail
              refine (CN.out _).mono ?_
              rintro e w1 ⟨rfl, hb1⟩
              have HB2 : Hid (Below w.heap.size w w1) := HB1.out.trans (hb1.mono HB1.out.size)
              clear hb1
              go_wp2_with fail
              refine (CU0.out _).mono ?_
              rintro e w' ⟨rfl, rfl⟩
              go_wp2_with fail
              refine (CU1.out _).mono ?_
              rintro e w' ⟨rfl, rfl⟩
              go_wp2_with fail
              refine (CE.out _).mono ?_
              rintro e w' ⟨rfl, rfl⟩
              go_wp2_with fail
              go_roundg (20 - (i + 1))
              case measure => omega
              case rel => exact ⟨i + 1, by go_num, by omega, by omega, below_a2 HB2.out _ _⟩
      · have hiz : decide ((i : Int) < 20) = false := decide_eq_false (by omega)
        have hiy : ¬ (i : Int) < 20 := by omega
        have HW := Lib.hid (wakes_any wr)
        go_wp2_with fail
        refine (HW.out).mono ?_
        rintro e w1 ⟨rfl, hb1⟩
        have HZ : Hid (Below w.heap.size w w1) := HB.out.trans (hb1.mono HB.out.size)
        clear hb1 HW
        go_wp2
        go_ret
        exact ⟨rfl, HZ.out⟩
    · have hinz : decide ((i : Int) < (n : Int)) = false := decide_eq_false (by omega)
      have hiny : ¬ (i : Int) < (n : Int) := by omega
      have HW := Lib.hid (wakes_any wr)
      go_wp2_with fail
      refine (HW.out).mono ?_
      rintro e w1 ⟨rfl, hb1⟩
      have HZ : Hid (Below w.heap.size w w1) := HB.out.trans (hb1.mono HB.out.size)
      clear hb1 HW
      go_wp2
      go_ret
      exact ⟨rfl, HZ.out⟩

end Go.Proofs.Ytgbhpjhofdhmeaa
