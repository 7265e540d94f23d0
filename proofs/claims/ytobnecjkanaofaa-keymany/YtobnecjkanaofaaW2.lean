/- A list of numbers opened; the walk of KeyHalves. -/
import Derived.Test.YtobnecjkanaofaaW1
namespace Go.Proofs.Ytobnecjkanaofaa
open Go.ChangeShapes Go.WideShapes Go.ChangeAt Go.RowKit Go.Deep Go.Lib
set_option linter.unusedVariables false

def IntsIs (w : World) (a : Option Addr) (len : Nat) : Prop := ∀ i, i < len → ∃ b off z, a = some ⟨b, off, none⟩ ∧ w.cell? ⟨b, off + i, none⟩ = some (.int .i64 z)
theorem ints_open {H : Type} {enc : TypeId × Value → H} {w : World} {a : Option Addr} {len cap : Nat} {d : DataW H} {p : List MemPlace} (h : DataW.Trod enc Try.prog w 0 (fun _ => true) true 37 (.slice a len cap) d p) : IntsIs w a len := by
  obtain ⟨fuel, hf⟩ := h
  rcases open_ints Try.underlying37 Try.underlying3 (by kernel_rfl) hf with ⟨hcs, _⟩ | ⟨x, l, c, zs, hcs, _, hl, hm, hz, _, hcell, hwz⟩
  · simp [Value.cells] at hcs
    obtain ⟨rfl, rfl, rfl⟩ := hcs
    intro i hi; omega
  · simp [Value.cells] at hcs
    obtain ⟨rfl, rfl, rfl⟩ := hcs
    simp only [if_true] at hz
    intro i hi
    obtain ⟨b, off, spot⟩ := x
    have hc0 := hcell 0 (by omega)
    have hspot : spot = none := by simpa [Addr.add] using World.cell?_spot hc0
    subst hspot
    have hc := hcell i (by omega)
    rw [addr_add] at hc
    exact ⟨b, off, _, rfl, hc⟩

theorem betE_of {a b : ByteArray} (hm : mayB (strN a) (strN b) = true) (hl : (mid (strN a) (strN b)).length ≤ 64) : betE a b = 0 := by rw [betE, if_pos hm, if_pos hl]
theorem betE_full {a b : ByteArray} (hm : mayB (strN a) (strN b) = true) (hl : ¬ (mid (strN a) (strN b)).length ≤ 64) : betE a b = 5 := by rw [betE, if_pos hm, if_neg hl]
structure HalfI (w : World) (i : Nat) (a b : ByteArray) (wr : World) : Prop where
  step : stepAt i (strN a) (strN b)
  may : mayB (strN a) (strN b) = true
  bel : Below w.heap.size w wr
theorem half_start (w wr : World) (h : Below w.heap.size w wr) : HalfI w 0 ⟨#[]⟩ ⟨#[]⟩ wr := ⟨step_zero, rfl, h⟩
theorem half_full {w wr : World} {a b : ByteArray} (h : HalfI w 512 a b wr) : betE a b = 5 := betE_full h.may (by rw [step_len h.step]; omega)
theorem half_ok {w wr : World} {a b : ByteArray} {i : Nat} (h : HalfI w i a b wr) (hi : i < 512) : betE a b = 0 := betE_of h.may (by rw [step_len h.step]; omega)
theorem half_low {w wr w' : World} {a b : ByteArray} {i : Nat} (h : HalfI w i a b wr) (hi : i < 512) (hb : Below w.heap.size w w') : HalfI w (i + 1) (betS a b) b w' := by
  have he := half_ok h hi
  refine ⟨?_, mayB_low h.may (lies_of he).key (lies_of he).high, hb⟩
  rw [strN_betS he]; exact (step_next h.step).1
theorem half_high {w wr w' : World} {a b : ByteArray} {i : Nat} (h : HalfI w i a b wr) (hi : i < 512) (hb : Below w.heap.size w w') : HalfI w (i + 1) a (betS a b) w' := by
  have he := half_ok h hi
  refine ⟨?_, mayB_high h.may (lies_of he).key (lies_of he).low, hb⟩
  rw [strN_betS he]; exact (step_next h.step).2

set_option maxHeartbeats 8000000 in
set_option maxRecDepth 100000 in
theorem keyHalves_walk (l : Option Addr) (n cap : Nat) (w : World) (h : IntsIs w l n) :
    Calls Try.prog 6 #[.slice l n cap] w (BoolPost w true) := by
  have mixed : Try.prog.follows .mixedOrders = true := by kernel_rfl
  have HA := Lib.hid h
  clear h
  have HN0 := Lib.hid (fun W => num_any 0 W)
  have HN5 := Lib.hid (fun W => num_any 5 W)
  go_enter Try.func6, Try.ntmps6
  go_wp2
  go_loopg [3] 3 (fun g1 v wr => ∃ (j : Nat) (z : Int), v = .int .i64 z ∧ z = (j : Int) ∧ j ≤ 3 ∧ 3 - j ≤ g1 ∧ Hid (Below w.heap.size w wr))
  case atStart => exact ⟨0, _, rfl, rfl, by omega, by omega, Below.refl _ _⟩
  case round =>
    obtain ⟨j, z, rfl, hz, hj3, hg1, HB⟩ := hrel
    by_cases hj : j < 3
    · rcases (show j = 0 ∨ j = 1 ∨ j = 2 by omega) with rfl | rfl | rfl
      · obtain rfl : z = 0 := by omega
        clear hz hj hj3
        go_wp2
        go_loopg [4, 5, 6, 7] 512 (fun g2 va vb vn vi wr2 => ∃ (i : Nat) (a b : ByteArray) (zn zi : Int), va = .string a ∧ vb = .string b ∧ vn = .int .i64 zn ∧ vi = .int .i64 zi ∧ zn = (i : Int) ∧ zi = (i : Int) ∧ i ≤ 512 ∧ 512 - i ≤ g2 ∧ Hid (HalfI w i a b wr2))
        case atStart => exact ⟨0, _, _, _, _, rfl, rfl, rfl, rfl, rfl, rfl, by omega, by omega, half_start w _ HB.out⟩
        case round =>
          clear HB
          obtain ⟨i, a, b, zn, zi, rfl, rfl, rfl, rfl, rfl, rfl, hi512, hg2, HI⟩ := hrel
          have hi2 : (i : Int) < 2000 := by omega
          have C := Lib.hid (between_any a b wr)
          unfold BetPost at C
          by_cases hi : i < 512
          · have he := half_ok HI.out hi
            rw [he] at C
            have HL := Lib.hid (lies_of he)
            have HL1 := Lib.hid (fun W => half_low (w' := W) HI.out hi)
            have HH1 := Lib.hid (fun W => half_high (w' := W) HI.out hi)
            clear he
            generalize betS a b = k at *
            obtain ⟨l1, l2, l3⟩ := less_no HL.out.low
            go_wp2_with fail
            refine (C.out).mono ?_
            rintro e w3 ⟨rfl, hb3⟩
            have HB3 : Hid (Below w.heap.size w w3) := HI.out.bel.trans (hb3.mono HI.out.bel.size)
            have HL2 : Hid (HalfI w (i + 1) k b w3) := HL1.out w3 HB3.out
            have HH2 : Hid (HalfI w (i + 1) a k w3) := HH1.out w3 HB3.out
            clear hb3 C HL1 HH1 HI
            go_wp2_with fail
            refine (HN0.out _).mono ?_
            rintro e w' ⟨rfl, rfl⟩
            go_wp2_with fail
            refine (HN0.out _).mono ?_
            rintro e w' ⟨rfl, rfl⟩
            by_cases he : strN b = []
            · obtain ⟨m1, m2⟩ := emp_yes he
              clear he
              have HX := Lib.hid (HL2.out)
              go_wp2
              go_roundg (512 - (i + 1))
              case measure => omega
              case rel => exact ⟨i + 1, _, _, _, _, rfl, rfl, rfl, rfl, by go_num, by go_num, by omega, by omega, HX.out⟩
            · have l4 : Op.bytesLess k.toList b.toList = true := by rw [less_strN]; exact HL.out.high.resolve_left he
              obtain ⟨m1, m2⟩ := emp_no he
              clear he
              have HX := Lib.hid (HL2.out)
              go_wp2
              go_roundg (512 - (i + 1))
              case measure => omega
              case rel => exact ⟨i + 1, _, _, _, _, rfl, rfl, rfl, rfl, by go_num, by go_num, by omega, by omega, HX.out⟩
          · obtain rfl : i = 512 := by omega
            rw [half_full HI.out] at C
            generalize betS a b = k at *
            go_wp2_with fail
            refine (C.out).mono ?_
            rintro e w3 ⟨rfl, hb3⟩
            have HB3 : Hid (Below w.heap.size w w3) := HI.out.bel.trans (hb3.mono HI.out.bel.size)
            clear hb3 C HI
            go_wp2_with fail
            refine (HN5.out _).mono ?_
            rintro e w' ⟨rfl, rfl⟩
            go_wp2
            go_roundg (3 - (0 + 1))
            case measure => omega
            case rel => exact ⟨0 + 1, _, rfl, by go_num, by omega, by omega, HB3.out⟩
      · obtain rfl : z = 1 := by omega
        clear hz hj hj3
        go_wp2
        go_loopg [4, 5, 6, 7] 512 (fun g2 va vb vn vi wr2 => ∃ (i : Nat) (a b : ByteArray) (zn zi : Int), va = .string a ∧ vb = .string b ∧ vn = .int .i64 zn ∧ vi = .int .i64 zi ∧ zn = (i : Int) ∧ zi = (i : Int) ∧ i ≤ 512 ∧ 512 - i ≤ g2 ∧ Hid (HalfI w i a b wr2))
        case atStart => exact ⟨0, _, _, _, _, rfl, rfl, rfl, rfl, rfl, rfl, by omega, by omega, half_start w _ HB.out⟩
        case round =>
          clear HB
          obtain ⟨i, a, b, zn, zi, rfl, rfl, rfl, rfl, rfl, rfl, hi512, hg2, HI⟩ := hrel
          have hi2 : (i : Int) < 2000 := by omega
          have C := Lib.hid (between_any a b wr)
          unfold BetPost at C
          by_cases hi : i < 512
          · have he := half_ok HI.out hi
            rw [he] at C
            have HL := Lib.hid (lies_of he)
            have HL1 := Lib.hid (fun W => half_low (w' := W) HI.out hi)
            have HH1 := Lib.hid (fun W => half_high (w' := W) HI.out hi)
            clear he
            generalize betS a b = k at *
            obtain ⟨l1, l2, l3⟩ := less_no HL.out.low
            go_wp2_with fail
            refine (C.out).mono ?_
            rintro e w3 ⟨rfl, hb3⟩
            have HB3 : Hid (Below w.heap.size w w3) := HI.out.bel.trans (hb3.mono HI.out.bel.size)
            have HL2 : Hid (HalfI w (i + 1) k b w3) := HL1.out w3 HB3.out
            have HH2 : Hid (HalfI w (i + 1) a k w3) := HH1.out w3 HB3.out
            clear hb3 C HL1 HH1 HI
            go_wp2_with fail
            refine (HN0.out _).mono ?_
            rintro e w' ⟨rfl, rfl⟩
            go_wp2_with fail
            refine (HN0.out _).mono ?_
            rintro e w' ⟨rfl, rfl⟩
            by_cases he : strN b = []
            · obtain ⟨m1, m2⟩ := emp_yes he
              clear he
              have HX := Lib.hid (HH2.out)
              go_wp2
              go_roundg (512 - (i + 1))
              case measure => omega
              case rel => exact ⟨i + 1, _, _, _, _, rfl, rfl, rfl, rfl, by go_num, by go_num, by omega, by omega, HX.out⟩
            · have l4 : Op.bytesLess k.toList b.toList = true := by rw [less_strN]; exact HL.out.high.resolve_left he
              obtain ⟨m1, m2⟩ := emp_no he
              clear he
              have HX := Lib.hid (HH2.out)
              go_wp2
              go_roundg (512 - (i + 1))
              case measure => omega
              case rel => exact ⟨i + 1, _, _, _, _, rfl, rfl, rfl, rfl, by go_num, by go_num, by omega, by omega, HX.out⟩
          · obtain rfl : i = 512 := by omega
            rw [half_full HI.out] at C
            generalize betS a b = k at *
            go_wp2_with fail
            refine (C.out).mono ?_
            rintro e w3 ⟨rfl, hb3⟩
            have HB3 : Hid (Below w.heap.size w w3) := HI.out.bel.trans (hb3.mono HI.out.bel.size)
            clear hb3 C HI
            go_wp2_with fail
            refine (HN5.out _).mono ?_
            rintro e w' ⟨rfl, rfl⟩
            go_wp2
            go_roundg (3 - (1 + 1))
            case measure => omega
            case rel => exact ⟨1 + 1, _, rfl, by go_num, by omega, by omega, HB3.out⟩
      · obtain rfl : z = 2 := by omega
        clear hz hj hj3
        go_wp2
        go_loopg [4, 5, 6, 7] 512 (fun g2 va vb vn vi wr2 => ∃ (i : Nat) (a b : ByteArray) (zn zi : Int), va = .string a ∧ vb = .string b ∧ vn = .int .i64 zn ∧ vi = .int .i64 zi ∧ zn = (i : Int) ∧ zi = (i : Int) ∧ i ≤ 512 ∧ 512 - i ≤ g2 ∧ Hid (HalfI w i a b wr2))
        case atStart => exact ⟨0, _, _, _, _, rfl, rfl, rfl, rfl, rfl, rfl, by omega, by omega, half_start w _ HB.out⟩
        case round =>
          clear HB
          obtain ⟨i, a, b, zn, zi, rfl, rfl, rfl, rfl, rfl, rfl, hi512, hg2, HI⟩ := hrel
          have hi2 : (i : Int) < 2000 := by omega
          have C := Lib.hid (between_any a b wr)
          unfold BetPost at C
          by_cases hi : i < 512
          · have he := half_ok HI.out hi
            rw [he] at C
            have HL := Lib.hid (lies_of he)
            have HL1 := Lib.hid (fun W => half_low (w' := W) HI.out hi)
            have HH1 := Lib.hid (fun W => half_high (w' := W) HI.out hi)
            clear he
            generalize betS a b = k at *
            obtain ⟨l1, l2, l3⟩ := less_no HL.out.low
            go_wp2_with fail
            refine (C.out).mono ?_
            rintro e w3 ⟨rfl, hb3⟩
            have HB3 : Hid (Below w.heap.size w w3) := HI.out.bel.trans (hb3.mono HI.out.bel.size)
            have HL2 : Hid (HalfI w (i + 1) k b w3) := HL1.out w3 HB3.out
            have HH2 : Hid (HalfI w (i + 1) a k w3) := HH1.out w3 HB3.out
            clear hb3 C HL1 HH1 HI
            go_wp2_with fail
            refine (HN0.out _).mono ?_
            rintro e w' ⟨rfl, rfl⟩
            go_wp2_with fail
            refine (HN0.out _).mono ?_
            rintro e w' ⟨rfl, rfl⟩
            by_cases he : strN b = []
            · obtain ⟨m1, m2⟩ := emp_yes he
              clear he
              by_cases hin : i < n
              · have hinz : decide ((i : Int) < (n : Int)) = true := decide_eq_true (by omega)
                have hiny : (i : Int) < (n : Int) := by omega
                obtain ⟨lb, lo, zv, rfl, hc⟩ := HA.out i hin
                have hc3 : w3.cell? ⟨lb, lo + i, none⟩ = some (.int .i64 zv) := (HB3.out.cell (p := ⟨lb, lo + i, none⟩) (World.block_lt_of_cell? _ _ hc)).trans hc
                clear hc
                have CW : Hid (∀ W, Calls Try.prog 15 #[.int .i64 zv, .int .i64 2] W fun e w' => e = .returned (.int .i64 (modN zv 2 : Nat)) ∧ W = w') := fun W => withinN_any zv 2 W (by omega) (by omega)
                have hmb := modN_lt zv (show 0 < 2 by omega)
                rcases (show modN zv 2 = 0 ∨ modN zv 2 = 1 by omega) with hmz | hmz
                · rw [hmz] at CW
                  clear hmb hmz
                  have HX := Lib.hid (HL2.out)
                  go_wp2_with fail
                  refine (CW.out _).mono ?_
                  rintro e w' ⟨rfl, rfl⟩
                  go_wp2
                  go_roundg (512 - (i + 1))
                  case measure => omega
                  case rel => exact ⟨i + 1, _, _, _, _, rfl, rfl, rfl, rfl, by go_num, by go_num, by omega, by omega, HX.out⟩
                · rw [hmz] at CW
                  clear hmb hmz
                  have HX := Lib.hid (HH2.out)
                  go_wp2_with fail
                  refine (CW.out _).mono ?_
                  rintro e w' ⟨rfl, rfl⟩
                  go_wp2
                  go_roundg (512 - (i + 1))
                  case measure => omega
                  case rel => exact ⟨i + 1, _, _, _, _, rfl, rfl, rfl, rfl, by go_num, by go_num, by omega, by omega, HX.out⟩
              · have hinz : decide ((i : Int) < (n : Int)) = false := decide_eq_false (by omega)
                have hiny : ¬ (i : Int) < (n : Int) := by omega
                have HX := Lib.hid (HH2.out)
                go_wp2
                go_roundg (512 - (i + 1))
                case measure => omega
                case rel => exact ⟨i + 1, _, _, _, _, rfl, rfl, rfl, rfl, by go_num, by go_num, by omega, by omega, HX.out⟩
            · have l4 : Op.bytesLess k.toList b.toList = true := by rw [less_strN]; exact HL.out.high.resolve_left he
              obtain ⟨m1, m2⟩ := emp_no he
              clear he
              by_cases hin : i < n
              · have hinz : decide ((i : Int) < (n : Int)) = true := decide_eq_true (by omega)
                have hiny : (i : Int) < (n : Int) := by omega
                obtain ⟨lb, lo, zv, rfl, hc⟩ := HA.out i hin
                have hc3 : w3.cell? ⟨lb, lo + i, none⟩ = some (.int .i64 zv) := (HB3.out.cell (p := ⟨lb, lo + i, none⟩) (World.block_lt_of_cell? _ _ hc)).trans hc
                clear hc
                have CW : Hid (∀ W, Calls Try.prog 15 #[.int .i64 zv, .int .i64 2] W fun e w' => e = .returned (.int .i64 (modN zv 2 : Nat)) ∧ W = w') := fun W => withinN_any zv 2 W (by omega) (by omega)
                have hmb := modN_lt zv (show 0 < 2 by omega)
                rcases (show modN zv 2 = 0 ∨ modN zv 2 = 1 by omega) with hmz | hmz
                · rw [hmz] at CW
                  clear hmb hmz
                  have HX := Lib.hid (HL2.out)
                  go_wp2_with fail
                  refine (CW.out _).mono ?_
                  rintro e w' ⟨rfl, rfl⟩
                  go_wp2
                  go_roundg (512 - (i + 1))
                  case measure => omega
                  case rel => exact ⟨i + 1, _, _, _, _, rfl, rfl, rfl, rfl, by go_num, by go_num, by omega, by omega, HX.out⟩
                · rw [hmz] at CW
                  clear hmb hmz
                  have HX := Lib.hid (HH2.out)
                  go_wp2_with fail
                  refine (CW.out _).mono ?_
                  rintro e w' ⟨rfl, rfl⟩
                  go_wp2
                  go_roundg (512 - (i + 1))
                  case measure => omega
                  case rel => exact ⟨i + 1, _, _, _, _, rfl, rfl, rfl, rfl, by go_num, by go_num, by omega, by omega, HX.out⟩
              · have hinz : decide ((i : Int) < (n : Int)) = false := decide_eq_false (by omega)
                have hiny : ¬ (i : Int) < (n : Int) := by omega
                have HX := Lib.hid (HH2.out)
                go_wp2
                go_roundg (512 - (i + 1))
                case measure => omega
                case rel => exact ⟨i + 1, _, _, _, _, rfl, rfl, rfl, rfl, by go_num, by go_num, by omega, by omega, HX.out⟩
          · obtain rfl : i = 512 := by omega
            rw [half_full HI.out] at C
            generalize betS a b = k at *
            go_wp2_with fail
            refine (C.out).mono ?_
            rintro e w3 ⟨rfl, hb3⟩
            have HB3 : Hid (Below w.heap.size w w3) := HI.out.bel.trans (hb3.mono HI.out.bel.size)
            clear hb3 C HI
            go_wp2_with fail
            refine (HN5.out _).mono ?_
            rintro e w' ⟨rfl, rfl⟩
            go_wp2
            go_roundg (3 - (2 + 1))
            case measure => omega
            case rel => exact ⟨2 + 1, _, rfl, by go_num, by omega, by omega, HB3.out⟩
    · have hjz : ¬ z < 3 := by omega
      have HW := Lib.hid (wakes_any wr)
      go_wp2_with fail
      refine (HW.out).mono ?_
      rintro e w1 ⟨rfl, hb1⟩
      have HZ : Hid (Below w.heap.size w w1) := HB.out.trans (hb1.mono HB.out.size)
      clear hb1 HW
      go_wp2
      go_ret
      exact ⟨rfl, HZ.out⟩
end Go.Proofs.Ytobnecjkanaofaa
