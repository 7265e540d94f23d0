/- The walk of KeyLies. -/
import Derived.Test.YtobnecjkanaofaaK4
namespace Go.Proofs.Ytobnecjkanaofaa
open Go.RowKit Go.Lib
set_option linter.unusedVariables false

theorem betE_yes {a b : ByteArray} (h : betE a b = 0) : mayB (strN a) (strN b) = true ∧ (mid (strN a) (strN b)).length ≤ 64 := by
  unfold betE at h
  split at h
  · rename_i h1
    split at h
    · rename_i h2; exact ⟨h1, h2⟩
    · simp at h
  · simp at h
theorem strN_betS {a b : ByteArray} (h : betE a b = 0) : strN (betS a b) = mid (strN a) (strN b) := by
  obtain ⟨h1, h2⟩ := betE_yes h
  rw [betS, if_pos ⟨h1, h2⟩]
  exact strN_of (mid_may (strN_isB a) (strN_isB b) h1 h2).2.1
/-- what is told of a key between two -/
structure Lies (a b s : ByteArray) : Prop where
  key : keyB (strN s) = true
  low : ltB (strN a) (strN s) = true
  high : strN b = [] ∨ ltB (strN s) (strN b) = true
theorem lies_of {a b : ByteArray} (h : betE a b = 0) : Lies a b (betS a b) := by
  obtain ⟨h1, h2⟩ := betE_yes h
  obtain ⟨k1, k2, k3, k4⟩ := mid_may (strN_isB a) (strN_isB b) h1 h2
  have e := strN_betS h
  exact ⟨by rw [e]; exact k1, by rw [e]; exact k3, by rw [e]; exact k4⟩
theorem Lies.err {a b s : ByteArray} (h : Lies a b s) : errK s = 0 := by simp [errK, h.key]
theorem less_no {s a : ByteArray} (h : ltB (strN a) (strN s) = true) : Op.bytesLess s.toList a.toList = false ∧ (s.toList == a.toList) = false ∧ ¬ s.toList = a.toList := by
  have h1 : (s.toList == a.toList) = false := by rw [same_strN]; exact decide_eq_false (ltB_ne h)
  refine ⟨by rw [less_strN]; exact ltB_asymm _ _ h, h1, ?_⟩
  intro e; rw [e] at h1; simp at h1

set_option maxHeartbeats 4000000 in
set_option maxRecDepth 100000 in
theorem keyLies_walk (a : Option Addr) (n cap : Nat) (w : World) (h : AsksIs w a n) :
    Calls Try.prog 4 #[.slice a n cap] w (BoolPost w true) := by
  have mixed : Try.prog.follows .mixedOrders = true := by kernel_rfl
  have HA := Lib.hid h
  clear h
  have HN0 := Lib.hid (fun W => num_any 0 W)
  go_enter Try.func4, Try.ntmps4
  go_wp2
  go_loopg [3] 25 (fun g1 v wr => ∃ i : Nat, v = .int .i64 i ∧ i ≤ 25 ∧ 25 - i ≤ g1 ∧ Hid (Below w.heap.size w wr))
  case atStart => exact ⟨0, rfl, by omega, by omega, Below.refl _ _⟩
  case round =>
    obtain ⟨i, rfl, hi25, hg1, HB⟩ := hrel
    by_cases hin : i < n
    · have hinz : decide ((i : Int) < (n : Int)) = true := decide_eq_true (by omega)
      have hiny : (i : Int) < (n : Int) := by omega
      by_cases hi : i < 25
      · have hiz : decide ((i : Int) < 25) = true := decide_eq_true (by omega)
        have hiy : (i : Int) < 25 := by omega
        obtain ⟨b, off, s, t, rfl, hask⟩ := HA.out i hin
        have hlt := hask.lt
        have HK := Lib.hid hask
        obtain ⟨q0, q1⟩ := hask.below HB.out hask.lt
        have HV := Lib.hid (heavy_any s t wr)
        clear hask
        go_wp2_with fail
        refine (HV.out).mono ?_
        rintro e w1 ⟨hv, rfl, hb1⟩
        have HB1 : Hid (Below w.heap.size w w1) := HB.out.trans (hb1.mono HB.out.size)
        clear hb1 HV HB q0 q1
        cases hv with
        | true =>
          go_wp2
          go_ret
          exact ⟨rfl, HB1.out⟩
        | false =>
          obtain ⟨q0, q1⟩ := HK.out.below HB1.out hlt
          go_wp2_with fail
          go_quiet (fail)
          have HB2 : Hid (Below w.heap.size w (w1.drewN nq)) := below_drewN HB1.out nq
          generalize w1.drewN nq = w2 at *
          clear q0 q1 HB1 HK
          cases h1 : Op.bytesLess s.toList t.toList with
          | true =>
            go_wp2_with fail
            clear h1
            have C := Lib.hid (between_any s t w2)
            unfold BetPost at C
            obtain ⟨r, hr⟩ : ∃ r, r = betE s t := ⟨_, rfl⟩
            rw [← hr] at C
            by_cases hr0 : r = 0
            · subst hr0
              have HL := Lib.hid (lies_of hr.symm)
              clear hr
              generalize betS s t = k at *
              have CK := Lib.hid (fun W => check_any k W)
              rw [HL.out.err] at CK
              obtain ⟨l1, l2, l3⟩ := less_no HL.out.low
              refine (C.out).mono ?_
              rintro e w3 ⟨rfl, hb3⟩
              have HB3 : Hid (Below w.heap.size w w3) := HB2.out.trans (hb3.mono HB2.out.size)
              clear hb3 HB2 C
              go_wp2_with fail
              refine (HN0.out _).mono ?_
              rintro e w' ⟨rfl, rfl⟩
              go_wp2_with fail
              refine (CK.out _).mono ?_
              rintro e w' ⟨rfl, rfl⟩
              go_wp2_with fail
              refine (HN0.out _).mono ?_
              rintro e w' ⟨rfl, rfl⟩
              by_cases he : strN t = []
              · obtain ⟨m1, m2⟩ := emp_yes he
                clear he
                go_wp2
                go_roundg (25 - (i + 1))
                case measure => omega
                case rel => exact ⟨i + 1, by go_num, by omega, by omega, HB3.out⟩
              · have l4 : Op.bytesLess k.toList t.toList = true := by rw [less_strN]; exact HL.out.high.resolve_left he
                obtain ⟨m1, m2⟩ := emp_no he
                clear he
                go_wp2
                go_roundg (25 - (i + 1))
                case measure => omega
                case rel => exact ⟨i + 1, by go_num, by omega, by omega, HB3.out⟩
            · clear hr
              generalize betS s t = k at *
              have hrn : (r != 0) = true := by simpa using hr0
              have HNr := Lib.hid (fun W => num_any r W)
              refine (C.out).mono ?_
              rintro e w3 ⟨rfl, hb3⟩
              have HB3 : Hid (Below w.heap.size w w3) := HB2.out.trans (hb3.mono HB2.out.size)
              clear hb3 HB2 C
              go_wp2_with fail
              refine (HNr.out _).mono ?_
              rintro e w' ⟨rfl, rfl⟩
              go_wp2
              go_roundg (25 - (i + 1))
              case measure => omega
              case rel => exact ⟨i + 1, by go_num, by omega, by omega, HB3.out⟩
          | false =>
            cases h2 : (s.toList == t.toList) with
            | true =>
              have h2' : s.toList = t.toList := by simpa using h2
              go_wp2_with fail
              clear h1 h2 h2'
              have C := Lib.hid (between_any s t w2)
              unfold BetPost at C
              obtain ⟨r, hr⟩ : ∃ r, r = betE s t := ⟨_, rfl⟩
              rw [← hr] at C
              by_cases hr0 : r = 0
              · subst hr0
                have HL := Lib.hid (lies_of hr.symm)
                clear hr
                generalize betS s t = k at *
                have CK := Lib.hid (fun W => check_any k W)
                rw [HL.out.err] at CK
                obtain ⟨l1, l2, l3⟩ := less_no HL.out.low
                refine (C.out).mono ?_
                rintro e w3 ⟨rfl, hb3⟩
                have HB3 : Hid (Below w.heap.size w w3) := HB2.out.trans (hb3.mono HB2.out.size)
                clear hb3 HB2 C
                go_wp2_with fail
                refine (HN0.out _).mono ?_
                rintro e w' ⟨rfl, rfl⟩
                go_wp2_with fail
                refine (CK.out _).mono ?_
                rintro e w' ⟨rfl, rfl⟩
                go_wp2_with fail
                refine (HN0.out _).mono ?_
                rintro e w' ⟨rfl, rfl⟩
                by_cases he : strN t = []
                · obtain ⟨m1, m2⟩ := emp_yes he
                  clear he
                  go_wp2
                  go_roundg (25 - (i + 1))
                  case measure => omega
                  case rel => exact ⟨i + 1, by go_num, by omega, by omega, HB3.out⟩
                · have l4 : Op.bytesLess k.toList t.toList = true := by rw [less_strN]; exact HL.out.high.resolve_left he
                  obtain ⟨m1, m2⟩ := emp_no he
                  clear he
                  go_wp2
                  go_roundg (25 - (i + 1))
                  case measure => omega
                  case rel => exact ⟨i + 1, by go_num, by omega, by omega, HB3.out⟩
              · clear hr
                generalize betS s t = k at *
                have hrn : (r != 0) = true := by simpa using hr0
                have HNr := Lib.hid (fun W => num_any r W)
                refine (C.out).mono ?_
                rintro e w3 ⟨rfl, hb3⟩
                have HB3 : Hid (Below w.heap.size w w3) := HB2.out.trans (hb3.mono HB2.out.size)
                clear hb3 HB2 C
                go_wp2_with fail
                refine (HNr.out _).mono ?_
                rintro e w' ⟨rfl, rfl⟩
                go_wp2
                go_roundg (25 - (i + 1))
                case measure => omega
                case rel => exact ⟨i + 1, by go_num, by omega, by omega, HB3.out⟩
            | false =>
              have h2' : ¬ s.toList = t.toList := by intro e; rw [e] at h2; simp at h2
              go_wp2_with fail
              clear h1 h2 h2'
              have C := Lib.hid (between_any t s w2)
              unfold BetPost at C
              obtain ⟨r, hr⟩ : ∃ r, r = betE t s := ⟨_, rfl⟩
              rw [← hr] at C
              by_cases hr0 : r = 0
              · subst hr0
                have HL := Lib.hid (lies_of hr.symm)
                clear hr
                generalize betS t s = k at *
                have CK := Lib.hid (fun W => check_any k W)
                rw [HL.out.err] at CK
                obtain ⟨l1, l2, l3⟩ := less_no HL.out.low
                refine (C.out).mono ?_
                rintro e w3 ⟨rfl, hb3⟩
                have HB3 : Hid (Below w.heap.size w w3) := HB2.out.trans (hb3.mono HB2.out.size)
                clear hb3 HB2 C
                go_wp2_with fail
                refine (HN0.out _).mono ?_
                rintro e w' ⟨rfl, rfl⟩
                go_wp2_with fail
                refine (CK.out _).mono ?_
                rintro e w' ⟨rfl, rfl⟩
                go_wp2_with fail
                refine (HN0.out _).mono ?_
                rintro e w' ⟨rfl, rfl⟩
                by_cases he : strN s = []
                · obtain ⟨m1, m2⟩ := emp_yes he
                  clear he
                  go_wp2
                  go_roundg (25 - (i + 1))
                  case measure => omega
                  case rel => exact ⟨i + 1, by go_num, by omega, by omega, HB3.out⟩
                · have l4 : Op.bytesLess k.toList s.toList = true := by rw [less_strN]; exact HL.out.high.resolve_left he
                  obtain ⟨m1, m2⟩ := emp_no he
                  clear he
                  go_wp2
                  go_roundg (25 - (i + 1))
                  case measure => omega
                  case rel => exact ⟨i + 1, by go_num, by omega, by omega, HB3.out⟩
              · clear hr
                generalize betS t s = k at *
                have hrn : (r != 0) = true := by simpa using hr0
                have HNr := Lib.hid (fun W => num_any r W)
                refine (C.out).mono ?_
                rintro e w3 ⟨rfl, hb3⟩
                have HB3 : Hid (Below w.heap.size w w3) := HB2.out.trans (hb3.mono HB2.out.size)
                clear hb3 HB2 C
                go_wp2_with fail
                refine (HNr.out _).mono ?_
                rintro e w' ⟨rfl, rfl⟩
                go_wp2
                go_roundg (25 - (i + 1))
                case measure => omega
                case rel => exact ⟨i + 1, by go_num, by omega, by omega, HB3.out⟩
      · have hiz : decide ((i : Int) < 25) = false := decide_eq_false (by omega)
        have hiy : ¬ (i : Int) < 25 := by omega
        have HW := Lib.hid (wakes_any wr)
        go_wp2_with fail
        refine (HW.out).mono ?_
        rintro e w1 ⟨rfl, hb1⟩
        have HZ : Hid (Below w.heap.size w w1) := HB.out.trans (hb1.mono HB.out.size)
        clear hb1 HW
        go_wp2
        go_ret
        exact ⟨rfl, HZ.out⟩
    · have hinz : decide ((i : Int) < (n : Int)) = false := decide_eq_false (by omega)
      have hiny : ¬ (i : Int) < (n : Int) := by omega
      have HW := Lib.hid (wakes_any wr)
      go_wp2_with fail
      refine (HW.out).mono ?_
      rintro e w1 ⟨rfl, hb1⟩
      have HZ : Hid (Below w.heap.size w w1) := HB.out.trans (hb1.mono HB.out.size)
      clear hb1 HW
      go_wp2
      go_ret
      exact ⟨rfl, HZ.out⟩
end Go.Proofs.Ytobnecjkanaofaa

