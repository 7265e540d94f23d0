/- The walk of KeyBetweens. -/
import Derived.Test.YtobnecjkanaofaaW1
namespace Go.Proofs.Ytobnecjkanaofaa
open Go.RowKit Go.Lib
set_option linter.unusedVariables false

def PairsAt (w : World) (g : Nat) : Prop := ∀ j, j < 4 → ∃ x y, AskAt w g (j * 2) x y
theorem PairsAt.below {w w' : World} {g B : Nat} (h : PairsAt w g) (hb : Below B w w') (hB : g < B) : PairsAt w' g := fun j hj => by
  obtain ⟨x, y, hk⟩ := h j hj
  exact ⟨x, y, hk.below hb hB⟩
theorem PairsAt.lt {w : World} {g : Nat} (h : PairsAt w g) : g < w.heap.size := by
  obtain ⟨x, y, hk⟩ := h 0 (by omega)
  exact hk.lt
theorem pairs_new (W : World) (s t : ByteArray) : PairsAt (W.alloc (.cells #[.string s, .string t, .string t, .string s, .string s, .string ⟨#[]⟩, .string ⟨#[]⟩, .string s] 25)) W.heap.size := by
  intro j hj
  rcases (show j = 0 ∨ j = 1 ∨ j = 2 ∨ j = 3 by omega) with rfl | rfl | rfl | rfl
  · exact ⟨s, t, by simp, by simp⟩
  · exact ⟨t, s, by simp, by simp⟩
  · exact ⟨s, ⟨#[]⟩, by simp, by simp⟩
  · exact ⟨⟨#[]⟩, s, by simp, by simp⟩
theorem PairsAt.drew {w : World} {g : Nat} (h : PairsAt w g) : PairsAt w.drew g := fun j hj => by
  obtain ⟨x, y, hk⟩ := h j hj
  exact ⟨x, y, hk.c0, hk.c1⟩
theorem PairsAt.drewN {w : World} {g : Nat} (h : PairsAt w g) (k : Nat) : PairsAt (w.drewN k) g := fun j hj => by
  obtain ⟨x, y, hk⟩ := h j hj
  exact ⟨x, y, hk.c0, hk.c1⟩
theorem AskAt.drewN {w : World} {b o : Nat} {s t : ByteArray} (h : AskAt w b o s t) (k : Nat) : AskAt (w.drewN k) b o s t := ⟨h.c0, h.c1⟩
theorem ask_new (W : World) (x y : ByteArray) : AskAt (W.alloc (.cells #[.string x, .string y] 25)) W.heap.size 0 x y := ⟨by simp, by simp⟩
theorem betE_of1 {a b : ByteArray} (hm : mayB (strN a) (strN b) = true) (hl : (mid (strN a) (strN b)).length ≤ 64) : betE a b = 0 := by rw [betE, if_pos hm, if_pos hl]
theorem betE_full1 {a b : ByteArray} (hm : mayB (strN a) (strN b) = true) (hl : ¬ (mid (strN a) (strN b)).length ≤ 64) : betE a b = 5 := by rw [betE, if_pos hm, if_neg hl]
theorem quiet_left1 {P : Program} {f : FuncId} {args : Array Value} {w : World} {n : Nat} {v : Value}
    (h : Calls P f args (w.drewN n) fun e w' => e = .returned v ∧ w.drewN n = w') : Calls P f args (w.drewN n) fun e w'' => e = .returned v ∧ ∃ m, w'' = w.drewN m :=
  h.mono fun _ _ ⟨he, hm⟩ => ⟨he, n, hm.symm⟩

set_option maxHeartbeats 8000000 in
set_option maxRecDepth 100000 in
theorem keyBetweens_walk (a : Option Addr) (n cap : Nat) (w : World) (h : AsksIs w a n) :
    Calls Try.prog 3 #[.slice a n cap] w (BoolPost w true) := by
  have mixed : Try.prog.follows .mixedOrders = true := by kernel_rfl
  have HA := Lib.hid h
  clear h
  have HN0 := Lib.hid (fun W => num_any 0 W)
  have HN1 := Lib.hid (fun W => num_any 1 W)
  have HN5 := Lib.hid (fun W => num_any 5 W)
  go_enter Try.func3, Try.ntmps3
  go_wp2
  go_loopg [3] 25 (fun g1 v wr => ∃ i : Nat, v = .int .i64 i ∧ i ≤ 25 ∧ 25 - i ≤ g1 ∧ Hid (Below w.heap.size w wr))
  case atStart => exact ⟨0, rfl, by omega, by omega, Below.refl _ _⟩
  case round =>
    obtain ⟨i, rfl, hi25, hg1, HB⟩ := hrel
    by_cases hin : i < n
    · have hinz : decide ((i : Int) < (n : Int)) = true := decide_eq_true (by omega)
      have hiny : (i : Int) < (n : Int) := by omega
      by_cases hi : i < 25
      · have hiz : decide ((i : Int) < 25) = true := decide_eq_true (by omega)
        have hiy : (i : Int) < 25 := by omega
        obtain ⟨b, off, s, t, rfl, hask⟩ := HA.out i hin
        have hlt := hask.lt
        have HK := Lib.hid hask
        obtain ⟨q0, q1⟩ := hask.below HB.out hask.lt
        have HV := Lib.hid (heavy_any s t wr)
        clear hask
        go_wp2_with fail
        refine (HV.out).mono ?_
        rintro e w1 ⟨hv, rfl, hb1⟩
        have HB1 : Hid (Below w.heap.size w w1) := HB.out.trans (hb1.mono HB.out.size)
        clear hb1 HV HB q0 q1
        cases hv with
        | true =>
          go_wp2
          go_ret
          exact ⟨rfl, HB1.out⟩
        | false =>
          obtain ⟨q0, q1⟩ := HK.out.below HB1.out hlt
          go_wp2_with fail
          go_still_tail 27, (by kernel_rfl)
          change wpList _ _ _ _ _ w1.drew
          have HB2 : Hid (Below w.heap.size w w1.drew) := HB1.out.drew
          clear q0 q1 HB1 HK hlt
          generalize w1.drew = w2 at *
          have HP2 : Hid (PairsAt (w2.alloc (.cells #[.string s, .string t, .string t, .string s, .string s, .string ⟨#[]⟩, .string ⟨#[]⟩, .string s] 25)) w2.heap.size ∧ Below w.heap.size w (w2.alloc (.cells #[.string s, .string t, .string t, .string s, .string s, .string ⟨#[]⟩, .string ⟨#[]⟩, .string s] 25))) := ⟨pairs_new w2 s t, HB2.out.alloc HB2.out.size _⟩
          clear HB2
          go_wp2
          generalize (w2.alloc (.cells #[.string s, .string t, .string t, .string s, .string s, .string ⟨#[]⟩, .string ⟨#[]⟩, .string s] 25)) = W2 at *
          generalize w2.heap.size = g at *
          go_loopg [5] 4 (fun g2 v wr2 => ∃ j : Nat, v = .int .i64 j ∧ j ≤ 4 ∧ 4 - j ≤ g2 ∧ Hid (PairsAt wr2 g ∧ Below w.heap.size w wr2))
          case atStart => exact ⟨0, rfl, by omega, by omega, HP2.out⟩
          case round =>
            clear HP2
            obtain ⟨j, rfl, hj4, hg2, HP⟩ := hrel
            by_cases hj : j < 4
            · have hjz : (j : Int) < 4 := by omega
              have hjd : decide ((j : Int) < 4) = true := decide_eq_true hjz
              obtain ⟨x, y, hk⟩ := HP.out.1 j hj
              obtain ⟨q0, q1⟩ := hk
              go_wp2_with fail
              have HQ : Hid (AskAt (wr.alloc (.cells #[.string x, .string y] 25)) wr.heap.size 0 x y ∧ PairsAt (wr.alloc (.cells #[.string x, .string y] 25)) g ∧ Below w.heap.size w (wr.alloc (.cells #[.string x, .string y] 25))) :=
                ⟨ask_new wr x y, HP.out.1.below ((Below.refl wr.heap.size wr).alloc (Nat.le_refl _) _) HP.out.1.lt, HP.out.2.alloc HP.out.2.size _⟩
              clear q0 q1 HP
              generalize (wr.alloc (.cells #[.string x, .string y] 25)) = w3 at *
              generalize wr.heap.size = gp at *
              obtain ⟨q0, q1⟩ := HQ.out.1
              have CM := Lib.hid (fun W => refMay_any x y W)
              have CK := Lib.hid (fun W => check_any x W)
              have CR := Lib.hid (fun W => refKey_any x W)
              unfold errK at CK
              cases hkb : keyB (strN x) with
              | true =>
                rw [hkb] at CR CK
                rw [if_pos rfl] at CK
                clear hkb
                go_quiet (first | (go_at_call 9; exact quiet_left1 (CK.out _)) | (go_at_call 8; exact quiet_left1 (HN0.out _)) | (go_at_call 10; exact quiet_left1 (CR.out _)))
                replace HQ : Hid (AskAt (w3.drewN nq) gp 0 x y ∧ PairsAt (w3.drewN nq) g ∧ Below w.heap.size w (w3.drewN nq)) := ⟨HQ.out.1.drewN nq, HQ.out.2.1.drewN nq, below_drewN HQ.out.2.2 _⟩
                clear q0 q1
                generalize w3.drewN nq = w4 at *
                obtain ⟨q0, q1⟩ := HQ.out.1
                have C := Lib.hid (fun W => between_any x y W)
                unfold BetPost at C
                cases hm : mayB (strN x) (strN y) with
                | false =>
                  rw [hm] at CM
                  have e1 : betE x y = 1 := by simp [betE, hm]
                  have e2 : betS x y = ⟨#[]⟩ := by simp [betS, hm]
                  rw [e1, e2] at C
                  clear hm e1 e2
                  go_wp2_with fail
                  refine (CM.out _).mono ?_
                  rintro e w' ⟨rfl, rfl⟩
                  go_wp2_with fail
                  refine (C.out w4).mono ?_
                  rintro e w5 ⟨rfl, hb⟩
                  replace HQ : Hid (AskAt w5 gp 0 x y ∧ PairsAt w5 g ∧ Below w.heap.size w w5) := ⟨HQ.out.1.below hb HQ.out.1.lt, HQ.out.2.1.below hb HQ.out.2.1.lt, HQ.out.2.2.trans (hb.mono HQ.out.2.2.size)⟩
                  clear hb q0 q1
                  go_wp2_with fail
                  refine (HN1.out _).mono ?_
                  rintro e w' ⟨rfl, rfl⟩
                  go_wp2
                  go_roundg (4 - (j + 1))
                  case measure => omega
                  case rel => exact ⟨j + 1, by go_num, by omega, by omega, ⟨HQ.out.2.1, HQ.out.2.2⟩⟩
                | true =>
                  rw [hm] at CM
                  have RB := Lib.hid (refBetween_any x y w4 hm)
                  unfold RefPost at RB
                  by_cases hl : (mid (strN x) (strN y)).length ≤ 64
                  · rw [betE_of1 hm hl] at C
                    rw [decide_eq_true hl] at RB
                    clear hm hl
                    generalize betS x y = k at *
                    have hkk : (k.toList == k.toList) = true := by simp
                    go_wp2_with fail
                    refine (CM.out _).mono ?_
                    rintro e w' ⟨rfl, rfl⟩
                    go_wp2_with fail
                    refine (RB.out).mono ?_
                    rintro e w5 ⟨rfl, hb⟩
                    replace HQ : Hid (AskAt w5 gp 0 x y ∧ PairsAt w5 g ∧ Below w.heap.size w w5) := ⟨HQ.out.1.below hb HQ.out.1.lt, HQ.out.2.1.below hb HQ.out.2.1.lt, HQ.out.2.2.trans (hb.mono HQ.out.2.2.size)⟩
                    clear hb q0 q1
                    obtain ⟨q0, q1⟩ := HQ.out.1
                    go_wp2_with fail
                    refine (C.out w5).mono ?_
                    rintro e w6 ⟨rfl, hb⟩
                    replace HQ : Hid (AskAt w6 gp 0 x y ∧ PairsAt w6 g ∧ Below w.heap.size w w6) := ⟨HQ.out.1.below hb HQ.out.1.lt, HQ.out.2.1.below hb HQ.out.2.1.lt, HQ.out.2.2.trans (hb.mono HQ.out.2.2.size)⟩
                    clear hb q0 q1
                    go_wp2_with fail
                    refine (HN0.out _).mono ?_
                    rintro e w' ⟨rfl, rfl⟩
                    go_wp2
                    go_roundg (4 - (j + 1))
                    case measure => omega
                    case rel => exact ⟨j + 1, by go_num, by omega, by omega, ⟨HQ.out.2.1, HQ.out.2.2⟩⟩
                  · rw [betE_full1 hm hl] at C
                    rw [decide_eq_false hl] at RB
                    have e2 : betS x y = ⟨#[]⟩ := by simp [betS, hl]
                    rw [e2] at C RB
                    clear hm hl e2
                    go_wp2_with fail
                    refine (CM.out _).mono ?_
                    rintro e w' ⟨rfl, rfl⟩
                    go_wp2_with fail
                    refine (RB.out).mono ?_
                    rintro e w5 ⟨rfl, hb⟩
                    replace HQ : Hid (AskAt w5 gp 0 x y ∧ PairsAt w5 g ∧ Below w.heap.size w w5) := ⟨HQ.out.1.below hb HQ.out.1.lt, HQ.out.2.1.below hb HQ.out.2.1.lt, HQ.out.2.2.trans (hb.mono HQ.out.2.2.size)⟩
                    clear hb q0 q1
                    obtain ⟨q0, q1⟩ := HQ.out.1
                    go_wp2_with fail
                    refine (C.out w5).mono ?_
                    rintro e w6 ⟨rfl, hb⟩
                    replace HQ : Hid (AskAt w6 gp 0 x y ∧ PairsAt w6 g ∧ Below w.heap.size w w6) := ⟨HQ.out.1.below hb HQ.out.1.lt, HQ.out.2.1.below hb HQ.out.2.1.lt, HQ.out.2.2.trans (hb.mono HQ.out.2.2.size)⟩
                    clear hb q0 q1
                    go_wp2_with fail
                    refine (HN5.out _).mono ?_
                    rintro e w' ⟨rfl, rfl⟩
                    go_wp2
                    go_roundg (4 - (j + 1))
                    case measure => omega
                    case rel => exact ⟨j + 1, by go_num, by omega, by omega, ⟨HQ.out.2.1, HQ.out.2.2⟩⟩
              | false =>
                rw [hkb] at CR CK
                rw [if_neg (by simp)] at CK
                clear hkb
                go_quiet (first | (go_at_call 9; exact quiet_left1 (CK.out _)) | (go_at_call 8; exact quiet_left1 (HN1.out _)) | (go_at_call 10; exact quiet_left1 (CR.out _)))
                replace HQ : Hid (AskAt (w3.drewN nq) gp 0 x y ∧ PairsAt (w3.drewN nq) g ∧ Below w.heap.size w (w3.drewN nq)) := ⟨HQ.out.1.drewN nq, HQ.out.2.1.drewN nq, below_drewN HQ.out.2.2 _⟩
                clear q0 q1
                generalize w3.drewN nq = w4 at *
                obtain ⟨q0, q1⟩ := HQ.out.1
                have C := Lib.hid (fun W => between_any x y W)
                unfold BetPost at C
                cases hm : mayB (strN x) (strN y) with
                | false =>
                  rw [hm] at CM
                  have e1 : betE x y = 1 := by simp [betE, hm]
                  have e2 : betS x y = ⟨#[]⟩ := by simp [betS, hm]
                  rw [e1, e2] at C
                  clear hm e1 e2
                  go_wp2_with fail
                  refine (CM.out _).mono ?_
                  rintro e w' ⟨rfl, rfl⟩
                  go_wp2_with fail
                  refine (C.out w4).mono ?_
                  rintro e w5 ⟨rfl, hb⟩
                  replace HQ : Hid (AskAt w5 gp 0 x y ∧ PairsAt w5 g ∧ Below w.heap.size w w5) := ⟨HQ.out.1.below hb HQ.out.1.lt, HQ.out.2.1.below hb HQ.out.2.1.lt, HQ.out.2.2.trans (hb.mono HQ.out.2.2.size)⟩
                  clear hb q0 q1
                  go_wp2_with fail
                  refine (HN1.out _).mono ?_
                  rintro e w' ⟨rfl, rfl⟩
                  go_wp2
                  go_roundg (4 - (j + 1))
                  case measure => omega
                  case rel => exact ⟨j + 1, by go_num, by omega, by omega, ⟨HQ.out.2.1, HQ.out.2.2⟩⟩
                | true =>
                  rw [hm] at CM
                  have RB := Lib.hid (refBetween_any x y w4 hm)
                  unfold RefPost at RB
                  by_cases hl : (mid (strN x) (strN y)).length ≤ 64
                  · rw [betE_of1 hm hl] at C
                    rw [decide_eq_true hl] at RB
                    clear hm hl
                    generalize betS x y = k at *
                    have hkk : (k.toList == k.toList) = true := by simp
                    go_wp2_with fail
                    refine (CM.out _).mono ?_
                    rintro e w' ⟨rfl, rfl⟩
                    go_wp2_with fail
                    refine (RB.out).mono ?_
                    rintro e w5 ⟨rfl, hb⟩
                    replace HQ : Hid (AskAt w5 gp 0 x y ∧ PairsAt w5 g ∧ Below w.heap.size w w5) := ⟨HQ.out.1.below hb HQ.out.1.lt, HQ.out.2.1.below hb HQ.out.2.1.lt, HQ.out.2.2.trans (hb.mono HQ.out.2.2.size)⟩
                    clear hb q0 q1
                    obtain ⟨q0, q1⟩ := HQ.out.1
                    go_wp2_with fail
                    refine (C.out w5).mono ?_
                    rintro e w6 ⟨rfl, hb⟩
                    replace HQ : Hid (AskAt w6 gp 0 x y ∧ PairsAt w6 g ∧ Below w.heap.size w w6) := ⟨HQ.out.1.below hb HQ.out.1.lt, HQ.out.2.1.below hb HQ.out.2.1.lt, HQ.out.2.2.trans (hb.mono HQ.out.2.2.size)⟩
                    clear hb q0 q1
                    go_wp2_with fail
                    refine (HN0.out _).mono ?_
                    rintro e w' ⟨rfl, rfl⟩
                    go_wp2
                    go_roundg (4 - (j + 1))
                    case measure => omega
                    case rel => exact ⟨j + 1, by go_num, by omega, by omega, ⟨HQ.out.2.1, HQ.out.2.2⟩⟩
                  · rw [betE_full1 hm hl] at C
                    rw [decide_eq_false hl] at RB
                    have e2 : betS x y = ⟨#[]⟩ := by simp [betS, hl]
                    rw [e2] at C RB
                    clear hm hl e2
                    go_wp2_with fail
                    refine (CM.out _).mono ?_
                    rintro e w' ⟨rfl, rfl⟩
                    go_wp2_with fail
                    refine (RB.out).mono ?_
                    rintro e w5 ⟨rfl, hb⟩
                    replace HQ : Hid (AskAt w5 gp 0 x y ∧ PairsAt w5 g ∧ Below w.heap.size w w5) := ⟨HQ.out.1.below hb HQ.out.1.lt, HQ.out.2.1.below hb HQ.out.2.1.lt, HQ.out.2.2.trans (hb.mono HQ.out.2.2.size)⟩
                    clear hb q0 q1
                    obtain ⟨q0, q1⟩ := HQ.out.1
                    go_wp2_with fail
                    refine (C.out w5).mono ?_
                    rintro e w6 ⟨rfl, hb⟩
                    replace HQ : Hid (AskAt w6 gp 0 x y ∧ PairsAt w6 g ∧ Below w.heap.size w w6) := ⟨HQ.out.1.below hb HQ.out.1.lt, HQ.out.2.1.below hb HQ.out.2.1.lt, HQ.out.2.2.trans (hb.mono HQ.out.2.2.size)⟩
                    clear hb q0 q1
                    go_wp2_with fail
                    refine (HN5.out _).mono ?_
                    rintro e w' ⟨rfl, rfl⟩
                    go_wp2
                    go_roundg (4 - (j + 1))
                    case measure => omega
                    case rel => exact ⟨j + 1, by go_num, by omega, by omega, ⟨HQ.out.2.1, HQ.out.2.2⟩⟩
            · have hjz : ¬ (j : Int) < 4 := by omega
              have hjd : decide ((j : Int) < 4) = false := decide_eq_false hjz
              have HB2 := Lib.hid HP.out.2
              clear HP
              go_wp2
              go_roundg (25 - (i + 1))
              case measure => omega
              case rel => exact ⟨i + 1, by go_num, by omega, by omega, HB2.out⟩
      · have hiz : decide ((i : Int) < 25) = false := decide_eq_false (by omega)
        have hiy : ¬ (i : Int) < 25 := by omega
        have HW := Lib.hid (wakes_any wr)
        go_wp2_with fail
        refine (HW.out).mono ?_
        rintro e w1 ⟨rfl, hb1⟩
        have HZ : Hid (Below w.heap.size w w1) := HB.out.trans (hb1.mono HB.out.size)
        clear hb1 HW
        go_wp2
        go_ret
        exact ⟨rfl, HZ.out⟩
    · have hinz : decide ((i : Int) < (n : Int)) = false := decide_eq_false (by omega)
      have hiny : ¬ (i : Int) < (n : Int) := by omega
      have HW := Lib.hid (wakes_any wr)
      go_wp2_with fail
      refine (HW.out).mono ?_
      rintro e w1 ⟨rfl, hb1⟩
      have HZ : Hid (Below w.heap.size w w1) := HB.out.trans (hb1.mono HB.out.size)
      clear hb1 HW
      go_wp2
      go_ret
      exact ⟨rfl, HZ.out⟩
end Go.Proofs.Ytobnecjkanaofaa

