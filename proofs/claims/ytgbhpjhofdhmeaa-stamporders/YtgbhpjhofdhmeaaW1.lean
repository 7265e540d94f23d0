/- The walk of StampOrders. -/
import Derived.Test.YtgbhpjhofdhmeaaS4
import Derived.Deep.CutRange
import Derived.Deep.RegionWith
namespace Go.Proofs.Ytgbhpjhofdhmeaa
open Go.RowKit Go.Lib
set_option linter.unusedVariables false

/-- two stamps in memory, and that the world grew -/
structure Two (w wx : World) (b4 b5 : Nat) (t r u v : Int) : Prop where
  s4 : StAt wx b4 0 t r
  s5 : StAt wx b5 0 u v
  bel : Below w.heap.size w wx
theorem Two.next {w wx wy : World} {b4 b5 : Nat} {t r u v : Int} (h : Two w wx b4 b5 t r u v) (hb : Below wx.heap.size wx wy) : Two w wy b4 b5 t r u v :=
  ⟨h.s4.next hb, h.s5.next hb, h.bel.trans (hb.mono h.bel.size)⟩
theorem two_ab {w wr : World} {t r u v : Int} (h : Below w.heap.size w wr) : Two w ((wr.alloc (.cells #[.int .i64 t, .int .i64 r] 24)).alloc (.cells #[.int .i64 u, .int .i64 v] 24)).drew wr.heap.size (wr.heap.size + 1) t r u v := by
  have hs := h.size
  have b1 : Below w.heap.size w (wr.alloc (.cells #[.int .i64 t, .int .i64 r] 24)) := h.alloc hs _
  refine ⟨((StAt.new wr t r).next ((Below.refl _ _).alloc (Nat.le_refl _) _)).drew, ?_, (b1.alloc (by simp; omega) _).drew⟩
  have := StAt.new (wr.alloc (.cells #[.int .i64 t, .int .i64 r] 24)) u v
  simp only [World.size_alloc] at this
  exact this.drew
theorem two_ba {w wr : World} {t r u v : Int} (h : Below w.heap.size w wr) : Two w ((wr.alloc (.cells #[.int .i64 u, .int .i64 v] 24)).alloc (.cells #[.int .i64 t, .int .i64 r] 24)).drew (wr.heap.size + 1) wr.heap.size t r u v := by
  obtain ⟨h1, h2, h3⟩ := two_ab (t := u) (r := v) (u := t) (v := r) h
  exact ⟨h2, h1, h3⟩

theorem cmpS_neg (t r u v : Int) : cmpS u v t r = - cmpS t r u v := by
  unfold cmpS cmpI
  repeat (first | omega | split)
theorem cmpS_bd (t r u v : Int) : -1 ≤ cmpS t r u v ∧ cmpS t r u v ≤ 1 := by
  unfold cmpS cmpI
  repeat (first | omega | split)
theorem cmpS_trans (t r u v x y : Int) (h1 : cmpS t r u v ≤ 0) (h2 : cmpS u v x y ≤ 0) : ¬ 0 < cmpS t r x y := by
  unfold cmpS cmpI at *
  repeat (first | omega | split at h1)
  all_goals (repeat (first | omega | split at h2))
  all_goals (repeat (first | omega | split))
theorem errB_eq (s : Bool) : (errB s == 0) = s := by cases s <;> rfl

set_option maxHeartbeats 4000000 in
set_option maxRecDepth 100000 in
theorem stampOrders_walk (a : Option Addr) (n cap : Nat) (w : World) (h : AsksIs w a n) :
    Calls Try.prog 3 #[.slice a n cap] w (BoolPost w true) := by
  have mixed : Try.prog.follows .mixedOrders = true := by kernel_rfl
  have HA := Lib.hid h
  clear h
  go_enter Try.func3, Try.ntmps3
  go_wp2
  go_loopg [3] 20 (fun g1 v wr => ∃ i : Nat, v = .int .i64 i ∧ i ≤ 20 ∧ 20 - i ≤ g1 ∧ Hid (Below w.heap.size w wr))
  case atStart => exact ⟨0, rfl, by omega, by omega, Below.refl _ _⟩
  case round =>
    obtain ⟨i, rfl, hi20, hg1, HB⟩ := hrel
    by_cases hin : i < n
    · have hinz : decide ((i : Int) < (n : Int)) = true := decide_eq_true (by omega)
      have hiny : (i : Int) < (n : Int) := by omega
      by_cases hi : i < 20
      · have hiz : decide ((i : Int) < 20) = true := decide_eq_true (by omega)
        have hiy : (i : Int) < 20 := by omega
        obtain ⟨b, off, t, r, u, v, ax, xs, cx, ea, hask, _, _, _, _, _, _, _⟩ := HA.out i hin
        subst ea
        have hbl := hask.lt
        obtain ⟨q0, q1, q2, q3, q4⟩ := hask.below HB.out hask.lt
        have hbw : b < wr.heap.size := Nat.lt_of_lt_of_le hbl HB.out.size
        clear hask q4
        go_upto_region 4 with fail
        go_cut [4, 5] from 8 to 86 (fun s4 s5 wx => ∃ b4 b5 : Nat, s4 = .pointer (some ⟨b4, 0, none⟩) ∧ s5 = .pointer (some ⟨b5, 0, none⟩) ∧ Hid (Two w wx b4 b5 t r u v))
        case first =>
          go_region
          · go_wp2_with fail
            go_meet
            case rel => exact ⟨_, _, rfl, rfl, two_ab HB.out⟩
          · go_wp2_with fail
            go_meet
            case rel => exact ⟨_, _, rfl, rfl, two_ba HB.out⟩
        case rest =>
          obtain ⟨b4, b5, rfl, rfl, HT⟩ := hcut
          clear q0 q1 q2 q3 hbw HB
          obtain ⟨k0, k1⟩ := HT.out.s4.regrown
          obtain ⟨k2, k3⟩ := HT.out.s5.regrown
          have c7 : RegrownTo wc 7 #[.agg #[.int .i64 t, .int .i64 r]] (.int .i64 (errB (stB t r))) := regrown_bel fun W => check_any t r W
          have c6 : RegrownTo wc 6 #[.int .i64 (errB (stB t r))] (.int .i64 (errB (stB t r))) := regrown_same fun W => num_any _ W
          have c8 : RegrownTo wc 8 #[.agg #[.int .i64 t, .int .i64 r]] (.bool (stB t r)) := regrown_bel fun W => refStamp_any t r W
          have c9 : RegrownTo wc 9 #[.agg #[.int .i64 t, .int .i64 r]] (.bool (plB t r)) := regrown_bel fun W => place_any t r W
          have c10 : RegrownTo wc 10 #[.agg #[.int .i64 t, .int .i64 r]] (.bool (plB t r)) := regrown_bel fun W => refPlace_any t r W
          have c11 : RegrownTo wc 11 #[.agg #[.int .i64 t, .int .i64 r], .agg #[.int .i64 u, .int .i64 v]] (.int .i64 (cmpS t r u v)) := regrown_bel fun W => cmp_any t r u v W
          have c13 : RegrownTo wc 11 #[.agg #[.int .i64 u, .int .i64 v], .agg #[.int .i64 t, .int .i64 r]] (.int .i64 (- cmpS t r u v)) := regrown_bel fun W => by rw [← cmpS_neg t r u v]; exact cmp_any u v t r W
          have c12 : RegrownTo wc 12 #[.agg #[.int .i64 t, .int .i64 r], .agg #[.int .i64 u, .int .i64 v]] (.int .i64 (cmpS t r u v)) := regrown_bel fun W => refCmp_any t r u v W
          obtain ⟨n1, n2⟩ := cmpS_bd t r u v
          have hs := errB_eq (stB t r)
          have HC1 := Lib.hid (fun W => cmp_any t r u v W)
          have HM := Lib.hid (cmpS_trans t r u v)
          generalize errB (stB t r) = z0 at *
          generalize stB t r = s at *
          generalize plB t r = p at *
          generalize cmpS t r u v = z1 at *
          have hw1 : wrap64 z1 = z1 := IntWalk.wrap64_in _ (by omega)
          have hw2 : IntKind.i64.wrap z1 = z1 := IntWalk.i64_in _ (by omega)
          go_wp2_with fail
          refine wp_region_quiet_below (by assumption) (by kernel_rfl) ?_
          repeat (quiet_step ( first | (go_at_call 7; with_reducible exact c7 _ _) | (go_at_call 6; with_reducible exact c6 _ _) | (go_at_call 8; with_reducible exact c8 _ _) | (go_at_call 9; with_reducible exact c9 _ _) | (go_at_call 10; with_reducible exact c10 _ _) | (go_at_call 11; with_reducible exact c11 _ _) | (go_at_call 12; with_reducible exact c12 _ _) | (go_at_call 11; with_reducible exact c13 _ _)))
          refine wpQuiet_nil ?_
          intro _ hw'
          obtain ⟨⟨dq, osq⟩, hw''⟩ := hw'
          subst hw''
          have HT2 := Lib.hid (HT.out.next (below_regrown wc dq osq))
          clear c6 c7 c8 c9 c10 c11 c12 c13 k0 k1 k2 k3 hs HT hw1 hw2
          generalize Go.Sort.grow (redrawn wc dq) osq = wd at *
          go_wp2
          go_loopg [6] i (fun g2 x wi => ∃ k : Nat, x = .int .i64 k ∧ k ≤ i ∧ i - k ≤ g2 ∧ Hid (Two w wi b4 b5 t r u v))
          case atStart => exact ⟨0, rfl, by omega, by omega, HT2.out⟩
          case round =>
            clear HT2
            obtain ⟨k, rfl, hki, hg2, HT⟩ := hrel
            by_cases hk : k < i
            · have hkz : decide ((k : Int) < (i : Int)) = true := decide_eq_true (by omega)
              have hky : (k : Int) < (i : Int) := by omega
              obtain ⟨b', off', x, y, x', y', ax', xs', cx', ea, hask, _, _, _, _, _, _, _⟩ := HA.out k (by omega)
              simp only [Option.some.injEq, Addr.mk.injEq, and_true] at ea
              obtain ⟨eb, eo⟩ := ea
              subst eb eo
              obtain ⟨q0, q1, _, _, _⟩ := hask.below HT.out.bel hask.lt
              clear hask
              have HT0 : Hid (Two w (wr.alloc (.cells #[.int .i64 x, .int .i64 y] 24)) b4 b5 t r u v) := HT.out.next ((Below.refl _ _).alloc (Nat.le_refl _) _)
              have HN0 := Lib.hid (StAt.new wr x y)
              have HC2 := Lib.hid (fun W => cmp_any u v x y W)
              have HC3 := Lib.hid (fun W => cmp_any t r x y W)
              have hm := HM.out x y
              generalize cmpS u v x y = z2 at *
              generalize cmpS t r x y = z3 at *
              clear HM HT
              obtain ⟨⟨e0, e1⟩, ⟨e2, e3⟩, _⟩ := HT0.out
              obtain ⟨e4, e5⟩ := HN0.out
              by_cases g1 : z1 ≤ 0
              · by_cases g2 : z2 ≤ 0
                · have g3 : ¬ 0 < z3 := by have := hm g1 g2; omega
                  clear hm
                  go_wp2_with fail
                  refine (HC1.out _).mono ?_
                  rintro e w1 ⟨rfl, hb⟩
                  have HT1 := Lib.hid (HT0.out.next hb)
                  have HN1 := Lib.hid (HN0.out.next hb)
                  clear hb e0 e1 e2 e3 e4 e5
                  obtain ⟨⟨e0, e1⟩, ⟨e2, e3⟩, _⟩ := HT1.out
                  obtain ⟨e4, e5⟩ := HN1.out
                  go_wp2_with fail
                  refine (HC2.out _).mono ?_
                  rintro e w2 ⟨rfl, hb⟩
                  have HT2 := Lib.hid (HT1.out.next hb)
                  have HN2 := Lib.hid (HN1.out.next hb)
                  clear hb e0 e1 e2 e3 e4 e5
                  obtain ⟨⟨e0, e1⟩, ⟨e2, e3⟩, _⟩ := HT2.out
                  obtain ⟨e4, e5⟩ := HN2.out
                  go_wp2_with fail
                  refine (HC3.out _).mono ?_
                  rintro e w3 ⟨rfl, hb⟩
                  have HT3 := Lib.hid (HT2.out.next hb)
                  have HN3 := Lib.hid (HN2.out.next hb)
                  clear hb e0 e1 e2 e3 e4 e5
                  obtain ⟨⟨e0, e1⟩, ⟨e2, e3⟩, _⟩ := HT3.out
                  obtain ⟨e4, e5⟩ := HN3.out
                  go_wp2_with fail
                  go_roundg (i - (k + 1))
                  case measure => omega
                  case rel => exact ⟨k + 1, by go_num, by omega, by omega, HT3.out⟩
                · clear hm
                  go_wp2_with fail
                  refine (HC1.out _).mono ?_
                  rintro e w1 ⟨rfl, hb⟩
                  have HT1 := Lib.hid (HT0.out.next hb)
                  have HN1 := Lib.hid (HN0.out.next hb)
                  clear hb e0 e1 e2 e3 e4 e5
                  obtain ⟨⟨e0, e1⟩, ⟨e2, e3⟩, _⟩ := HT1.out
                  obtain ⟨e4, e5⟩ := HN1.out
                  go_wp2_with fail
                  refine (HC2.out _).mono ?_
                  rintro e w2 ⟨rfl, hb⟩
                  have HT2 := Lib.hid (HT1.out.next hb)
                  have HN2 := Lib.hid (HN1.out.next hb)
                  clear hb e0 e1 e2 e3 e4 e5
                  obtain ⟨⟨e0, e1⟩, ⟨e2, e3⟩, _⟩ := HT2.out
                  obtain ⟨e4, e5⟩ := HN2.out
                  go_wp2_with fail
                  go_roundg (i - (k + 1))
                  case measure => omega
                  case rel => exact ⟨k + 1, by go_num, by omega, by omega, HT2.out⟩
              · clear hm
                go_wp2_with fail
                refine (HC1.out _).mono ?_
                rintro e w1 ⟨rfl, hb⟩
                have HT1 := Lib.hid (HT0.out.next hb)
                have HN1 := Lib.hid (HN0.out.next hb)
                clear hb e0 e1 e2 e3 e4 e5
                obtain ⟨⟨e0, e1⟩, ⟨e2, e3⟩, _⟩ := HT1.out
                obtain ⟨e4, e5⟩ := HN1.out
                go_wp2_with fail
                go_roundg (i - (k + 1))
                case measure => omega
                case rel => exact ⟨k + 1, by go_num, by omega, by omega, HT1.out⟩
            · have hkz : decide ((k : Int) < (i : Int)) = false := decide_eq_false (by omega)
              have hky : ¬ (k : Int) < (i : Int) := by omega
              have HZ : Hid (Below w.heap.size w wr) := HT.out.bel
              go_wp2_with fail
              go_roundg (20 - (i + 1))
              case measure => omega
              case rel => exact ⟨i + 1, by go_num, by omega, by omega, HZ.out⟩
      · have hiz : decide ((i : Int) < 20) = false := decide_eq_false (by omega)
        have hiy : ¬ (i : Int) < 20 := by omega
        have HW := Lib.hid (wakes_any wr)
        go_wp2_with fail
        refine (HW.out).mono ?_
        rintro e w1 ⟨rfl, hb1⟩
        have HZ : Hid (Below w.heap.size w w1) := HB.out.trans (hb1.mono HB.out.size)
        clear hb1 HW
        go_wp2
        go_ret
        exact ⟨rfl, HZ.out⟩
    · have hinz : decide ((i : Int) < (n : Int)) = false := decide_eq_false (by omega)
      have hiny : ¬ (i : Int) < (n : Int) := by omega
      have HW := Lib.hid (wakes_any wr)
      go_wp2_with fail
      refine (HW.out).mono ?_
      rintro e w1 ⟨rfl, hb1⟩
      have HZ : Hid (Below w.heap.size w w1) := HB.out.trans (hb1.mono HB.out.size)
      clear hb1 HW
      go_wp2
      go_ret
      exact ⟨rfl, HZ.out⟩
end Go.Proofs.Ytgbhpjhofdhmeaa
