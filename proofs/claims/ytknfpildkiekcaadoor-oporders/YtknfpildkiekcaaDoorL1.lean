/- The walk of OpOrders. -/
import Derived.Test.YtknfpildkiekcaaDoorO18
namespace Go.Proofs.YtknfpildkiekcaaDoor
open Go.RowKit Go.Lib
set_option linter.unusedVariables false

set_option maxHeartbeats 16000000 in
set_option maxRecDepth 100000 in
theorem opOrders_walk (a : Option Addr) (n cap : Nat) (w : World) (ht : Pr.Tab w) (h : AsksIs w a n) :
    Calls Tryd.prog 6 #[.slice a n cap] w (BoolPost w true) := by
  have mixed : Tryd.prog.follows .mixedOrders = true := by kernel_rfl
  have HA := Lib.hid h
  have HT0 := Lib.hid ht
  clear h ht
  go_enter Tryd.func6, Tryd.ntmps6
  go_wp2
  go_loopg [3] 12 (fun g1 v wr => ∃ i : Nat, v = .int .i64 i ∧ i ≤ 12 ∧ 12 - i ≤ g1 ∧ Hid (Below w.heap.size w wr))
  case atStart => exact ⟨0, rfl, by omega, by omega, Below.refl _ _⟩
  case round =>
    obtain ⟨i, rfl, hi12, hg1, HB⟩ := hrel
    have HT := Lib.hid (HT0.out.below HB.out HT0.out.lt)
    by_cases hin : i < n
    · have hinz : decide ((i : Int) < (n : Int)) = true := decide_eq_true (by omega)
      have hiny : (i : Int) < (n : Int) := by omega
      by_cases hi : i < 12
      · have hiz : decide ((i : Int) < 12) = true := decide_eq_true (by omega)
        have hiy : (i : Int) < 12 := by omega
        obtain ⟨b, off, t, r, q, da, ds, dn, dc, k, nt, nr, pt, pr, s, p, v', ax, xs, nx, cx, rfl, hask, hrows⟩ := HA.out i hin
        have HP : Hid (PA w wr b (off + i * 13) t r q da ds dn dc k nt nr pt pr s p v' ax xs nx cx) := ⟨hask.below HB.out hask.o_.lt, hrows.below HB.out, HB.out, HT.out, hask.o_.lt⟩
        clear hask hrows
        go_wp2
        go_loopg [4] 12 (fun g2 v wi => ∃ m : Nat, v = .int .i64 m ∧ m ≤ 12 ∧ 12 - m ≤ g2 ∧ Hid (PA w wi b (off + i * 13) t r q da ds dn dc k nt nr pt pr s p v' ax xs nx cx))
        case atStart => exact ⟨0, rfl, by omega, by omega, HP.out⟩
        case round =>
          clear HP
          obtain ⟨m, rfl, hm12, hg2, HP⟩ := hrel
          by_cases hmn : m < n
          · have hmnz : decide ((m : Int) < (n : Int)) = true := decide_eq_true (by omega)
            have hmny : (m : Int) < (n : Int) := by omega
            by_cases hm : m < 12
            · have hmz : decide ((m : Int) < 12) = true := decide_eq_true (by omega)
              have hmy : (m : Int) < 12 := by omega
              obtain ⟨b2, off2, t2, r2, q2, da2, ds2, dn2, dc2, k2, nt2, nr2, pt2, pr2, s2, p2, v2, ax2, xs2, nx2, cx2, ea, hask2, hrows2⟩ := HA.out m hmn
              simp only [Option.some.injEq, Addr.mk.injEq, and_true] at ea
              obtain ⟨rfl, rfl⟩ := ea
              obtain ⟨x0, x1, x2, x3, x4, x5, x6, x7, x8, x9, x10, x11⟩ := (hask2.o_.below HP.out.bel hask2.o_.lt).regrown
              obtain ⟨y0, y1, y2, y3, y4, y5, y6, y7, y8, y9, y10, y11⟩ := HP.out.ask.o_.regrown
              have cl : St.RegrownTo wr 24 #[.agg #[.int .i64 t, .int .i64 r, .int .i64 q, .slice da dn dc, .int .i64 k, .int .i64 nt, .int .i64 nr, .int .i64 pt, .int .i64 pr, .string s, .int .i64 p, .int .i64 v'], .agg #[.int .i64 t2, .int .i64 r2, .int .i64 q2, .slice da2 dn2 dc2, .int .i64 k2, .int .i64 nt2, .int .i64 nr2, .int .i64 pt2, .int .i64 pr2, .string s2, .int .i64 p2, .int .i64 v2]] (.bool (decide (St.cmpS t r t2 r2 < 0))) := St.regrown_bel fun W => less_any t r q da dn dc k nt nr pt pr s p v' t2 r2 q2 da2 dn2 dc2 k2 nt2 nr2 pt2 pr2 s2 p2 v2 W
              have cc : St.RegrownTo wr 25 #[.agg #[.int .i64 t, .int .i64 r], .agg #[.int .i64 t2, .int .i64 r2]] (.int .i64 (St.cmpS t r t2 r2)) := St.regrown_bel fun W => St.refCmp_any t r t2 r2 W
              clear hask2 hrows2
              generalize St.cmpS t r t2 r2 = z at *
              have hzz : (decide (z < 0) != decide (z < 0)) = false := by simp
              go_wp2_with fail
              refine wp_region_quiet_below (by assumption) (by kernel_rfl) ?_
              repeat (go_big_quiet_step (first | (go_at_call 24; with_reducible exact cl _ _) | (go_at_call 25; with_reducible exact cc _ _)))
              refine wpQuiet_nil ?_
              intro _ hw'
              obtain ⟨⟨dq, osq⟩, hw''⟩ := hw'
              subst hw''
              have HP2 := Lib.hid (HP.out.next (below_regrown wr dq osq))
              clear cl cc x0 x1 x2 x3 x4 x5 x6 x7 x8 x9 x10 x11 y0 y1 y2 y3 y4 y5 y6 y7 y8 y9 y10 y11
              generalize Go.Sort.grow (redrawn wr dq) osq = wd at *
              go_wp2
              go_roundg (12 - (m + 1))
              case measure => omega
              case rel => exact ⟨m + 1, by go_num, by omega, by omega, HP2.out⟩
            · have hmz : decide ((m : Int) < 12) = false := decide_eq_false (by omega)
              have hmy : ¬ (m : Int) < 12 := by omega
              go_wp2
              go_roundg (12 - (i + 1))
              case measure => omega
              case rel => exact ⟨i + 1, by go_num, by omega, by omega, HP.out.bel⟩
          · have hmnz : decide ((m : Int) < (n : Int)) = false := decide_eq_false (by omega)
            have hmny : ¬ (m : Int) < (n : Int) := by omega
            go_wp2
            go_roundg (12 - (i + 1))
            case measure => omega
            case rel => exact ⟨i + 1, by go_num, by omega, by omega, HP.out.bel⟩
      · have hiz : decide ((i : Int) < 12) = false := decide_eq_false (by omega)
        have hiy : ¬ (i : Int) < 12 := by omega
        go_wp2_with fail
        refine (wakes_op wr HT.out).mono ?_
        rintro e w1 ⟨rfl, hb1⟩
        have HB1 := Lib.hid (HB.out.trans (hb1.mono HB.out.size))
        clear hb1
        go_wp2
        go_ret
        exact ⟨rfl, HB1.out⟩
    · have hinz : decide ((i : Int) < (n : Int)) = false := decide_eq_false (by omega)
      have hiny : ¬ (i : Int) < (n : Int) := by omega
      go_wp2_with fail
      refine (wakes_op wr HT.out).mono ?_
      rintro e w1 ⟨rfl, hb1⟩
      have HB1 := Lib.hid (HB.out.trans (hb1.mono HB.out.size))
      clear hb1
      go_wp2
      go_ret
      exact ⟨rfl, HB1.out⟩
end Go.Proofs.YtknfpildkiekcaaDoor
