/- The walk of OpBytes. -/
import Derived.Test.YtknfpildkiekcaaDoorO18
namespace Go.Proofs.YtknfpildkiekcaaDoor
open Go.RowKit Go.Lib
set_option linter.unusedVariables false

set_option maxHeartbeats 16000000 in
set_option maxRecDepth 100000 in
theorem opBytes_walk (a : Option Addr) (n cap : Nat) (w : World) (ht : Pr.Tab w) (h : AsksIs w a n) :
    Calls Tryd.prog 3 #[.slice a n cap] w (BoolPost w true) := by
  have mixed : Tryd.prog.follows .mixedOrders = true := by kernel_rfl
  have HA := Lib.hid h
  have HT0 := Lib.hid ht
  clear h ht
  go_enter Tryd.func3, Tryd.ntmps3
  go_wp2
  go_loopg [3] 12 (fun g1 v wr => ∃ i : Nat, v = .int .i64 i ∧ i ≤ 12 ∧ 12 - i ≤ g1 ∧ Hid (Below w.heap.size w wr))
  case atStart => exact ⟨0, rfl, by omega, by omega, Below.refl _ _⟩
  case round =>
    obtain ⟨i, rfl, hi12, hg1, HB⟩ := hrel
    have HT := Lib.hid (HT0.out.below HB.out HT0.out.lt)
    by_cases hin : i < n
    · have hinz : decide ((i : Int) < (n : Int)) = true := decide_eq_true (by omega)
      have hiny : (i : Int) < (n : Int) := by omega
      by_cases hi : i < 12
      · have hiz : decide ((i : Int) < 12) = true := decide_eq_true (by omega)
        have hiy : (i : Int) < 12 := by omega
        obtain ⟨b, off, t, r, q, da, ds, dn, dc, k, nt, nr, pt, pr, s, p, v, ax, xs, nx, cx, rfl, hask, hrows⟩ := HA.out i hin
        have HP : Hid (PA w wr b (off + i * 13) t r q da ds dn dc k nt nr pt pr s p v ax xs nx cx) := ⟨hask.below HB.out hask.o_.lt, hrows.below HB.out, HB.out, HT.out, hask.o_.lt⟩
        clear hask hrows
        have HV := Lib.hid (heavy_op t r q da ds dn dc k nt nr pt pr s p v ax nx cx wr)
        obtain ⟨⟨c0, c1, c2, c3, c4', c5, c6, c7, c8, c9, c10, c11⟩, cx'⟩ := HP.out.ask
        go_wp2_with fail
        refine (HV.out).mono ?_
        rintro e w1 ⟨hv, rfl, hnx, hb1⟩
        have HP1 := Lib.hid (HP.out.next hb1)
        have HNX3 := Lib.hid hnx
        clear hb1 HV hnx c0 c1 c2 c3 c4' c5 c6 c7 c8 c9 c10 c11 cx'
        cases hv
        case true =>
          go_wp2
          go_ret
          exact ⟨rfl, HP1.out.bel⟩
        have hnx3 := HNX3.out rfl
        clear HNX3
        obtain ⟨⟨c0, c1, c2, c3, c4', c5, c6, c7, c8, c9, c10, c11⟩, cx'⟩ := HP1.out.ask
        have CR := Lib.hid (refOp_any t r q da ds dn dc k nt nr pt pr s p v w1 HP1.out.rows.rd HP1.out.rows.dl (by have := HP1.out.rows.dm; omega))
        cases hok : opB t r q ds k nt nr pt pr s p v
        · -- MA
          rw [hok] at CR
          go_wp2_with fail
          refine (CR.out).mono ?_
          rintro e w2 ⟨rfl, hb2⟩
          have HP2 := Lib.hid (HP1.out.next hb2)
          clear hb2 CR
          clear c0 c1 c2 c3 c4' c5 c6 c7 c8 c9 c10 c11 cx'
          obtain ⟨⟨c0, c1, c2, c3, c4', c5, c6, c7, c8, c9, c10, c11⟩, cx'⟩ := HP2.out.ask
          have CC := Lib.hid (copyOp_any t r q da ds dn dc k nt nr pt pr s p v w2 HP2.out.rows.rd HP2.out.rows.dl HP2.out.rows.dm)
          go_wp2_with fail
          refine (CC.out).mono ?_
          rintro e w4 ⟨a4, n4, c4, rfl, ho4, hb4⟩
          obtain ⟨hr4, hn4, _⟩ := RowK.ofOwn ho4
          have HN4 := Lib.hid hn4
          have HR4 := Lib.hid (hr4.alloc (.cells #[.int .i64 t, .int .i64 r, .int .i64 q, .slice a4 n4 c4, .int .i64 k, .int .i64 nt, .int .i64 nr, .int .i64 pt, .int .i64 pr, .string s, .int .i64 p, .int .i64 v] 28))
          have HP4 := Lib.hid ((HP2.out.next hb4).box (.cells #[.int .i64 t, .int .i64 r, .int .i64 q, .slice a4 n4 c4, .int .i64 k, .int .i64 nt, .int .i64 nr, .int .i64 pt, .int .i64 pr, .string s, .int .i64 p, .int .i64 v] 28))
          have HA4 := Lib.hid (OpAt.new w4 t r q a4 ds n4 c4 k nt nr pt pr s p v)
          clear ho4 hb4 hr4 hn4 CC
          clear c0 c1 c2 c3 c4' c5 c6 c7 c8 c9 c10 c11 cx'
          go_wp2_with fail
          generalize w4.alloc (.cells #[.int .i64 t, .int .i64 r, .int .i64 q, .slice a4 n4 c4, .int .i64 k, .int .i64 nt, .int .i64 nr, .int .i64 pt, .int .i64 pr, .string s, .int .i64 p, .int .i64 v] 28) = W4 at *
          generalize w4.heap.size = g4 at *
          have CB := Lib.hid (opBytes_no t r q a4 ds n4 c4 k nt nr pt pr s p v W4 HP4.out.tab HR4.out HN4.out (by have := HP4.out.rows.dm; omega) hok)
          refine (CB.out).mono ?_
          rintro e w5 ⟨v5, rfl, ho5, hb5⟩
          obtain ⟨a5, n5, c5', rfl, hn5, hr5, hc5⟩ := ho5.form'
          have HP5 := Lib.hid (HP4.out.next hb5)
          have HA5 := Lib.hid (HA4.out.next hb5)
          have HR5 := Lib.hid hr5
          have HN5 := Lib.hid hn5
          replace HR4 := Lib.hid (HR4.out.below hb5 (Nat.le_refl _))
          clear ho5 hb5 hr5 hn5 hc5 CB
          have k16 : St.RegrownTo w5 16 #[.agg #[.int .i64 t, .int .i64 r, .int .i64 q, .slice a4 n4 c4, .int .i64 k, .int .i64 nt, .int .i64 nr, .int .i64 pt, .int .i64 pr, .string s, .int .i64 p, .int .i64 v]] (.int .i64 1) := regrown_at fun W hb => check_is t r q a4 ds n4 c4 k nt nr pt pr s p v W (HP5.out.tab.below hb HP5.out.tab.lt) (HR4.out.below hb (Nat.le_refl _)) HN4.out (by have := HP5.out.rows.dm; omega) 1 (by rw [hok]; rfl)
          have k15 : St.RegrownTo w5 15 #[.int .i64 1] (.int .i64 1) := St.regrown_same fun W => num15_any 1 W
          have k17 : St.RegrownTo w5 17 #[.slice a5 n5 c5', .slice none 0 0] (.bool true) := regrown_at fun W hb => eqB_bel a5 none [] n5 0 c5' 0 W (HR5.out.below hb (Nat.le_refl _)) (RowK.nil _ _ _) HN5.out rfl (by simp)
          have k18 : St.RegrownTo w5 18 #[.agg #[.int .i64 t, .int .i64 r, .int .i64 q, .slice a4 n4 c4, .int .i64 k, .int .i64 nt, .int .i64 nr, .int .i64 pt, .int .i64 pr, .string s, .int .i64 p, .int .i64 v], .agg #[.int .i64 t, .int .i64 r, .int .i64 q, .slice da dn dc, .int .i64 k, .int .i64 nt, .int .i64 nr, .int .i64 pt, .int .i64 pr, .string s, .int .i64 p, .int .i64 v]] (.bool true) := regrown_at fun W hb => eqOp_bel t r q a4 ds n4 c4 k nt nr pt pr s p v da dn dc W (HR4.out.below hb (Nat.le_refl _)) HN4.out (by have := HP5.out.rows.dm; omega) (HP5.out.rows.rd.below hb (Nat.le_refl _)) HP5.out.rows.dl
          obtain ⟨x0, x1, x2, x3, x4, x5, x6, x7, x8, x9, x10, x11⟩ := HA5.out.regrown
          obtain ⟨y0, y1, y2, y3, y4, y5, y6, y7, y8, y9, y10, y11⟩ := HP5.out.ask.o_.regrown
          clear hok HR5 HN5 HR4 HN4 HA4 HA5 HP4 HP2 HP1
          go_wp2_with fail
          refine wp_region_quiet_below (by assumption) (by kernel_rfl) ?_
          repeat (go_big_quiet_step (first | (go_at_call 16; with_reducible exact k16 _ _) | (go_at_call 15; with_reducible exact k15 _ _) | (go_at_call 17; with_reducible exact k17 _ _) | (go_at_call 18; with_reducible exact k18 _ _)))
          refine wpQuiet_nil ?_
          intro _ hw'
          obtain ⟨⟨dq, osq⟩, hw''⟩ := hw'
          subst hw''
          have HP6 := Lib.hid (HP5.out.next (below_regrown w5 dq osq))
          clear k15 k16 k17 k18 x0 x1 x2 x3 x4 x5 x6 x7 x8 x9 x10 x11 y0 y1 y2 y3 y4 y5 y6 y7 y8 y9 y10 y11
          generalize Go.Sort.grow (redrawn w5 dq) osq = wd at *
          go_wp2
          go_roundg (12 - (i + 1))
          case measure => omega
          case rel => exact ⟨i + 1, by go_num, by omega, by omega, HP6.out.bel⟩
        · -- MB
          rw [hok] at CR
          go_wp2_with fail
          refine (CR.out).mono ?_
          rintro e w2 ⟨rfl, hb2⟩
          have HP2 := Lib.hid (HP1.out.next hb2)
          clear hb2 CR
          clear c0 c1 c2 c3 c4' c5 c6 c7 c8 c9 c10 c11 cx'
          obtain ⟨⟨c0, c1, c2, c3, c4', c5, c6, c7, c8, c9, c10, c11⟩, cx'⟩ := HP2.out.ask
          have CB := Lib.hid (refOpBytes_any t r q da ds dn dc k nt nr pt pr s p v w2 HP2.out.rows.rd HP2.out.rows.dl hok)
          go_wp2_with fail
          refine (CB.out).mono ?_
          rintro e w3 ⟨v3, rfl, ho3, hb3⟩
          obtain ⟨a3, n3, c3', rfl, hn3, hr3, hc3⟩ := ho3.form'
          have HR3 := Lib.hid hr3
          have HN3 := Lib.hid hn3
          have HP3 := Lib.hid (HP2.out.next hb3)
          clear ho3 hb3 hr3 hc3 hn3 CB
          clear c0 c1 c2 c3 c4' c5 c6 c7 c8 c9 c10 c11 cx'
          obtain ⟨⟨c0, c1, c2, c3, c4', c5, c6, c7, c8, c9, c10, c11⟩, cx'⟩ := HP3.out.ask
          have CC := Lib.hid (copyOp_any t r q da ds dn dc k nt nr pt pr s p v w3 HP3.out.rows.rd HP3.out.rows.dl HP3.out.rows.dm)
          go_wp2_with fail
          refine (CC.out).mono ?_
          rintro e w4 ⟨a4, n4, c4, rfl, ho4, hb4⟩
          obtain ⟨hr4, hn4, _⟩ := RowK.ofOwn ho4
          have HN4 := Lib.hid hn4
          have HR4 := Lib.hid (hr4.alloc (.cells #[.int .i64 t, .int .i64 r, .int .i64 q, .slice a4 n4 c4, .int .i64 k, .int .i64 nt, .int .i64 nr, .int .i64 pt, .int .i64 pr, .string s, .int .i64 p, .int .i64 v] 28))
          have HP4 := Lib.hid ((HP3.out.next hb4).box (.cells #[.int .i64 t, .int .i64 r, .int .i64 q, .slice a4 n4 c4, .int .i64 k, .int .i64 nt, .int .i64 nr, .int .i64 pt, .int .i64 pr, .string s, .int .i64 p, .int .i64 v] 28))
          have HA4 := Lib.hid (OpAt.new w4 t r q a4 ds n4 c4 k nt nr pt pr s p v)
          replace HR3 := Lib.hid ((HR3.out.below hb4 (Nat.le_refl _)).alloc (.cells #[.int .i64 t, .int .i64 r, .int .i64 q, .slice a4 n4 c4, .int .i64 k, .int .i64 nt, .int .i64 nr, .int .i64 pt, .int .i64 pr, .string s, .int .i64 p, .int .i64 v] 28))
          clear ho4 hb4 hr4 hn4 CC
          clear c0 c1 c2 c3 c4' c5 c6 c7 c8 c9 c10 c11 cx'
          go_wp2_with fail
          generalize w4.alloc (.cells #[.int .i64 t, .int .i64 r, .int .i64 q, .slice a4 n4 c4, .int .i64 k, .int .i64 nt, .int .i64 nr, .int .i64 pt, .int .i64 pr, .string s, .int .i64 p, .int .i64 v] 28) = W4 at *
          generalize w4.heap.size = g4 at *
          have CB := Lib.hid (opBytes_yes t r q a4 ds n4 c4 k nt nr pt pr s p v W4 HP4.out.tab HR4.out HN4.out (by have := HP4.out.rows.dm; omega) hok)
          refine (CB.out).mono ?_
          rintro e w5 ⟨v5, rfl, ho5, hb5⟩
          obtain ⟨a5, n5, c5', rfl, hn5, hr5, hc5⟩ := ho5.form'
          have HP5 := Lib.hid (HP4.out.next hb5)
          have HA5 := Lib.hid (HA4.out.next hb5)
          have HR5 := Lib.hid hr5
          have HN5 := Lib.hid hn5
          replace HR4 := Lib.hid (HR4.out.below hb5 (Nat.le_refl _))
          replace HR3 := Lib.hid (HR3.out.below hb5 (Nat.le_refl _))
          clear ho5 hb5 hr5 hn5 hc5 CB
          have k16 : St.RegrownTo w5 16 #[.agg #[.int .i64 t, .int .i64 r, .int .i64 q, .slice a4 n4 c4, .int .i64 k, .int .i64 nt, .int .i64 nr, .int .i64 pt, .int .i64 pr, .string s, .int .i64 p, .int .i64 v]] (.int .i64 0) := regrown_at fun W hb => check_is t r q a4 ds n4 c4 k nt nr pt pr s p v W (HP5.out.tab.below hb HP5.out.tab.lt) (HR4.out.below hb (Nat.le_refl _)) HN4.out (by have := HP5.out.rows.dm; omega) 0 (by rw [hok]; rfl)
          have k15 : St.RegrownTo w5 15 #[.int .i64 0] (.int .i64 0) := St.regrown_same fun W => num15_any 0 W
          have k17 : St.RegrownTo w5 17 #[.slice a5 n5 c5', .slice a3 n3 c3'] (.bool true) := regrown_at fun W hb => eqB_bel a5 a3 (encO t r ds k nt nr pt pr s p v) n5 n3 c5' c3' W (HR5.out.below hb (Nat.le_refl _)) (HR3.out.below hb (Nat.le_refl _)) HN5.out HN3.out (by have := encO_len hok; omega)
          have k18 : St.RegrownTo w5 18 #[.agg #[.int .i64 t, .int .i64 r, .int .i64 q, .slice a4 n4 c4, .int .i64 k, .int .i64 nt, .int .i64 nr, .int .i64 pt, .int .i64 pr, .string s, .int .i64 p, .int .i64 v], .agg #[.int .i64 t, .int .i64 r, .int .i64 q, .slice da dn dc, .int .i64 k, .int .i64 nt, .int .i64 nr, .int .i64 pt, .int .i64 pr, .string s, .int .i64 p, .int .i64 v]] (.bool true) := regrown_at fun W hb => eqOp_bel t r q a4 ds n4 c4 k nt nr pt pr s p v da dn dc W (HR4.out.below hb (Nat.le_refl _)) HN4.out (by have := HP5.out.rows.dm; omega) (HP5.out.rows.rd.below hb (Nat.le_refl _)) HP5.out.rows.dl
          obtain ⟨x0, x1, x2, x3, x4, x5, x6, x7, x8, x9, x10, x11⟩ := HA5.out.regrown
          obtain ⟨y0, y1, y2, y3, y4, y5, y6, y7, y8, y9, y10, y11⟩ := HP5.out.ask.o_.regrown
          clear hok HR5 HN5 HR4 HN4 HA4 HA5 HP4 HP2 HP1
          go_wp2_with fail
          refine wp_region_quiet_below (by assumption) (by kernel_rfl) ?_
          repeat (go_big_quiet_step (first | (go_at_call 16; with_reducible exact k16 _ _) | (go_at_call 15; with_reducible exact k15 _ _) | (go_at_call 17; with_reducible exact k17 _ _) | (go_at_call 18; with_reducible exact k18 _ _)))
          refine wpQuiet_nil ?_
          intro _ hw'
          obtain ⟨⟨dq, osq⟩, hw''⟩ := hw'
          subst hw''
          have HP6 := Lib.hid (HP5.out.next (below_regrown w5 dq osq))
          clear k15 k16 k17 k18 x0 x1 x2 x3 x4 x5 x6 x7 x8 x9 x10 x11 y0 y1 y2 y3 y4 y5 y6 y7 y8 y9 y10 y11
          generalize Go.Sort.grow (redrawn w5 dq) osq = wd at *
          go_wp2
          go_roundg (12 - (i + 1))
          case measure => omega
          case rel => exact ⟨i + 1, by go_num, by omega, by omega, HP6.out.bel⟩
      · have hiz : decide ((i : Int) < 12) = false := decide_eq_false (by omega)
        have hiy : ¬ (i : Int) < 12 := by omega
        go_wp2_with fail
        refine (wakes_op wr HT.out).mono ?_
        rintro e w1 ⟨rfl, hb1⟩
        have HB1 := Lib.hid (HB.out.trans (hb1.mono HB.out.size))
        clear hb1
        go_wp2
        go_ret
        exact ⟨rfl, HB1.out⟩
    · have hinz : decide ((i : Int) < (n : Int)) = false := decide_eq_false (by omega)
      have hiny : ¬ (i : Int) < (n : Int) := by omega
      go_wp2_with fail
      refine (wakes_op wr HT.out).mono ?_
      rintro e w1 ⟨rfl, hb1⟩
      have HB1 := Lib.hid (HB.out.trans (hb1.mono HB.out.size))
      clear hb1
      go_wp2
      go_ret
      exact ⟨rfl, HB1.out⟩
end Go.Proofs.YtknfpildkiekcaaDoor
