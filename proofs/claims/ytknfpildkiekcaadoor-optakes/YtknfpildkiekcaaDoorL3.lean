/- The walk of OpTakes. -/
import Derived.Test.YtknfpildkiekcaaDoorO18
namespace Go.Proofs.YtknfpildkiekcaaDoor
open Go.RowKit Go.Lib
set_option linter.unusedVariables false

set_option maxHeartbeats 16000000 in
set_option maxRecDepth 100000 in
theorem opTakes_walk (a : Option Addr) (n cap : Nat) (w : World) (ht : Pr.Tab w) (h : AsksIs w a n) :
    Calls Tryd.prog 4 #[.slice a n cap] w (BoolPost w true) := by
  have mixed : Tryd.prog.follows .mixedOrders = true := by kernel_rfl
  have HA := Lib.hid h
  have HT0 := Lib.hid ht
  clear h ht
  go_enter Tryd.func4, Tryd.ntmps4
  go_wp2
  go_loopg [3] 12 (fun g1 v wr => ∃ i : Nat, v = .int .i64 i ∧ i ≤ 12 ∧ 12 - i ≤ g1 ∧ Hid (Below w.heap.size w wr))
  case atStart => exact ⟨0, rfl, by omega, by omega, Below.refl _ _⟩
  case round =>
    obtain ⟨i, rfl, hi12, hg1, HB⟩ := hrel
    have HT := Lib.hid (HT0.out.below HB.out HT0.out.lt)
    by_cases hin : i < n
    · have hinz : decide ((i : Int) < (n : Int)) = true := decide_eq_true (by omega)
      have hiny : (i : Int) < (n : Int) := by omega
      by_cases hi : i < 12
      · have hiz : decide ((i : Int) < 12) = true := decide_eq_true (by omega)
        have hiy : (i : Int) < 12 := by omega
        obtain ⟨b, off, t, r, q, da, ds, dn, dc, k, nt, nr, pt, pr, s, p, v, ax, xs, nx, cx, rfl, hask, hrows⟩ := HA.out i hin
        have HP : Hid (PA w wr b (off + i * 13) t r q da ds dn dc k nt nr pt pr s p v ax xs nx cx) := ⟨hask.below HB.out hask.o_.lt, hrows.below HB.out, HB.out, HT.out, hask.o_.lt⟩
        clear hask hrows
        have HV := Lib.hid (heavy_op t r q da ds dn dc k nt nr pt pr s p v ax nx cx wr)
        obtain ⟨⟨c0, c1, c2, c3, c4, c5, c6, c7, c8, c9, c10, c11⟩, cx'⟩ := HP.out.ask
        go_wp2_with fail
        refine (HV.out).mono ?_
        rintro e w1 ⟨hv, rfl, hnx, hb1⟩
        have HP1 := Lib.hid (HP.out.next hb1)
        have HNX3 := Lib.hid hnx
        clear hb1 HV hnx c0 c1 c2 c3 c4 c5 c6 c7 c8 c9 c10 c11 cx'
        cases hv
        case true =>
          go_wp2
          go_ret
          exact ⟨rfl, HP1.out.bel⟩
        have hnx3 := HNX3.out rfl
        clear HNX3
        obtain ⟨⟨c0, c1, c2, c3, c4, c5, c6, c7, c8, c9, c10, c11⟩, cx'⟩ := HP1.out.ask
        clear c0 c1 c2 c3 c4 c5 c6 c7 c8 c9 c10 c11 cx'
        have cx' := HP1.out.ask.x_
        obtain ⟨⟨⟨t1, r1, ds1, k1, nt1, nr1, pt1, pr1, s1, p1, v1⟩, q1, kk, ee⟩, hT⟩ : ∃ Z, tkO xs = Z := ⟨_, rfl⟩
        have HTK := Lib.hid hT
        have HDS : Hid (ds1.length ≤ 16) := by have h := tkO_ds HP1.out.rows.isB; rw [hT] at h; exact h
        clear hT
        have CC := Lib.hid (copyB_any ax xs nx cx w1 HP1.out.rows.rx HP1.out.rows.xl (by have := HP1.out.rows.xl; omega))
        go_wp2_with fail
        refine (CC.out).mono ?_
        rintro e w2 ⟨v2, rfl, ho2, hb2⟩
        obtain ⟨a2, n2, c2', rfl, hn2, hr2, hc2⟩ := ho2.form'
        have HP2 := Lib.hid (HP1.out.next hb2)
        have HR2 := Lib.hid hr2
        have HN2 := Lib.hid hn2
        have C2 := Lib.hid (opTake_any a2 xs n2 c2' w2 HP2.out.tab hn2 hr2 HP2.out.rows.isB hc2 (by have := HP1.out.rows.xl; omega))
        rw [HTK.out] at C2
        clear ho2 hb2 hr2 hn2 hc2 CC cx'
        go_wp2_with fail
        refine (C2.out).mono ?_
        rintro e w3 ⟨a3, n3, c3, rfl, ho3, hb3⟩
        have HP3 := Lib.hid ((HP2.out.next hb3).box (.cells #[.int .i64 t1, .int .i64 r1, .int .i64 q1, .slice a3 n3 c3, .int .i64 k1, .int .i64 nt1, .int .i64 nr1, .int .i64 pt1, .int .i64 pr1, .string s1, .int .i64 p1, .int .i64 v1] 28))
        have HA3 := Lib.hid (OpAt.new w3 t1 r1 q1 a3 ds1 n3 c3 k1 nt1 nr1 pt1 pr1 s1 p1 v1)
        have HO3 := Lib.hid ((ho3.mono HP2.out.bel.size).alloc (.cells #[.int .i64 t1, .int .i64 r1, .int .i64 q1, .slice a3 n3 c3, .int .i64 k1, .int .i64 nt1, .int .i64 nr1, .int .i64 pt1, .int .i64 pr1, .string s1, .int .i64 p1, .int .i64 v1] 28))
        replace HR2 := Lib.hid ((HR2.out.below hb3 (Nat.le_refl _)).alloc (.cells #[.int .i64 t1, .int .i64 r1, .int .i64 q1, .slice a3 n3 c3, .int .i64 k1, .int .i64 nt1, .int .i64 nr1, .int .i64 pt1, .int .i64 pr1, .string s1, .int .i64 p1, .int .i64 v1] 28))
        clear ho3 hb3 C2 HP2
        have cx' := HP3.out.ask.x_
        go_wp2_with fail
        generalize w3.alloc (.cells #[.int .i64 t1, .int .i64 r1, .int .i64 q1, .slice a3 n3 c3, .int .i64 k1, .int .i64 nt1, .int .i64 nr1, .int .i64 pt1, .int .i64 pr1, .string s1, .int .i64 p1, .int .i64 v1] 28) = W3 at *
        generalize w3.heap.size = g3 at *
        have C3 := Lib.hid (refTakeOp_any ax xs nx cx W3 HP3.out.rows.xl HP3.out.rows.rx HP3.out.rows.isB HP3.out.rows.xc (by have := HP3.out.rows.xl; omega))
        rw [HTK.out] at C3
        refine (C3.out).mono ?_
        rintro e w4 ⟨a5, n5, c5, rfl, ho5, hb4⟩
        have HP5 := Lib.hid ((HP3.out.next hb4).box (.cells #[.int .i64 t1, .int .i64 r1, .int .i64 q1, .slice a5 n5 c5, .int .i64 k1, .int .i64 nt1, .int .i64 nr1, .int .i64 pt1, .int .i64 pr1, .string s1, .int .i64 p1, .int .i64 v1] 28))
        have HA5 := Lib.hid (OpAt.new w4 t1 r1 q1 a5 ds1 n5 c5 k1 nt1 nr1 pt1 pr1 s1 p1 v1)
        obtain ⟨hr5, hn5, _⟩ := RowK.ofOwn ho5
        have HR5 := Lib.hid (hr5.alloc (.cells #[.int .i64 t1, .int .i64 r1, .int .i64 q1, .slice a5 n5 c5, .int .i64 k1, .int .i64 nt1, .int .i64 nr1, .int .i64 pt1, .int .i64 pr1, .string s1, .int .i64 p1, .int .i64 v1] 28))
        have HN5 := Lib.hid hn5
        replace HA3 := Lib.hid ((HA3.out.next hb4).next (box_bel w4 (.cells #[.int .i64 t1, .int .i64 r1, .int .i64 q1, .slice a5 n5 c5, .int .i64 k1, .int .i64 nt1, .int .i64 nr1, .int .i64 pt1, .int .i64 pr1, .string s1, .int .i64 p1, .int .i64 v1] 28)))
        replace HO3 := Lib.hid ((HO3.out.below hb4).alloc (.cells #[.int .i64 t1, .int .i64 r1, .int .i64 q1, .slice a5 n5 c5, .int .i64 k1, .int .i64 nt1, .int .i64 nr1, .int .i64 pt1, .int .i64 pr1, .string s1, .int .i64 p1, .int .i64 v1] 28))
        replace HR2 := Lib.hid ((HR2.out.below hb4 (Nat.le_refl _)).alloc (.cells #[.int .i64 t1, .int .i64 r1, .int .i64 q1, .slice a5 n5 c5, .int .i64 k1, .int .i64 nt1, .int .i64 nr1, .int .i64 pt1, .int .i64 pr1, .string s1, .int .i64 p1, .int .i64 v1] 28))
        clear ho5 hb4 hr5 hn5 C3 HP3 cx'
        have hee : (ee != ee) = false := by simp
        have hkk : ((kk : Int) != (kk : Int)) = false := by simp
        have CN := Lib.hid (fun W => num15_any ee W)
        go_wp2_with fail
        generalize w4.alloc (.cells #[.int .i64 t1, .int .i64 r1, .int .i64 q1, .slice a5 n5 c5, .int .i64 k1, .int .i64 nt1, .int .i64 nr1, .int .i64 pt1, .int .i64 pr1, .string s1, .int .i64 p1, .int .i64 v1] 28) = W5 at *
        generalize w4.heap.size = g5 at *
        refine (CN.out _).mono ?_
        rintro e w5 ⟨rfl, rfl⟩
        have cx' := HP5.out.ask.x_
        obtain ⟨x0, x1, x2, x3, x4, x5, x6, x7, x8, x9, x10, x11⟩ := HA3.out
        obtain ⟨y0, y1, y2, y3, y4, y5, y6, y7, y8, y9, y10, y11⟩ := HA5.out
        have CE := Lib.hid (eqOp_bel t1 r1 q1 a3 ds1 n3 c3 k1 nt1 nr1 pt1 pr1 s1 p1 v1 a5 n5 c5 W5 (RowK.ofOwn HO3.out).1 (RowK.ofOwn HO3.out).2.1 (by have := HDS.out; omega) HR5.out HN5.out)
        go_wp2_with fail
        refine (CE.out).mono ?_
        rintro e w6 ⟨rfl, hb6⟩
        have HP6 := Lib.hid (HP5.out.next hb6)
        have HA6 := Lib.hid (HA3.out.next hb6)
        have HO6 := Lib.hid (HO3.out.below hb6)
        have CQ := Lib.hid (eqB_bel a2 ax xs n2 nx c2' cx w6 (HR2.out.below hb6 (Nat.le_refl _)) HP6.out.rows.rx HN2.out HP6.out.rows.xl (by have := HP6.out.rows.xl; omega))
        clear hb6 HP5 HA3 HO3 HR2 HR5 HN5 HA5 CE cx' x0 x1 x2 x3 x4 x5 x6 x7 x8 x9 x10 x11 y0 y1 y2 y3 y4 y5 y6 y7 y8 y9 y10 y11
        have cx' := HP6.out.ask.x_
        go_wp2_with fail
        refine (CQ.out).mono ?_
        rintro e w7 ⟨rfl, hb7⟩
        have HP7 := Lib.hid (HP6.out.next hb7)
        have HO7 := Lib.hid (HO6.out.below hb7)
        obtain ⟨x0, x1, x2, x3, x4, x5, x6, x7, x8, x9, x10, x11⟩ := HA6.out.next hb7
        have CS := Lib.hid (spoilOp_any t1 r1 q1 a3 ds1 n3 c3 k1 nt1 nr1 pt1 pr1 s1 p1 v1 w.heap.size w7 HO7.out HP7.out.bel.size (by have := HDS.out; omega))
        clear hb7 HP6 HA6 HO6 CQ cx'
        go_wp2_with fail
        refine (CS.out).mono ?_
        rintro e w8 ⟨rfl, hb8⟩
        have HB8 := Lib.hid (HP7.out.bel.trans hb8)
        clear hb8 CS HP7 HO7 x0 x1 x2 x3 x4 x5 x6 x7 x8 x9 x10 x11
        go_wp2
        go_roundg (12 - (i + 1))
        case measure => omega
        case rel => exact ⟨i + 1, by go_num, by omega, by omega, HB8.out⟩
      · have hiz : decide ((i : Int) < 12) = false := decide_eq_false (by omega)
        have hiy : ¬ (i : Int) < 12 := by omega
        go_wp2_with fail
        refine (wakes_op wr HT.out).mono ?_
        rintro e w1 ⟨rfl, hb1⟩
        have HB1 := Lib.hid (HB.out.trans (hb1.mono HB.out.size))
        clear hb1
        go_wp2
        go_ret
        exact ⟨rfl, HB1.out⟩
    · have hinz : decide ((i : Int) < (n : Int)) = false := decide_eq_false (by omega)
      have hiny : ¬ (i : Int) < (n : Int) := by omega
      go_wp2_with fail
      refine (wakes_op wr HT.out).mono ?_
      rintro e w1 ⟨rfl, hb1⟩
      have HB1 := Lib.hid (HB.out.trans (hb1.mono HB.out.size))
      clear hb1
      go_wp2
      go_ret
      exact ⟨rfl, HB1.out⟩
end Go.Proofs.YtknfpildkiekcaaDoor
