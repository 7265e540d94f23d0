/- The walk of kind: OpMoves, OpStyles. -/
import Derived.Test.YtknfpildkiekcaaDoorO18
namespace Go.Proofs.YtknfpildkiekcaaDoor
open Go.RowKit Go.Lib
set_option linter.unusedVariables false

theorem isB_set {bs : List Int} {Z : Int} (j : Nat) (h : IsB bs) (hz : 0 ≤ Z ∧ Z < 256) : IsB (bs.set j Z) := fun z hm => by
  rcases List.mem_or_eq_of_mem_set hm with h1 | h1
  · exact h z h1
  · subst h1; exact hz

set_option maxHeartbeats 16000000 in
set_option maxRecDepth 100000 in
theorem kind_walk (a : Option Addr) (n cap : Nat) (kd : Int) (w : World) (ht : Pr.Tab w) (h : AsksIs w a n) :
    Calls Tryd.prog 27 #[.slice a n cap, .int .i64 kd] w (BoolPost w true) := by
  have mixed : Tryd.prog.follows .mixedOrders = true := by kernel_rfl
  have HA := Lib.hid h
  have HT0 := Lib.hid ht
  clear h ht
  go_enter Tryd.func27, Tryd.ntmps27
  go_wp2
  go_loopg [5] 12 (fun g1 v wr => ∃ i : Nat, v = .int .i64 i ∧ i ≤ 12 ∧ 12 - i ≤ g1 ∧ Hid (Below w.heap.size w wr))
  case atStart => exact ⟨0, rfl, by omega, by omega, Below.refl _ _⟩
  case round =>
    obtain ⟨i, rfl, hi12, hg1, HB⟩ := hrel
    have HT := Lib.hid (HT0.out.below HB.out HT0.out.lt)
    by_cases hin : i < n
    · have hinz : decide ((i : Int) < (n : Int)) = true := decide_eq_true (by omega)
      have hiny : (i : Int) < (n : Int) := by omega
      by_cases hi : i < 12
      · have hiz : decide ((i : Int) < 12) = true := decide_eq_true (by omega)
        have hiy : (i : Int) < 12 := by omega
        obtain ⟨b, off, t, r, q, da, ds, dn, dc, k, nt, nr, pt, pr, s, p, v, ax, xs, nx, cx, rfl, hask, hrows⟩ := HA.out i hin
        have HP : Hid (PA w wr b (off + i * 13) t r q da ds dn dc k nt nr pt pr s p v ax xs nx cx) := ⟨hask.below HB.out hask.o_.lt, hrows.below HB.out, HB.out, HT.out, hask.o_.lt⟩
        clear hask hrows
        have HV := Lib.hid (heavy_op t r q da ds dn dc k nt nr pt pr s p v ax nx cx wr)
        obtain ⟨⟨c0, c1, c2, c3, c4, c5, c6, c7, c8, c9, c10, c11⟩, cx'⟩ := HP.out.ask
        go_wp2_with fail
        refine (HV.out).mono ?_
        rintro e w1 ⟨hv, rfl, hnx, hb1⟩
        have HP1 := Lib.hid (HP.out.next hb1)
        have HNX3 := Lib.hid hnx
        clear hb1 HV hnx c0 c1 c2 c3 c4 c5 c6 c7 c8 c9 c10 c11 cx'
        cases hv
        case true =>
          go_wp2
          go_ret
          exact ⟨rfl, HP1.out.bel⟩
        have hnx3 := HNX3.out rfl
        clear HNX3
        obtain ⟨⟨c0, c1, c2, c3, c4, c5, c6, c7, c8, c9, c10, c11⟩, cx'⟩ := HP1.out.ask
        have HP2 := Lib.hid (HP1.out.box (.cells #[.int .i64 t, .int .i64 r, .int .i64 q, .slice da dn dc, .int .i64 k, .int .i64 nt, .int .i64 nr, .int .i64 pt, .int .i64 pr, .string s, .int .i64 p, .int .i64 v] 28))
        have HA2 := Lib.hid (OpAt.new w1 t r q da ds dn dc k nt nr pt pr s p v)
        by_cases hk : k = kd
        · subst hk
          have hkk : (k != k) = false := by simp
          go_wp2_with fail
          clear c0 c1 c2 c3 c4 c5 c6 c7 c8 c9 c10 c11 cx'
          generalize w1.alloc (.cells #[.int .i64 t, .int .i64 r, .int .i64 q, .slice da dn dc, .int .i64 k, .int .i64 nt, .int .i64 nr, .int .i64 pt, .int .i64 pr, .string s, .int .i64 p, .int .i64 v] 28) = W2 at *
          generalize w1.heap.size = g2 at *
          obtain ⟨c0, c1, c2, c3, c4, c5, c6, c7, c8, c9, c10, c11⟩ := HA2.out
          have CR := Lib.hid (refOp_any t r q da ds dn dc k nt nr pt pr s p v W2 HP2.out.rows.rd HP2.out.rows.dl (by have := HP2.out.rows.dm; omega))
          cases hok : opB t r q ds k nt nr pt pr s p v
          · -- MA
            rw [hok] at CR
            refine (CR.out).mono ?_
            rintro e w3 ⟨rfl, hb3⟩
            have HP3 := Lib.hid (HP2.out.next hb3)
            clear hb3
            go_wp2
            go_roundg (12 - (i + 1))
            case measure => omega
            case rel => exact ⟨i + 1, by go_num, by omega, by omega, HP3.out.bel⟩
          · -- MB
            rw [hok] at CR
            refine (CR.out).mono ?_
            rintro e w3 ⟨rfl, hb3⟩
            have HP3 := Lib.hid (HP2.out.next hb3)
            have HA3 := Lib.hid (HA2.out.next hb3)
            clear hb3 CR c0 c1 c2 c3 c4 c5 c6 c7 c8 c9 c10 c11
            obtain ⟨c0, c1, c2, c3, c4, c5, c6, c7, c8, c9, c10, c11⟩ := HA3.out
            have C1 := Lib.hid (opBytes_yes t r q da ds dn dc k nt nr pt pr s p v w3 HP3.out.tab HP3.out.rows.rd HP3.out.rows.dl (by have := HP3.out.rows.dm; omega) hok)
            have HLN := Lib.hid (encO_len hok)
            have HIB := Lib.hid (encO_isB t r ds k nt nr pt pr s p v)
            have HTK : Hid (tkO (encO t r ds k nt nr pt pr s p v) = (⟨t, r, ds, k, nt, nr, pt, pr, s, p, v⟩, q, (encO t r ds k nt nr pt pr s p v).length, 0)) := by
              have := tkO_enc (R := ⟨t, r, ds, k, nt, nr, pt, pr, s, p, v⟩) (q := q) hok []
              rw [List.append_nil] at this
              exact this
            have HRB := Lib.hid (fun W hr => refOpBytes_any t r q da ds dn dc k nt nr pt pr s p v W hr HP3.out.rows.dl hok)
            clear hok
            generalize encO t r ds k nt nr pt pr s p v = bs at *
            go_wp2_with fail
            refine (C1.out).mono ?_
            rintro e w4 ⟨v4, rfl, ho4, hb4⟩
            obtain ⟨a4, n4, c4', rfl, hn4, hr4, hc4⟩ := ho4.form'
            have HP4 := Lib.hid (HP3.out.next hb4)
            have HA4 := Lib.hid (HA3.out.next hb4)
            have HR4 := Lib.hid hr4
            have HN4 := Lib.hid hn4
            have C2 := Lib.hid (opTake_any a4 bs n4 c4' w4 HP4.out.tab hn4 hr4 HIB.out hc4 (by have := HLN.out; omega))
            rw [HTK.out, ← hn4] at C2
            clear ho4 hb4 hr4 hn4 hc4 C1 c0 c1 c2 c3 c4 c5 c6 c7 c8 c9 c10 c11
            go_wp2_with fail
            refine (C2.out).mono ?_
            rintro e w5 ⟨a5, n5, c5, rfl, ho5, hb5⟩
            obtain ⟨hr5, hn5, _⟩ := RowK.ofOwn ho5
            have HP5 := Lib.hid ((HP4.out.next hb5).box (.cells #[.int .i64 t, .int .i64 r, .int .i64 q, .slice a5 n5 c5, .int .i64 k, .int .i64 nt, .int .i64 nr, .int .i64 pt, .int .i64 pr, .string s, .int .i64 p, .int .i64 v] 28))
            have HA5 := Lib.hid ((HA4.out.next hb5).next (box_bel w5 (.cells #[.int .i64 t, .int .i64 r, .int .i64 q, .slice a5 n5 c5, .int .i64 k, .int .i64 nt, .int .i64 nr, .int .i64 pt, .int .i64 pr, .string s, .int .i64 p, .int .i64 v] 28)))
            have HX5 := Lib.hid (OpAt.new w5 t r q a5 ds n5 c5 k nt nr pt pr s p v)
            have HN5 := Lib.hid hn5
            have HR5 := Lib.hid (hr5.alloc (.cells #[.int .i64 t, .int .i64 r, .int .i64 q, .slice a5 n5 c5, .int .i64 k, .int .i64 nt, .int .i64 nr, .int .i64 pt, .int .i64 pr, .string s, .int .i64 p, .int .i64 v] 28))
            replace HR4 := Lib.hid ((HR4.out.below hb5 (Nat.le_refl _)).alloc (.cells #[.int .i64 t, .int .i64 r, .int .i64 q, .slice a5 n5 c5, .int .i64 k, .int .i64 nt, .int .i64 nr, .int .i64 pt, .int .i64 pr, .string s, .int .i64 p, .int .i64 v] 28))
            clear ho5 hb5 hr5 hn5 C2
            have CN := Lib.hid (fun W => num15_any 0 W)
            have hnn : ((n4 : Int) != (n4 : Int)) = false := by simp
            go_wp2_with fail
            generalize w5.alloc (.cells #[.int .i64 t, .int .i64 r, .int .i64 q, .slice a5 n5 c5, .int .i64 k, .int .i64 nt, .int .i64 nr, .int .i64 pt, .int .i64 pr, .string s, .int .i64 p, .int .i64 v] 28) = W5 at *
            generalize w5.heap.size = g5 at *
            refine (CN.out _).mono ?_
            rintro e w5' ⟨rfl, rfl⟩
            go_wp2_with fail
            refine (CN.out _).mono ?_
            rintro e w5' ⟨rfl, rfl⟩
            obtain ⟨c0, c1, c2, c3, c4, c5', c6, c7, c8, c9, c10, c11⟩ := HA5.out
            obtain ⟨y0, y1, y2, y3, y4, y5, y6, y7, y8, y9, y10, y11⟩ := HX5.out
            have CE := Lib.hid (eqOp_bel t r q a5 ds n5 c5 k nt nr pt pr s p v da dn dc W5 HR5.out HN5.out (by have := HP5.out.rows.dm; omega) HP5.out.rows.rd HP5.out.rows.dl)
            go_wp2_with fail
            refine (CE.out).mono ?_
            rintro e w6 ⟨rfl, hb6⟩
            have HP6 := Lib.hid (HP5.out.next hb6)
            have HA6 := Lib.hid (HA5.out.next hb6)
            replace HR4 := Lib.hid (HR4.out.below hb6 (Nat.le_refl _))
            clear hb6 CE c0 c1 c2 c3 c4 c5' c6 c7 c8 c9 c10 c11 y0 y1 y2 y3 y4 y5 y6 y7 y8 y9 y10 y11
            obtain ⟨c0, c1, c2, c3, c4, c5', c6, c7, c8, c9, c10, c11⟩ := HA6.out
            go_wp2_with fail
            refine (HRB.out _ HP6.out.rows.rd).mono ?_
            rintro e w6b ⟨v6, rfl, ho6, hb6⟩
            obtain ⟨a6, n6, c6', rfl, hn6, hr6, hc6⟩ := ho6.form'
            have HP7 := Lib.hid (HP6.out.next hb6)
            replace HR4 := Lib.hid (HR4.out.below hb6 (Nat.le_refl _))
            have CQ := Lib.hid (eqB_bel a4 a6 bs n4 n6 c4' c6' w6b HR4.out hr6 HN4.out hn6 (by have := HLN.out; omega))
            clear ho6 hb6 hn6 hr6 hc6 c0 c1 c2 c3 c4 c5' c6 c7 c8 c9 c10 c11
            go_wp2_with fail
            refine (CQ.out).mono ?_
            rintro e w6c ⟨rfl, hb6⟩
            have HP8 := Lib.hid (HP7.out.next hb6)
            replace HR4 := Lib.hid (HR4.out.below hb6 (Nat.le_refl _))
            clear hb6 CQ HRB HP3 HP4 HP5 HP6 HP7 HA3 HA4 HA5 HA6 HX5 HR5 HN5 HA2
            go_wp2
            go_loopg [12] n4 (fun g2 v wi => ∃ j : Nat, v = .int .i64 j ∧ j ≤ n4 ∧ n4 - j ≤ g2 ∧ Hid (Below w.heap.size w wi ∧ RowK .u8 wi a4 bs))
            case atStart => exact ⟨0, rfl, by omega, by omega, ⟨HP8.out.bel, HR4.out⟩⟩
            case round =>
              clear HP8 HR4
              obtain ⟨j, rfl, hj4, hg2, HI⟩ := hrel
              have HTi := Lib.hid (HT0.out.below HI.out.1 HT0.out.lt)
              by_cases hj : j < n4
              · have hjz : decide ((j : Int) < (n4 : Int)) = true := decide_eq_true (by omega)
                have hjy : (j : Int) < (n4 : Int) := by omega
                have CC := Lib.hid (copyB_any a4 bs n4 c4' wr HI.out.2 HN4.out (by have := HLN.out; omega))
                go_wp2_with fail
                refine (CC.out).mono ?_
                rintro e w7 ⟨v7, rfl, ho7, hb7⟩
                obtain ⟨gy, cy, rfl⟩ : ∃ gy cy, v7 = .slice (some ⟨gy, 0, none⟩) n4 cy := by
                  have h4 := HN4.out
                  rcases ho7.2 with ⟨rfl, h0⟩ | ⟨g, cap, cs, rfl, hg, hh, _⟩
                  · omega
                  · exact ⟨g, cap, by rw [h4]⟩
                obtain ⟨yc, yf, hgy, hgl⟩ := ho7.cellAt HN4.out.symm j hj
                have HB7 := Lib.hid hb7
                have HO7 := Lib.hid ho7
                have HGY := Lib.hid hgy
                clear ho7 hb7 CC hgy
                have hij : (i : Int) + (j : Int) ≤ 1000 := by have := HLN.out; have := HN4.out; omega
                have HW : Hid (∀ W, Calls Tryd.prog 52 #[.int .i64 ((i : Int) + (j : Int)), .int .i64 255] W fun e w' => e = .returned (.int .i64 (Ky.modN ((i : Int) + (j : Int)) 255 : Nat)) ∧ W = w') := fun W => Ky.withinN_any _ 255 W (by omega) (by omega)
                have hml := Ky.modN_lt ((i : Int) + (j : Int)) (n := 255) (by omega)
                generalize Ky.modN ((i : Int) + (j : Int)) 255 = m at *
                generalize bs.getD j 0 = x at *
                have hcv : IntKind.u8.wrap (1 + (m : Int)) = 1 + (m : Int) := by rw [IntKind.wrap_u8]; omega
                have hwf := wf_bits .xor .u8 x (1 + (m : Int))
                obtain ⟨Z, hZ⟩ : ∃ Z, bits .xor .u8 x (1 + (m : Int)) = Z := ⟨_, rfl⟩
                rw [hZ] at hwf
                have HZ : Hid (0 ≤ Z ∧ Z < 256) := by simp [Lit.wf, IntKind.min, IntKind.max, IntKind.signed, IntKind.bits] at hwf; exact ⟨hwf.1, by omega⟩
                have hwi : IntKind.i64.wrap ((i : Int) + (j : Int)) = (i : Int) + (j : Int) := IntWalk.i64_in _ (by omega)
                have hwm : IntKind.i64.wrap (1 + (m : Int)) = 1 + (m : Int) := IntWalk.i64_in _ (by omega)
                have HO8 : Hid (OwnK .u8 5 (w7.setCell ⟨gy, j, none⟩ (.int .u8 Z)).drew wr.heap.size (.slice (some ⟨gy, 0, none⟩) n4 cy) (bs.set j Z)) := HO7.out.stored HN4.out.symm j Z
                have HB8 : Hid (Below wr.heap.size wr (w7.setCell ⟨gy, j, none⟩ (.int .u8 Z)).drew) := (HB7.out.setCell (p := ⟨gy, j, none⟩) HGY.out (.int .u8 Z)).drew
                clear hwf
                go_wp2_with fail
                go_region_with (first
                  | (go_at_call 52
                     (with_reducible refine (HW.out _).mono ?_)
                     rintro e w8 ⟨rfl, rfl⟩))
                all_goals (
                  go_wp2_with fail
                  generalize (w7.setCell ⟨gy, j, none⟩ (.int .u8 Z)).drew = W8 at *
                  obtain ⟨hr8, hn8, hc8⟩ := RowK.ofOwn HO8.out
                  have HIS := Lib.hid (isB_set j HIB.out HZ.out)
                  have HLS : Hid ((bs.set j Z).length ≤ 918) := (by rw [List.length_set]; exact HLN.out : (bs.set j Z).length ≤ 918)
                  have HR8 := Lib.hid hr8
                  have HN8 := Lib.hid hn8
                  have HCY := Lib.hid hc8
                  clear hr8 hn8 hc8 HO8
                  generalize bs.set j Z = ys at *
                  obtain ⟨⟨⟨t1, r1, ds1, k1, nt1, nr1, pt1, pr1, s1, p1, v1⟩, q1, kk, ee⟩, hT⟩ : ∃ Z, tkO ys = Z := ⟨_, rfl⟩
                  have HTK1 := Lib.hid hT
                  have HDS : Hid (ds1.length ≤ 16) := by have h := tkO_ds HIS.out; rw [hT] at h; exact h
                  have HT8 := Lib.hid (HTi.out.below HB8.out HTi.out.lt)
                  have C2 := Lib.hid (opTake_any (some ⟨gy, 0, none⟩) ys n4 cy W8 HT8.out HN8.out HR8.out HIS.out HCY.out (by have := HLS.out; omega))
                  rw [HTK1.out] at C2
                  clear hT HO7 HW hcv hwi hwm hZ yc yf HB7
                  refine (C2.out).mono ?_
                  rintro e w9 ⟨a9, n9, c9', rfl, ho9, hb9⟩
                  obtain ⟨hr9, hn9, _⟩ := RowK.ofOwn ho9
                  have HB9 := Lib.hid ((HB8.out.trans (hb9.mono HB8.out.size)).trans ((box_bel w9 (.cells #[.int .i64 t1, .int .i64 r1, .int .i64 q1, .slice a9 n9 c9', .int .i64 k1, .int .i64 nt1, .int .i64 nr1, .int .i64 pt1, .int .i64 pr1, .string s1, .int .i64 p1, .int .i64 v1] 28)).mono (Nat.le_trans HB8.out.size hb9.size)))
                  have HA9 := Lib.hid (OpAt.new w9 t1 r1 q1 a9 ds1 n9 c9' k1 nt1 nr1 pt1 pr1 s1 p1 v1)
                  have HR9 := Lib.hid (hr9.alloc (.cells #[.int .i64 t1, .int .i64 r1, .int .i64 q1, .slice a9 n9 c9', .int .i64 k1, .int .i64 nt1, .int .i64 nr1, .int .i64 pt1, .int .i64 pr1, .string s1, .int .i64 p1, .int .i64 v1] 28))
                  have HN9 := Lib.hid hn9
                  replace HR8 := Lib.hid ((HR8.out.below hb9 (Nat.le_refl _)).alloc (.cells #[.int .i64 t1, .int .i64 r1, .int .i64 q1, .slice a9 n9 c9', .int .i64 k1, .int .i64 nt1, .int .i64 nr1, .int .i64 pt1, .int .i64 pr1, .string s1, .int .i64 p1, .int .i64 v1] 28))
                  clear ho9 hb9 hr9 hn9 C2 HB8
                  go_wp2_with fail
                  generalize w9.alloc (.cells #[.int .i64 t1, .int .i64 r1, .int .i64 q1, .slice a9 n9 c9', .int .i64 k1, .int .i64 nt1, .int .i64 nr1, .int .i64 pt1, .int .i64 pr1, .string s1, .int .i64 p1, .int .i64 v1] 28) = W9 at *
                  generalize w9.heap.size = g9 at *
                  have HS9 := Lib.hid HB9.out.size
                  have C3 := Lib.hid (refTakeOp_any (some ⟨gy, 0, none⟩) ys n4 cy W9 HN8.out HR8.out HIS.out HCY.out (by have := HLS.out; omega))
                  rw [HTK1.out] at C3
                  refine (C3.out).mono ?_
                  rintro e w10 ⟨a5', n5', c5'', rfl, ho5, hb10⟩
                  obtain ⟨hr5, hn5, _⟩ := RowK.ofOwn ho5
                  have HB10 := Lib.hid ((HB9.out.trans (hb10.mono HS9.out)).trans ((box_bel w10 (.cells #[.int .i64 t1, .int .i64 r1, .int .i64 q1, .slice a5' n5' c5'', .int .i64 k1, .int .i64 nt1, .int .i64 nr1, .int .i64 pt1, .int .i64 pr1, .string s1, .int .i64 p1, .int .i64 v1] 28)).mono (Nat.le_trans HS9.out hb10.size)))
                  have HA10 := Lib.hid (OpAt.new w10 t1 r1 q1 a5' ds1 n5' c5'' k1 nt1 nr1 pt1 pr1 s1 p1 v1)
                  have HR10 := Lib.hid (hr5.alloc (.cells #[.int .i64 t1, .int .i64 r1, .int .i64 q1, .slice a5' n5' c5'', .int .i64 k1, .int .i64 nt1, .int .i64 nr1, .int .i64 pt1, .int .i64 pr1, .string s1, .int .i64 p1, .int .i64 v1] 28))
                  have HN10 := Lib.hid hn5
                  replace HA9 := Lib.hid ((HA9.out.next hb10).next (box_bel w10 (.cells #[.int .i64 t1, .int .i64 r1, .int .i64 q1, .slice a5' n5' c5'', .int .i64 k1, .int .i64 nt1, .int .i64 nr1, .int .i64 pt1, .int .i64 pr1, .string s1, .int .i64 p1, .int .i64 v1] 28)))
                  replace HR9 := Lib.hid ((HR9.out.below hb10 (Nat.le_refl _)).alloc (.cells #[.int .i64 t1, .int .i64 r1, .int .i64 q1, .slice a5' n5' c5'', .int .i64 k1, .int .i64 nt1, .int .i64 nr1, .int .i64 pt1, .int .i64 pr1, .string s1, .int .i64 p1, .int .i64 v1] 28))
                  clear ho5 hb10 hr5 hn5 C3 HB9 HS9
                  have hee : (ee != ee) = false := by simp
                  have hkk2 : ((kk : Int) != (kk : Int)) = false := by simp
                  have CN2 := Lib.hid (fun W => num15_any ee W)
                  go_wp2_with fail
                  generalize w10.alloc (.cells #[.int .i64 t1, .int .i64 r1, .int .i64 q1, .slice a5' n5' c5'', .int .i64 k1, .int .i64 nt1, .int .i64 nr1, .int .i64 pt1, .int .i64 pr1, .string s1, .int .i64 p1, .int .i64 v1] 28) = W10 at *
                  generalize w10.heap.size = g10 at *
                  refine (CN2.out _).mono ?_
                  rintro e w5 ⟨rfl, rfl⟩
                  obtain ⟨x0, x1, x2, x3, x4, x5, x6, x7, x8, x9, x10, x11⟩ := HA9.out
                  obtain ⟨y0, y1, y2, y3, y4, y5, y6, y7, y8, y9, y10, y11⟩ := HA10.out
                  have CE := Lib.hid (eqOp_bel t1 r1 q1 a9 ds1 n9 c9' k1 nt1 nr1 pt1 pr1 s1 p1 v1 a5' n5' c5'' W10 HR9.out HN9.out (by have := HDS.out; omega) HR10.out HN10.out)
                  go_wp2_with fail
                  refine (CE.out).mono ?_
                  rintro e w11 ⟨rfl, hb11⟩
                  have HB11 := Lib.hid (HB10.out.trans (hb11.mono HB10.out.size))
                  clear hb11 CE x0 x1 x2 x3 x4 x5 x6 x7 x8 x9 x10 x11 y0 y1 y2 y3 y4 y5 y6 y7 y8 y9 y10 y11 HA9 HA10 HR9 HR10 HN9 HN10
                  go_wp2
                  go_roundg (n4 - (j + 1))
                  case measure => omega
                  case rel => exact ⟨j + 1, by go_num, by omega, by omega, ⟨HI.out.1.trans (HB11.out.mono HI.out.1.size), HI.out.2.below HB11.out (Nat.le_refl _)⟩⟩)
              · have hjz : decide ((j : Int) < (n4 : Int)) = false := decide_eq_false (by omega)
                have hjy : ¬ (j : Int) < (n4 : Int) := by omega
                go_wp2
                go_roundg (12 - (i + 1))
                case measure => omega
                case rel => exact ⟨i + 1, by go_num, by omega, by omega, HI.out.1⟩
        · -- MC
          have hkk : (k != kd) = true := by simpa using hk
          go_wp2
          go_roundg (12 - (i + 1))
          case measure => omega
          case rel => exact ⟨i + 1, by go_num, by omega, by omega, HP2.out.bel⟩
      · have hiz : decide ((i : Int) < 12) = false := decide_eq_false (by omega)
        have hiy : ¬ (i : Int) < 12 := by omega
        go_wp2_with fail
        refine (wakes_op wr HT.out).mono ?_
        rintro e w1 ⟨rfl, hb1⟩
        have HB1 := Lib.hid (HB.out.trans (hb1.mono HB.out.size))
        clear hb1
        go_wp2
        go_ret
        exact ⟨rfl, HB1.out⟩
    · have hinz : decide ((i : Int) < (n : Int)) = false := decide_eq_false (by omega)
      have hiny : ¬ (i : Int) < (n : Int) := by omega
      go_wp2_with fail
      refine (wakes_op wr HT.out).mono ?_
      rintro e w1 ⟨rfl, hb1⟩
      have HB1 := Lib.hid (HB.out.trans (hb1.mono HB.out.size))
      clear hb1
      go_wp2
      go_ret
      exact ⟨rfl, HB1.out⟩

set_option maxHeartbeats 400000 in
theorem opMoves_walk (a : Option Addr) (n cap : Nat) (w : World) (ht : Pr.Tab w) (h : AsksIs w a n) : Calls Tryd.prog 8 #[.slice a n cap] w (BoolPost w true) := by
  have C := Lib.hid (kind_walk a n cap 1 w ht h)
  clear ht h
  go_enter Tryd.func8, Tryd.ntmps8
  go_wp2_with fail
  refine (C.out).mono ?_
  rintro e w1 ⟨rfl, hb⟩
  have HB := Lib.hid hb
  clear hb
  go_wp2
  go_ret
  exact ⟨rfl, HB.out⟩

set_option maxHeartbeats 400000 in
theorem opStyles_walk (a : Option Addr) (n cap : Nat) (w : World) (ht : Pr.Tab w) (h : AsksIs w a n) : Calls Tryd.prog 9 #[.slice a n cap] w (BoolPost w true) := by
  have C := Lib.hid (kind_walk a n cap 2 w ht h)
  clear ht h
  go_enter Tryd.func9, Tryd.ntmps9
  go_wp2_with fail
  refine (C.out).mono ?_
  rintro e w1 ⟨rfl, hb⟩
  have HB := Lib.hid hb
  clear hb
  go_wp2
  go_ret
  exact ⟨rfl, HB.out⟩
end Go.Proofs.YtknfpildkiekcaaDoor
