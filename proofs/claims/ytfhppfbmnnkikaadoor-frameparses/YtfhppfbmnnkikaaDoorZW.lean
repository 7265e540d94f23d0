/- Joined: G20. -/
import Derived.Test.YtfhppfbmnnkikaaDoorZM
import Derived.Lib.QuietBelow
import Derived.BigRegion

/- What is held of an ask; the walk of FrameBack. -/
namespace Go.Proofs.YtfhppfbmnnkikaaDoor
open Go.RowKit Go.Lib
set_option linter.unusedVariables false

/-- what is held of an ask -/
structure PF (w W : World) (b o : Nat) (fr tu k : Int) (ha : Option Addr) (hs : List Int) (hn hc : Nat) (oa : Option Addr) (os : List OpD) (on oc : Nat) (ax : Option Addr) (xs : List Int) (nx cx : Nat) : Prop where
  ask : AskF W b o fr tu k ha hn hc oa on oc ax nx cx
  rows : FrR W ha hs hn oa os on
  xr : AskX W ax xs nx cx
  bel : Below w.heap.size w W
  tab : Pr.Tab W
  lt : b < w.heap.size
section
variable {w W W' : World} {b o : Nat} {fr tu k : Int} {ha : Option Addr} {hs : List Int} {hn hc : Nat} {oa : Option Addr} {os : List OpD} {on oc : Nat} {ax : Option Addr} {xs : List Int} {nx cx : Nat}
theorem PF.next (h : PF w W b o fr tu k ha hs hn hc oa os on oc ax xs nx cx) (hb : Below W.heap.size W W') : PF w W' b o fr tu k ha hs hn hc oa os on oc ax xs nx cx :=
  ⟨h.ask.below hb h.ask.f_.lt, h.rows.below hb, h.xr.below hb, h.bel.trans (hb.mono h.bel.size), h.tab.below hb h.tab.lt, h.lt⟩
theorem PF.box (h : PF w W b o fr tu k ha hs hn hc oa os on oc ax xs nx cx) (ob : Obj) : PF w (W.alloc ob) b o fr tu k ha hs hn hc oa os on oc ax xs nx cx := h.next (box_bel W ob)
theorem PF.over (h : PF w W b o fr tu k ha hs hn hc oa os on oc ax xs nx cx) (h0 : PF w w b o fr tu k ha hs hn hc oa os on oc ax xs nx cx) (hb : Below w.heap.size W W') : PF w W' b o fr tu k ha hs hn hc oa os on oc ax xs nx cx :=
  ⟨h.ask.below hb h.lt, h0.rows.below (h.bel.trans hb), h0.xr.below (h.bel.trans hb), h.bel.trans hb, h0.tab.below (h.bel.trans hb) h0.tab.lt, h.lt⟩
end
theorem flip_ne {z : Int} (h0 : 0 ≤ z) (h1 : z < 256) {m : Nat} (hm : m < 8) : 0 ≤ bits .xor .u8 z (2 ^ m % 256) ∧ bits .xor .u8 z (2 ^ m % 256) < 256 ∧ bits .xor .u8 z (2 ^ m % 256) ≠ z := by
  have hp : (2 : Nat) ^ m < 256 := Nat.pow_lt_pow_right (a := 2) (by omega) (show m < 8 from hm)
  have hq : 0 < (2 : Nat) ^ m := Nat.pos_of_ne_zero (by simp)
  have e : (2 : Int) ^ m % 256 = (((2 : Nat) ^ m : Nat) : Int) := by
    rw [Int.natCast_pow]
    have : ((2 : Int) ^ m) = (((2 : Nat) ^ m : Nat) : Int) := by rw [Int.natCast_pow]; rfl
    rw [this]
    omega
  rw [e, u8_xor z _ h0 h1 (by omega) (by omega), Int.toNat_natCast]
  have hx := Nat.xor_lt_two_pow (n := 8) (show z.toNat < 2 ^ 8 by omega) (show (2 : Nat) ^ m < 2 ^ 8 by omega)
  refine ⟨by omega, by omega, fun h => ?_⟩
  have h3 : z.toNat ^^^ 2 ^ m = z.toNat := by omega
  have h4 : z.toNat ^^^ (z.toNat ^^^ 2 ^ m) = z.toNat ^^^ z.toNat := by rw [h3]
  rw [← Nat.xor_assoc, Nat.xor_self, Nat.zero_xor] at h4
  omega
/-- behind Bytes: the bytes too -/
structure KI (w W : World) (b o : Nat) (fr tu k : Int) (ha : Option Addr) (hs : List Int) (hn hc : Nat) (oa : Option Addr) (os : List OpD) (on oc : Nat) (ax : Option Addr) (xs : List Int) (nx cx : Nat) (a3 : Option Addr) (bs : List Int) : Prop where
  pf : PF w W b o fr tu k ha hs hn hc oa os on oc ax xs nx cx
  row : RowK .u8 W a3 bs
theorem KI.next {w W W' : World} {b o : Nat} {fr tu k : Int} {ha : Option Addr} {hs : List Int} {hn hc : Nat} {oa : Option Addr} {os : List OpD} {on oc : Nat} {ax : Option Addr} {xs : List Int} {nx cx : Nat} {a3 : Option Addr} {bs : List Int} (h : KI w W b o fr tu k ha hs hn hc oa os on oc ax xs nx cx a3 bs) (hb : Below W.heap.size W W') : KI w W' b o fr tu k ha hs hn hc oa os on oc ax xs nx cx a3 bs := ⟨h.pf.next hb, h.row.below hb (Nat.le_refl _)⟩
set_option maxHeartbeats 8000000 in
set_option maxRecDepth 100000 in
theorem frameBack_walk (a : Option Addr) (n cap : Nat) (w : World) (ht : Pr.Tab w) (h : AsksF w a n) :
    Calls Tryd.prog 6 #[.slice a n cap] w (BoolPost w true) := by
  have mixed : Tryd.prog.follows .mixedOrders = true := by kernel_rfl
  have HA := Lib.hid h
  have HT0 := Lib.hid ht
  have HNUM := Lib.hid (fun z W => num18_any z W)
  clear h ht
  go_enter Tryd.func6, Tryd.ntmps6
  go_wp2
  go_loopg [3] 8 (fun g1 v wr => ∃ i : Nat, v = .int .i64 i ∧ i ≤ 8 ∧ 8 - i ≤ g1 ∧ Hid (Below w.heap.size w wr))
  case atStart => exact ⟨0, rfl, by omega, by omega, Below.refl _ _⟩
  case round =>
    obtain ⟨i, rfl, hi12, hg1, HB⟩ := hrel
    have HT := Lib.hid (HT0.out.below HB.out HT0.out.lt)
    by_cases hin : i < n
    · have hinz : decide ((i : Int) < (n : Int)) = true := decide_eq_true (by omega)
      have hiny : (i : Int) < (n : Int) := by omega
      by_cases hi : i < 8
      · have hiz : decide ((i : Int) < 8) = true := decide_eq_true (by omega)
        have hiy : (i : Int) < 8 := by omega
        obtain ⟨b, off, fr, tu, k, ha, hs, hn, hc, oa, os, on, oc, ax, xs, nx, cx, rfl, hask, hrows, hx⟩ := HA.out i hin
        have HP0 : Hid (PF w w b (off + i * 6) fr tu k ha hs hn hc oa os on oc ax xs nx cx) := ⟨hask, hrows, hx, Below.refl _ _, HT0.out, hask.f_.lt⟩
        have HP : Hid (PF w wr b (off + i * 6) fr tu k ha hs hn hc oa os on oc ax xs nx cx) := HP0.out.next HB.out
        clear hask hrows hx
        have HV := Lib.hid (heavyF_any fr tu k ha hs hn hc oa os on oc ax nx cx wr HP.out.rows)
        obtain ⟨⟨c0, c1, c2, c3, c4⟩, c5⟩ := HP.out.ask
        go_wp2_with fail
        refine (HV.out).mono ?_
        rintro e w1 ⟨hv, rfl, hnx, hb1⟩
        have HP1 := Lib.hid (HP.out.next hb1)
        have HNX3 := Lib.hid hnx
        clear hb1 HV hnx c0 c1 c2 c3 c4 c5
        cases hv
        case true =>
          go_wp2
          go_ret
          exact ⟨rfl, HP1.out.bel⟩
        have hnx3 := HNX3.out rfl
        clear HNX3
        obtain ⟨⟨c0, c1, c2, c3, c4⟩, c5⟩ := HP1.out.ask
        cases hok : frB fr tu k hs os with
        | false =>
          -- MA
          have C17 := Lib.hid (frBytes_no fr tu k ha hs hn hc oa os on oc w1 HP1.out.tab HP1.out.rows hok)
          clear hok
          go_wp2_with fail
          refine (C17.out).mono ?_
          rintro e w2 ⟨v2, rfl, ho2, hb2⟩
          have HP2 := Lib.hid (HP1.out.next hb2)
          clear ho2 hb2 C17 c0 c1 c2 c3 c4 c5
          go_wp2_with fail
          refine (HNUM.out 1 _).mono ?_
          rintro e w' ⟨rfl, rfl⟩
          go_wp2_with fail
          go_roundg (8 - (i + 1))
          case measure => omega
          case rel => exact ⟨i + 1, by go_num, by omega, by omega, HP2.out.bel⟩
        | true =>
          have C17 := Lib.hid (frBytes_yes fr tu k ha hs hn hc oa os on oc w1 HP1.out.tab HP1.out.rows hok)
          have HOK : Hid ((⟨fr, tu, k, hs, os⟩ : FrD).ok = true) := hok
          have HLN := Lib.hid (byF_len hok)
          obtain ⟨bs, hbs⟩ : ∃ l, byF fr tu k hs os = l := ⟨_, rfl⟩
          have HBS : Hid ((⟨fr, tu, k, hs, os⟩ : FrD).by = bs) := hbs
          have HISB : Hid (IsB bs) := by show IsB bs; rw [← hbs]; exact byF_isB _ _ _ _ _
          have HPRS : Hid (prsF bs = (⟨fr, tu, k, hs, os⟩, 0)) := by show _ = _; rw [← hbs]; exact prsF_by (F := ⟨fr, tu, k, hs, os⟩) hok
          rw [hbs] at C17 HLN
          clear hok hbs
          go_wp2_with fail
          refine (C17.out).mono ?_
          rintro e w2 ⟨v2, rfl, ho2, hb2⟩
          obtain ⟨a3, n3, c3', rfl, hn3, hr3, hc3⟩ := ho2.form'
          have HK2 : Hid (KI w w2 b (off + i * 6) fr tu k ha hs hn hc oa os on oc ax xs nx cx a3 bs) := ⟨HP1.out.next hb2, hr3⟩
          have HN3 := Lib.hid hn3
          have HC3 := Lib.hid hc3
          have hn3b : n3 ≤ 29416 := by have := HLN.out; omega
          clear ho2 hb2 C17 c0 c1 c2 c3 c4 c5 hn3 hr3 hc3
          go_wp2_with fail
          refine (HNUM.out 0 _).mono ?_
          rintro e w' ⟨rfl, rfl⟩
          have C25 := Lib.hid (parse_any a3 bs n3 c3' w2 HK2.out.pf.tab HN3.out HK2.out.row HISB.out HC3.out (by have := HLN.out; omega))
          rw [HPRS.out] at C25
          go_wp2_with fail
          refine (C25.out).mono ?_
          rintro e w4 ⟨h4, o4, dl4, rfl, hF4, hb4, -⟩
          obtain ⟨ha4, hn4, hc4, oa4, on4, oc4, rfl, rfl, hR4⟩ := hF4.read
          simp only at hR4
          have HK5 := Lib.hid ((HK2.out.next hb4).next (box_bel w4 (.cells #[.int .i64 fr, .int .i64 tu, .int .i64 k, .slice ha4 hn4 hc4, .slice oa4 on4 oc4] 40)))
          have HR5 := Lib.hid (hR4.below (box_bel w4 (.cells #[.int .i64 fr, .int .i64 tu, .int .i64 k, .slice ha4 hn4 hc4, .slice oa4 on4 oc4] 40)))
          have HA5 := Lib.hid (FrAt.new w4 fr tu k ha4 hn4 hc4 oa4 on4 oc4)
          clear hF4 hb4 hR4 C25 HK2
          simp only
          have k21 : St.RegrownTo (w4.alloc (.cells #[.int .i64 fr, .int .i64 tu, .int .i64 k, .slice ha4 hn4 hc4, .slice oa4 on4 oc4] 40)) 21 #[.agg #[.int .i64 fr, .int .i64 tu, .int .i64 k, .slice ha4 hn4 hc4, .slice oa4 on4 oc4], .agg #[.int .i64 fr, .int .i64 tu, .int .i64 k, .slice ha hn hc, .slice oa on oc]] (.bool true) := regrown_at fun W hb => eqFrame_yes fr tu k ha4 hs hn4 hc4 oa4 os on4 oc4 ha hn hc oa on oc W (HR5.out.below hb) (HK5.out.pf.rows.below hb)
          have k18 : St.RegrownTo (w4.alloc (.cells #[.int .i64 fr, .int .i64 tu, .int .i64 k, .slice ha4 hn4 hc4, .slice oa4 on4 oc4] 40)) 18 #[.int .i64 0] (.int .i64 0) := St.regrown_same fun W => num18_any 0 W
          obtain ⟨x0, x1, x2, x3, x4⟩ := HA5.out.regrown
          obtain ⟨y0, y1, y2, y3, y4⟩ := HK5.out.pf.ask.f_.regrown
          go_wp2_with fail
          generalize hW5 : w4.alloc (.cells #[.int .i64 fr, .int .i64 tu, .int .i64 k, .slice ha4 hn4 hc4, .slice oa4 on4 oc4] 40) = W5 at *
          clear hW5
          refine wp_region_quiet_below (by assumption) (by kernel_rfl) ?_
          repeat (go_big_quiet_step (first | (go_at_call 18; with_reducible exact k18 _ _) | (go_at_call 21; with_reducible exact k21 _ _)))
          refine wpQuiet_nil ?_
          intro _ hw'
          obtain ⟨⟨dq, osq⟩, hw''⟩ := hw'
          subst hw''
          have HK6 := Lib.hid (HK5.out.next (below_regrown W5 dq osq))
          clear k18 k21 x0 x1 x2 x3 x4 y0 y1 y2 y3 y4 HK5 HR5 HA5
          generalize Go.Sort.grow (redrawn W5 dq) osq = W6 at *
          go_wp2
          go_loopg [8] n3 (fun g2 v wi => ∃ j : Nat, v = .int .i64 j ∧ j ≤ 60000 ∧ n3 - j ≤ g2 ∧ Hid (KI w wi b (off + i * 6) fr tu k ha hs hn hc oa os on oc ax xs nx cx a3 bs))
          case atStart => exact ⟨0, rfl, by omega, by omega, HK6⟩
          case round =>
            clear HK6
            obtain ⟨j, rfl, hj6, hg2, HK⟩ := hrel
            by_cases hj : j < n3
            · -- MB
              have hjz : (j : Int) < (n3 : Int) := by omega
              have hjd : decide ((j : Int) < (n3 : Int)) = true := decide_eq_true hjz
              have C23 := Lib.hid (copyB_any a3 bs n3 c3' wr HK.out.row HN3.out (by have := HLN.out; omega))
              go_wp2_with fail
              refine (C23.out).mono ?_
              rintro e w7 ⟨v7, rfl, ho7, hb7⟩
              have hjb : j < bs.length := by rw [← HN3.out]; exact hj
              obtain ⟨g7, c7, rfl⟩ : ∃ g c, v7 = .slice (some ⟨g, 0, none⟩) n3 c := by
                rcases ho7.2 with ⟨_, h0⟩ | ⟨g, cap, cs, e, _⟩
                · omega
                · exact ⟨g, cap, by rw [e, HN3.out]⟩
              have HK7 := Lib.hid (HK.out.next hb7)
              have HB7 := Lib.hid hb7
              have HO7 := Lib.hid ho7
              obtain ⟨q1, f1, hb1, hb2⟩ := OwnK.cellAt HN3.out.symm ho7 j hj
              have HB1 := Lib.hid hb1
              have HBG := Lib.hid (HISB.out (bs.getD j 0) (by rw [List.getD_eq_getElem?_getD, List.getElem?_eq_getElem hjb]; simp))
              obtain ⟨z, hz⟩ : ∃ z, bs.getD j 0 = z := ⟨_, rfl⟩
              rw [hz] at q1 HBG
              have HZ := Lib.hid hz
              clear ho7 hb7 C23 hjb hz hb1
              have hz0 := HBG.out.1
              have hz1 := HBG.out.2
              go_wp2_with fail
              go_region
              generalize hzz : bits .xor .u8 z (2 ^ ((i + j) % 8) % 256) = zz
              have hfl := flip_ne hz0 hz1 (m := (i + j) % 8) (by omega)
              rw [hzz] at hfl
              have HFL := Lib.hid hfl
              have HTU : Hid ((prsF (bs.set j zz)).2 = 8) := by
                have h := by_turned HOK.out (j := j) (by rw [HBS.out, ← HN3.out]; exact hj) HFL.out.1 HFL.out.2.1 (by rw [HBS.out, HZ.out]; exact HFL.out.2.2)
                rw [HBS.out] at h
                exact h
              have HBX : Hid (IsB (bs.set j zz)) := fun y hy => by
                rcases List.mem_or_eq_of_mem_set hy with h | h
                · exact HISB.out y h
                · rw [h]; exact ⟨HFL.out.1, HFL.out.2.1⟩
              have HO8 : Hid (OwnK .u8 5 (w7.setCell ⟨g7, j, none⟩ (.int .u8 zz)).drew wr.heap.size (.slice (some ⟨g7, 0, none⟩) n3 c7) (bs.set j zz)) := OwnK.stored HN3.out.symm HO7.out j zz
              have HK8 := Lib.hid (HK.out.next ((HB7.out.setCell (p := ⟨g7, j, none⟩) HB1.out (.int .u8 zz)).drew))
              clear hfl hzz hz0 hz1 q1 f1 hb2
              generalize (w7.setCell ⟨g7, j, none⟩ (.int .u8 zz)).drew = W8 at *
              obtain ⟨a8, n8, c8, e8, hn8, hr8, hc8⟩ := HO8.out.form'
              cases e8
              obtain ⟨⟨G, x⟩, hG⟩ : ∃ Z, prsF (bs.set j zz) = Z := ⟨_, rfl⟩
              have C25 := Lib.hid (parse_any (some ⟨g7, 0, none⟩) (bs.set j zz) n3 c7 W8 HK8.out.pf.tab hn8 hr8 HBX.out hc8 (by rw [← hn8]; omega))
              rw [hG] at C25 HTU
              have hx8 : x = 8 := HTU.out
              subst hx8
              clear hn8 hr8 hc8 hG HTU HO8 HK7 HO7
              have hsh := fun W => slice_h W a3 n3 c3' j (j : Int) rfl (by have := HC3.out; have := HN3.out; omega)
              go_wp2_with fail
              refine (C25.out).mono ?_
              rintro e w9 ⟨h7, o7, dl7, rfl, hF7, hb7, -⟩
              obtain ⟨ha7, hn7, hc7, oa7, on7, oc7, rfl, rfl, -⟩ := hF7.read
              have HK9 := Lib.hid ((HK8.out.next hb7).next (box_bel w9 (.cells #[.int .i64 G.fr, .int .i64 G.tu, .int .i64 G.k, .slice ha7 hn7 hc7, .slice oa7 on7 oc7] 40)))
              clear hF7 hb7 C25
              simp only
              go_wp2_with fail
              generalize w9.alloc (.cells #[.int .i64 G.fr, .int .i64 G.tu, .int .i64 G.k, .slice ha7 hn7 hc7, .slice oa7 on7 oc7] 40) = W9 at *
              obtain ⟨⟨G2, x2⟩, hG2⟩ : ∃ Z, prsF (bs.take j) = Z := ⟨_, rfl⟩
              have HCU : Hid (x2 ≠ 0) := by
                have h := by_cut HOK.out (j := j) (by rw [HBS.out, ← HN3.out]; exact hj)
                rw [HBS.out, hG2] at h
                exact h
              have D25 := Lib.hid (parse_any (partA a3 0 c3') (bs.take j) j c3' W9 HK9.out.pf.tab (by rw [List.length_take]; have := HN3.out; omega) (HK9.out.row.first j c3' HC3.out) (fun y hy => HISB.out y (List.mem_of_mem_take hy)) (by rw [List.length_take]; have := HC3.out; omega) (by rw [List.length_take]; have := HLN.out; omega))
              rw [hG2] at D25
              clear hG2
              go_wp2_with fail
              refine (D25.out).mono ?_
              rintro e w10 ⟨h72, o72, dl72, rfl, hF7, hb72, -⟩
              obtain ⟨ha72, hn72, hc72, oa72, on72, oc72, rfl, rfl, -⟩ := hF7.read
              have HK10 := Lib.hid ((HK9.out.next hb72).next (box_bel w10 (.cells #[.int .i64 G2.fr, .int .i64 G2.tu, .int .i64 G2.k, .slice ha72 hn72 hc72, .slice oa72 on72 oc72] 40)))
              clear hF7 hb72 D25
              simp only
              go_wp2_with fail
              generalize w10.alloc (.cells #[.int .i64 G2.fr, .int .i64 G2.tu, .int .i64 G2.k, .slice ha72 hn72 hc72, .slice oa72 on72 oc72] 40) = W10 at *
              have hx2 : (x2 == 0) = false := by simpa using HCU.out
              clear hsh
              go_wp2_with fail
              refine (HNUM.out 8 _).mono ?_
              rintro e w' ⟨rfl, rfl⟩
              go_wp2_with fail
              refine (HNUM.out x2 _).mono ?_
              rintro e w' ⟨rfl, rfl⟩
              have hq1 : wrap64 ((j : Int) + 1) = (j : Int) + 1 := IntWalk.wrap64_in _ (by omega)
              have hq2 : (n3 : Int).tdiv 40 = ((n3 / 40 : Nat) : Int) := by rw [Int.tdiv_eq_ediv_of_nonneg (by omega)]; omega
              go_wp2_with fail
              go_roundg (n3 - (j + 1 + n3 / 40))
              case measure => omega
              case rel => exact ⟨j + 1 + n3 / 40, by go_num, by omega, by omega, HK10⟩
            · -- MC
              have hjz : ¬ (j : Int) < (n3 : Int) := by omega
              have hjd : decide ((j : Int) < (n3 : Int)) = false := decide_eq_false hjz
              have C23 := Lib.hid (copyB_any a3 bs n3 c3' wr HK.out.row HN3.out (by have := HLN.out; omega))
              go_wp2_with fail
              refine (C23.out).mono ?_
              rintro e w7 ⟨v7, rfl, ho7, hb7⟩
              have HO7 := Lib.hid ho7
              have HB7 := Lib.hid hb7
              clear ho7 hb7 C23
              go_wp2_with (at_builtin
                           refine wpB_one rfl _ _ rfl wr.heap.size w7 v7 bs _ rfl HO7.out rfl (by have := HLN.out; omega) HB7.out.size ?_
                           intro v8 w8 hp8
                           have HO8 := Lib.hid hp8.own
                           have HK8 := Lib.hid (HK.out.next (hp8.bel _ _ HB7.out (Nat.le_refl _) HB7.out.size))
                           clear hp8)
              obtain ⟨a8, n8, c8, rfl, hn8, hr8, hc8⟩ := HO8.out.form'
              obtain ⟨⟨G, x⟩, hG⟩ : ∃ Z, prsF (bs ++ [(i : Int)]) = Z := ⟨_, rfl⟩
              have HCU : Hid (x ≠ 0) := by
                have h := by_more HOK.out (z := (i : Int)) (by omega) (by omega)
                rw [HBS.out, hG] at h
                exact h
              have C25 := Lib.hid (parse_any a8 (bs ++ [(i : Int)]) n8 c8 w8 HK8.out.pf.tab hn8 hr8 (HISB.out.app (fun y hy => by simp only [List.mem_singleton] at hy; subst hy; omega)) hc8 (by have := HLN.out; rw [List.length_append, List.length_singleton]; omega))
              rw [hG] at C25
              clear hn8 hr8 hc8 hG HO8
              refine (C25.out).mono ?_
              rintro e w9 ⟨h7, o7, dl7, rfl, hF7, hb7, -⟩
              obtain ⟨ha7, hn7, hc7, oa7, on7, oc7, rfl, rfl, -⟩ := hF7.read
              have HK9 := Lib.hid ((HK8.out.next hb7).next (box_bel w9 (.cells #[.int .i64 G.fr, .int .i64 G.tu, .int .i64 G.k, .slice ha7 hn7 hc7, .slice oa7 on7 oc7] 40)))
              clear hF7 hb7 C25
              simp only
              go_wp2_with fail
              generalize w9.alloc (.cells #[.int .i64 G.fr, .int .i64 G.tu, .int .i64 G.k, .slice ha7 hn7 hc7, .slice oa7 on7 oc7] 40) = W9 at *
              have hx2 : (x == 0) = false := by simpa using HCU.out
              go_wp2_with fail
              refine (HNUM.out x _).mono ?_
              rintro e w' ⟨rfl, rfl⟩
              go_wp2_with fail
              go_roundg (8 - (i + 1))
              case measure => omega
              case rel => exact ⟨i + 1, by go_num, by omega, by omega, HK9.out.pf.bel⟩
      · have hiz : decide ((i : Int) < 8) = false := decide_eq_false (by omega)
        have hiy : ¬ (i : Int) < 8 := by omega
        go_wp2_with fail
        refine (wakesF_any wr HT.out).mono ?_
        rintro e w1 ⟨rfl, hb1⟩
        have HB1 := Lib.hid (HB.out.trans (hb1.mono HB.out.size))
        clear hb1
        go_wp2
        go_ret
        exact ⟨rfl, HB1.out⟩
    · have hinz : decide ((i : Int) < (n : Int)) = false := decide_eq_false (by omega)
      have hiny : ¬ (i : Int) < (n : Int) := by omega
      go_wp2_with fail
      refine (wakesF_any wr HT.out).mono ?_
      rintro e w1 ⟨rfl, hb1⟩
      have HB1 := Lib.hid (HB.out.trans (hb1.mono HB.out.size))
      clear hb1
      go_wp2
      go_ret
      exact ⟨rfl, HB1.out⟩
end Go.Proofs.YtfhppfbmnnkikaaDoor
