/- Joined: D28. -/
import Derived.Test.YtdpopdlifcjdeaaDoorYD27

/- Hold: the page's Take: which way it goes. -/
namespace Go.Proofs.YtdpopdlifcjdeaaDoor
open Go.RowKit Go.Lib
set_option linter.unusedVariables false

/-- a row of operations all of whose memory lies from B on -/
def RowGeO (B : Nat) (w : World) (a : Option Addr) (os : List OpD) : Prop := ∀ (i : Nat) (x : OpD), os[i]? = some x → ∃ g off, a = some ⟨g, off, none⟩ ∧ B ≤ g ∧ ∃ da dc, OpX w g (off + i * 12) x da x.1.ds.length dc ∧ RowK .i64 w da x.1.ds ∧ RowGe B da x.1.ds ∧ x.1.ds.length ≤ 17592186044416
theorem geO_of {w : World} {B b1 b2 : Nat} {a : Option Addr} {n c : Nat} {os : List OpD} {dl : List Value} (h : OwnO w b1 (.slice a n c) os dl) (hd : DepsN w b2 os dl) (h1 : B ≤ b1) (h2 : B ≤ b2) : RowGeO B w a os := fun i x hi => by
  obtain ⟨a', n', c', e, -, -, hc⟩ := h.form
  injection e with e1 e2 e3
  subst e1 e2 e3
  have hi' := (List.getElem?_eq_some_iff.1 hi).1
  obtain ⟨d, hdd⟩ : ∃ d, dl[i]? = some d := ⟨_, List.getElem?_eq_getElem (by rw [h.len]; exact hi')⟩
  obtain ⟨g, rfl, hg, hcell⟩ := hc i x d hi hdd
  obtain ⟨hown, hlen⟩ := hd i x d hi hdd
  obtain ⟨da, dc, rfl, hr, -⟩ := hown.form
  refine ⟨g, 0, rfl, Nat.le_trans h1 hg, da, dc, ?_, hr, ?_, hlen⟩
  · rw [Nat.zero_add]
    exact ⟨hcell 0 _ rfl, hcell 1 _ rfl, hcell 2 _ rfl, hcell 3 _ rfl, hcell 4 _ rfl, hcell 5 _ rfl, hcell 6 _ rfl, hcell 7 _ rfl, hcell 8 _ rfl, hcell 9 _ rfl, hcell 10 _ rfl, hcell 11 _ rfl⟩
  · intro h0
    obtain ⟨b, off, e, hb⟩ := hown.rowGe h0
    exact ⟨b, off, e, Nat.le_trans h2 hb⟩
def RefT (a : List Int) (b d : List OpD) (z : Int) (w : World) (e : Ending) (w' : World) : Prop := ∃ wa an wc la bn lc ta dn tc, e = .returned (.tuple #[.slice wa an wc, .slice la bn lc, .slice ta dn tc, .int .i64 z]) ∧ an = a.length ∧ bn = b.length ∧ dn = d.length ∧ RowK .i64 w' wa a ∧ RowO w' la b ∧ RowO w' ta d ∧ bn ≤ lc ∧ Below w.heap.size w w' ∧ RowGe w.heap.size wa a ∧ RowGeO w.heap.size w' la b
theorem take_any {hs : List OpD} {j : Nat} {x : OpD} (p : OpD → Bool) (h : hs[j]? = some x) : (hs.take (j + 1)).any p = ((hs.take j).any p || p x) := by
  rw [take_more h, List.any_append, List.any_cons, List.any_nil, Bool.or_false]
theorem ownK_row' {w : World} {base : Nat} {a : Option Addr} {m c : Nat} {zs : List Int} (h : OwnK .i64 3 w base (.slice a m c) zs) : RowK .i64 w a zs := by
  obtain ⟨a', cap, e, hr, _⟩ := h.form
  injection e with e1
  rw [e1]
  exact hr
theorem PtS.at {w W : World} {B gv cv vn : Nat} {v : List Int} {ha : Option Addr} {n c : Nat} {hs : List OpD} {dl : List Value} {ta : Option Addr} {tn tc : Nat} {tk : List OpD} {tl : List Value} (h : PtS w W B gv cv vn v ha n c hs dl ta tn tc tk tl) {i : Nat} {x : OpD} (hx : hs[i]? = some x) : ∃ g da dc, ha = some ⟨g, 0, none⟩ ∧ OpX W g (i * 12) x da x.1.ds.length dc ∧ OwnK .i64 3 W B (.slice da x.1.ds.length dc) x.1.ds ∧ x.1.ds.length ≤ 17592186044416 ∧ dl[i]? = some (.slice da x.1.ds.length dc) ∧ B ≤ g := by
  obtain ⟨a, n', c', e, h1, h2, hc⟩ := h.hld.form
  injection e with e1 e2 e3
  subst e1 e2 e3
  have hi := (List.getElem?_eq_some_iff.1 hx).1
  obtain ⟨d, hd⟩ : ∃ d, dl[i]? = some d := ⟨_, List.getElem?_eq_getElem (by rw [h.hld.len]; exact hi)⟩
  obtain ⟨ho, hl⟩ := h.hdp i x d hx hd
  obtain ⟨da, dc, rfl, hr, -⟩ := ho.form
  obtain ⟨g, rfl, hg, hcell⟩ := hc i x _ hx hd
  exact ⟨g, da, dc, rfl, ⟨hcell 0 _ rfl, hcell 1 _ rfl, hcell 2 _ rfl, hcell 3 _ rfl, hcell 4 _ rfl, hcell 5 _ rfl, hcell 6 _ rfl, hcell 7 _ rfl, hcell 8 _ rfl, hcell 9 _ rfl, hcell 10 _ rfl, hcell 11 _ rfl⟩, ho, hl, hd, hg⟩
theorem DepsN.drop {w : World} {base : Nat} {os : List OpD} {dl : List Value} (h : DepsN w base os dl) (p : Nat) : DepsN w base (os.drop p) (dl.drop p) := fun i x d hi hd => by
  rw [List.getElem?_drop] at hi hd
  exact h _ x d hi hd
def PosTo (hs : List OpD) (o : OpD) (p j : Nat) : Prop := p ≤ j ∧ (∀ k x, k < p → hs[k]? = some x → cmpO x o < 0) ∧ (∀ k x, p ≤ k → k < j → hs[k]? = some x → 0 ≤ cmpO x o)
theorem PosTo.no {hs : List OpD} {o x : OpD} {p j : Nat} (h : PosTo hs o p j) (hx : hs[j]? = some x) (hc : ¬ cmpO x o < 0) : PosTo hs o p (j + 1) := ⟨by have := h.1; omega, h.2.1, fun k y hk hk2 hy => by
  by_cases e : k = j
  · subst e
    rw [hx] at hy
    injection hy with hy
    rw [← hy]; omega
  · exact h.2.2 k y hk (by omega) hy⟩
theorem PosTo.yes {hs : List OpD} {o x : OpD} {p j : Nat} (hs0 : Srt hs) (h : PosTo hs o p j) (hx : hs[j]? = some x) (hc : cmpO x o < 0) : PosTo hs o (j + 1) (j + 1) := ⟨Nat.le_refl _, fun k y hk hy => by
  by_cases e : k = j
  · subst e
    rw [hx] at hy
    injection hy with hy
    rw [← hy]; exact hc
  · exact cmpO_trans (hs0 k j y x (by omega) hy hx) hc, fun k y hk hk2 _ => by omega⟩
theorem PosTo.is {hs : List OpD} {o : OpD} {p : Nat} (h : PosTo hs o p hs.length) : PosIs hs o p := ⟨h.1, h.2.1, fun k x hk hx => by have := h.2.2 k x hk (List.getElem?_eq_some_iff.1 hx).1 hx; omega⟩
theorem ownO_slice' {w : World} {base : Nat} {v : Value} {os : List OpD} {dl : List Value} (h : OwnO w base v os dl) (hd : DepsO w base os dl) : ∃ a n cap, v = .slice a n cap ∧ n = os.length ∧ n ≤ cap ∧ RowO w a os := h.row hd.read
def sameS (o x : OpD) : Bool := decide (x.1.t = o.1.t ∧ x.1.r = o.1.r)
set_option maxHeartbeats 8000000 in
set_option maxRecDepth 100000 in
theorem refTake_any (va : Option Addr) (v : List Int) (vn vc : Nat) (ha : Option Addr) (hs : List OpD) (n c : Nat) (o : OpD) (oa : Option Addr) (oc : Nat) (w : World) (hv : RowK .i64 w va v) (hvn : vn = v.length) (hr : RowO w ha hs) (hn : n = hs.length) (hnc : n ≤ c) (hro : RowK .i64 w oa o.1.ds) (hh : heldB v hs = true) (hf : fitsB v o = true) (a : List Int) (b d : List OpD) (z : Int) (hT : TakeIs v hs o a b d z) :
    Calls Tryd.prog 22 #[.slice va vn vc, .slice ha n c, valO o oa o.1.ds.length oc] w (RefT a b d z w) := by
  have mixed : Tryd.prog.follows .mixedOrders = true := by kernel_rfl
  have hG := St.st_guard
  have h16 := (held_iff.1 hh).2.1
  have hvl := Hv.vecB_len (fits_iff.1 hf).1
  have hok := (fits_iff.1 hf).2.1
  have hol := ok_len hok
  have F := ok_facts hok
  have hlt := fits_lt hf
  have HFT := Lib.hid hT
  have HSRT := Lib.hid (held_srt hh)
  have HFH := Lib.hid (fun y (hy : y ∈ hs) => held_fits hh hy)
  have HF := Lib.hid hf
  have HOK := Lib.hid hok
  have HB0 := Lib.hid (box_bel w (objO o oa o.1.ds.length oc))
  have HA0 := Lib.hid (OpX.new w o oa o.1.ds.length oc)
  have HRO := Lib.hid (fun W (hb : Below w.heap.size w W) => hro.below hb (Nat.le_refl _))
  have C1 := Lib.hid (copyI_big va v vn vc _ (hv.alloc (objO o oa o.1.ds.length oc)) hvn (by omega))
  have C2 := Lib.hid (fun W (hb : Below w.heap.size w W) => copyOps_any ha hs n c W (hr.below hb) hn (by omega))
  have HN := Lib.hid hn
  have HVN := Lib.hid hvn
  have hn16 : n ≤ 16 := by omega
  have hr0 : 0 ≤ o.1.r := F.r0
  have hr1 : o.1.r < (vn : Int) := by omega
  have hrt : o.1.r.toNat < vn := by omega
  have hv1 : 1 ≤ v.length := hvl.1
  obtain ⟨on, hon⟩ : ∃ on, o.1.ds.length = on := ⟨_, rfl⟩
  have HON := Lib.hid hon
  have HOL : Hid (on ≤ 16) := by show _ ≤ _; omega
  rw [hon] at HB0 HA0 C1 ⊢
  clear hT hh hf hv hvn hr hn hro hvl hok hol F hlt h16 hon
  go_enter Tryd.func22, Tryd.ntmps22
  go_wp2_with fail
  refine (C1.out).mono ?_
  rintro e w1 ⟨wv, rfl, ho1, hb1⟩
  obtain ⟨gv, cv, rfl, hgv⟩ := ho1.formS hv1
  rw [← HVN.out] at ho1 ⊢
  have HV1 := Lib.hid ho1
  have HB1 := Lib.hid (HB0.out.trans (hb1.mono HB0.out.size))
  have HA1 := Lib.hid (HA0.out.next hb1)
  have HGV : Hid (w.heap.size ≤ gv) := by have := HB0.out.size; show _ ≤ _; omega
  clear ho1 hb1 C1 hv1 hgv
  go_wp2_with fail
  refine (C2.out w1 HB1.out).mono ?_
  rintro e w2 ⟨hv2, dl, rfl, ho2, hd2, hb2⟩
  obtain ⟨ha2, n2, cq, rfl, hn2, hnc2, hro2⟩ := ownO_slice' ho2 hd2
  obtain rfl : n = n2 := by have := HN.out; omega
  have HH2 := Lib.hid ho2
  have HD2 := Lib.hid hd2.N
  have HR2 := Lib.hid hro2
  have HV2 := Lib.hid (HV1.out.below hb2)
  have HB2 := Lib.hid (HB1.out.trans (hb2.mono HB1.out.size))
  have HA2 := Lib.hid (HA1.out.next hb2)
  have HGB : Hid (gv < w1.heap.size) := (HV1.out.lt rfl).2
  have HZ2 : Hid (w1.heap.size ≤ w2.heap.size) := hb2.size
  have HZ1 : Hid (w.heap.size ≤ w1.heap.size) := HB1.out.size
  have HZ0 : Hid (w.heap.size < w1.heap.size) := by have := HA1.out.lt; exact this
  have HVO : Hid (OwnK .i64 3 w2 w.heap.size (.slice (some ⟨gv, 0, none⟩) vn cv) v) := HV2.out.mono (by have := HB0.out.size; omega)
  clear ho2 hd2 hb2 hn2 hro2 C2 HV1
  obtain ⟨gc, gf, -, -⟩ := OwnK.cellAt HVN.out.symm HV2.out o.1.r.toNat hrt
  obtain ⟨c0, c1, c2, c3, c4, c5, c6, c7, c8, c9, c10, c11⟩ := HA2.out
  obtain ⟨d0, hd0⟩ : ∃ d0, decide (o.2 ≤ v.getD o.1.r.toNat 0) = d0 := ⟨_, rfl⟩
  have HD0 : Hid (decide (o.2 ≤ atV v o) = d0) := hd0
  generalize v.getD o.1.r.toNat 0 = vz at *
  go_wp2_with fail
  go_quiet (fail)
  go_wp2_with fail
  clear gc gf c0 c1 c2 c3 c4 c5 c6 c7 c8 c9 c10 c11
  have HL0 : Hid (Below w2.heap.size w2 (w2.drewN nq)) := below_drewN (Below.refl _ _) nq
  go_loopg [10, 11, 12, 13] n (fun gg s10 s11 s12 s13 wr => ∃ (j p : Nat) (kb sb : Bool), s13 = .int .i64 (j : Int) ∧ s12 = .int .i64 (p : Int) ∧ s10 = .bool kb ∧ s11 = .bool sb ∧ j ≤ n ∧ n - j ≤ gg ∧ Hid (kb = (d0 || (hs.take j).any (sameB · o))) ∧ Hid (sb = (hs.take j).any (sameS o)) ∧ Hid (PosTo hs o p j) ∧ Hid (Below w2.heap.size w2 wr))
  case atStart => exact ⟨0, 0, d0, false, rfl, rfl, rfl, rfl, Nat.zero_le _, by omega, by show _ = _; simp, by show _ = _; simp, ⟨Nat.le_refl _, fun k x hk => absurd hk (Nat.not_lt_zero _), fun k x _ hk => absurd hk (Nat.not_lt_zero _)⟩, HL0.out⟩
  case round =>
    clear HL0
    obtain ⟨j, p, kb, sb, rfl, rfl, rfl, rfl, hj, hg, HK, HSB, HP, HI⟩ := hrel
    by_cases hin : j < n
    · have hinz : (j : Int) < (n : Int) := by omega
      have HAX := Lib.hid (HA2.out.next HI.out)
      obtain ⟨x, hx⟩ : ∃ x, hs[j]? = some x := ⟨_, List.getElem?_eq_getElem (by rw [← HN.out]; exact hin)⟩
      obtain ⟨b1, off, rfl, da, dc, hat, -, -⟩ := (HR2.out.below HI.out) j x hx
      have HX := Lib.hid hx
      have HAT := Lib.hid hat
      generalize x.1.ds.length = dn at *
      obtain ⟨sm, hsm⟩ : ∃ sm, sameB x o = sm := ⟨_, rfl⟩
      obtain ⟨em, hem⟩ : ∃ em, sameS o x = em := ⟨_, rfl⟩
      obtain ⟨cz, hcz⟩ : ∃ cz, cmpO x o = cz := ⟨_, rfl⟩
      have HCZ := Lib.hid hcz
      have heq := st_is x.1.t x.1.r o.1.t o.1.r em hem
      have HK2 : Hid ((kb || sm) = (d0 || (hs.take (j + 1)).any (sameB · o))) := by show _ = _; rw [take_any _ hx, ← Bool.or_assoc, ← HK.out, ← hsm]
      have HSB2 : Hid ((sb || em) = (hs.take (j + 1)).any (sameS o)) := by show _ = _; rw [take_any _ hx, ← HSB.out, ← hem]
      have CSM := Lib.hid (fun W => refSame_any x da dn dc o oa on oc W)
      have CC := Lib.hid (fun W => St.refCmp_any x.1.t x.1.r o.1.t o.1.r W)
      rw [hsm] at CSM
      unfold cmpO at hcz
      rw [hcz] at CC
      clear hx hat hsm hem hcz
      cases kb
      · obtain ⟨g0, g1, g2, g3, g4, g5, g6, g7, g8, g9, g10, g11⟩ := HAX.out.regrown
        obtain ⟨f0, f1, f2, f3, f4, f5, f6, f7, f8, f9, f10, f11⟩ := HAT.out.regrown
        have x1 : St.RegrownTo wr 37 #[valO x da dn dc, valO o oa on oc] (.bool sm) := regrown_at fun W' hb => CSM.out W'
        go_wp2_with fail
        refine wp_region_quiet_below (by assumption) (by kernel_rfl) ?_
        repeat (go_big_quiet_step ((first | (go_at_call 37; with_reducible exact x1 _ _))))
        refine wpQuiet_nil ?_
        intro _ hw'
        obtain ⟨⟨dq, osq⟩, hw''⟩ := hw'
        subst hw''
        have HI7 := Lib.hid (HI.out.trans ((below_regrown _ dq osq).mono HI.out.size))
        have HAX' := Lib.hid (HAX.out.next (below_regrown _ dq osq))
        have HAT' := Lib.hid (HAT.out.next (below_regrown _ dq osq))
        clear g0 g1 g2 g3 g4 g5 g6 g7 g8 g9 g10 g11 f0 f1 f2 f3 f4 f5 f6 f7 f8 f9 f10 f11
        clear HAX HAT
        have HAX := HAX'
        have HAT := HAT'
        clear HAX' HAT'
        generalize Go.Sort.grow (redrawn wr dq) osq = w7 at *
        clear x1
        cases sb
        · obtain ⟨g0, g1, g2, g3, g4, g5, g6, g7, g8, g9, g10, g11⟩ := HAX.out.regrown
          obtain ⟨f0, f1, f2, f3, f4, f5, f6, f7, f8, f9, f10, f11⟩ := HAT.out.regrown
          go_wp2_with fail
          refine wp_region_quiet_below (by assumption) (by kernel_rfl) ?_
          repeat (go_big_quiet_step ((first | fail)))
          refine wpQuiet_nil ?_
          intro _ hw'
          obtain ⟨⟨dq, osq⟩, hw''⟩ := hw'
          subst hw''
          have HI8 := Lib.hid (HI7.out.trans ((below_regrown _ dq osq).mono HI7.out.size))
          have HAX' := Lib.hid (HAX.out.next (below_regrown _ dq osq))
          have HAT' := Lib.hid (HAT.out.next (below_regrown _ dq osq))
          clear g0 g1 g2 g3 g4 g5 g6 g7 g8 g9 g10 g11 f0 f1 f2 f3 f4 f5 f6 f7 f8 f9 f10 f11
          clear HAX HAT
          have HAX := HAX'
          have HAT := HAT'
          clear HAX' HAT'
          generalize Go.Sort.grow (redrawn w7 dq) osq = w8 at *
          have x3 : St.RegrownTo w8 36 #[.agg #[.int .i64 x.1.t, .int .i64 x.1.r], .agg #[.int .i64 o.1.t, .int .i64 o.1.r]] (.int .i64 cz) := regrown_at fun W' hb => CC.out W'
          obtain ⟨g0, g1, g2, g3, g4, g5, g6, g7, g8, g9, g10, g11⟩ := HAX.out.regrown
          obtain ⟨f0, f1, f2, f3, f4, f5, f6, f7, f8, f9, f10, f11⟩ := HAT.out.regrown
          go_wp2_with fail
          refine wp_region_quiet_below (by assumption) (by kernel_rfl) ?_
          repeat (go_big_quiet_step ((first | (go_at_call 36; with_reducible exact x3 _ _))))
          refine wpQuiet_nil ?_
          intro _ hw'
          obtain ⟨⟨dq, osq⟩, hw''⟩ := hw'
          subst hw''
          have HI9 := Lib.hid (HI8.out.trans ((below_regrown _ dq osq).mono HI8.out.size))
          have HAX' := Lib.hid (HAX.out.next (below_regrown _ dq osq))
          have HAT' := Lib.hid (HAT.out.next (below_regrown _ dq osq))
          clear g0 g1 g2 g3 g4 g5 g6 g7 g8 g9 g10 g11 f0 f1 f2 f3 f4 f5 f6 f7 f8 f9 f10 f11
          clear HAX HAT
          have HAX := HAX'
          have HAT := HAT'
          clear HAX' HAT'
          generalize Go.Sort.grow (redrawn w8 dq) osq = w9 at *
          clear x3
          cases hcd : decide (cz < 0)
          · go_wp2_with fail
            go_roundg (n - (j + 1))
            case measure => omega
            case rel => exact ⟨j + 1, p, sm, em, by go_num, rfl, rfl, rfl, by omega, by omega, by show _ = _; exact HK2.out, by show _ = _; exact HSB2.out, HP.out.no HX.out (by rw [HCZ.out]; exact of_decide_eq_false hcd), HI9.out⟩
          · go_wp2_with fail
            go_roundg (n - (j + 1))
            case measure => omega
            case rel => exact ⟨j + 1, j + 1, sm, em, by go_num, by go_num, rfl, rfl, by omega, by omega, by show _ = _; exact HK2.out, by show _ = _; exact HSB2.out, HP.out.yes HSRT.out HX.out (by rw [HCZ.out]; exact of_decide_eq_true hcd), HI9.out⟩
        · obtain ⟨g0, g1, g2, g3, g4, g5, g6, g7, g8, g9, g10, g11⟩ := HAX.out.regrown
          obtain ⟨f0, f1, f2, f3, f4, f5, f6, f7, f8, f9, f10, f11⟩ := HAT.out.regrown
          go_wp2_with fail
          refine wp_region_quiet_below (by assumption) (by kernel_rfl) ?_
          repeat (go_big_quiet_step ((first | fail)))
          refine wpQuiet_nil ?_
          intro _ hw'
          obtain ⟨⟨dq, osq⟩, hw''⟩ := hw'
          subst hw''
          have HI8 := Lib.hid (HI7.out.trans ((below_regrown _ dq osq).mono HI7.out.size))
          have HAX' := Lib.hid (HAX.out.next (below_regrown _ dq osq))
          have HAT' := Lib.hid (HAT.out.next (below_regrown _ dq osq))
          clear g0 g1 g2 g3 g4 g5 g6 g7 g8 g9 g10 g11 f0 f1 f2 f3 f4 f5 f6 f7 f8 f9 f10 f11
          clear HAX HAT
          have HAX := HAX'
          have HAT := HAT'
          clear HAX' HAT'
          generalize Go.Sort.grow (redrawn w7 dq) osq = w8 at *
          have x3 : St.RegrownTo w8 36 #[.agg #[.int .i64 x.1.t, .int .i64 x.1.r], .agg #[.int .i64 o.1.t, .int .i64 o.1.r]] (.int .i64 cz) := regrown_at fun W' hb => CC.out W'
          obtain ⟨g0, g1, g2, g3, g4, g5, g6, g7, g8, g9, g10, g11⟩ := HAX.out.regrown
          obtain ⟨f0, f1, f2, f3, f4, f5, f6, f7, f8, f9, f10, f11⟩ := HAT.out.regrown
          go_wp2_with fail
          refine wp_region_quiet_below (by assumption) (by kernel_rfl) ?_
          repeat (go_big_quiet_step ((first | (go_at_call 36; with_reducible exact x3 _ _))))
          refine wpQuiet_nil ?_
          intro _ hw'
          obtain ⟨⟨dq, osq⟩, hw''⟩ := hw'
          subst hw''
          have HI9 := Lib.hid (HI8.out.trans ((below_regrown _ dq osq).mono HI8.out.size))
          have HAX' := Lib.hid (HAX.out.next (below_regrown _ dq osq))
          have HAT' := Lib.hid (HAT.out.next (below_regrown _ dq osq))
          clear g0 g1 g2 g3 g4 g5 g6 g7 g8 g9 g10 g11 f0 f1 f2 f3 f4 f5 f6 f7 f8 f9 f10 f11
          clear HAX HAT
          have HAX := HAX'
          have HAT := HAT'
          clear HAX' HAT'
          generalize Go.Sort.grow (redrawn w8 dq) osq = w9 at *
          clear x3
          cases hcd : decide (cz < 0)
          · go_wp2_with fail
            go_roundg (n - (j + 1))
            case measure => omega
            case rel => exact ⟨j + 1, p, sm, true, by go_num, rfl, rfl, rfl, by omega, by omega, by show _ = _; exact HK2.out, by show _ = _; exact HSB2.out, HP.out.no HX.out (by rw [HCZ.out]; exact of_decide_eq_false hcd), HI9.out⟩
          · go_wp2_with fail
            go_roundg (n - (j + 1))
            case measure => omega
            case rel => exact ⟨j + 1, j + 1, sm, true, by go_num, by go_num, rfl, rfl, by omega, by omega, by show _ = _; exact HK2.out, by show _ = _; exact HSB2.out, HP.out.yes HSRT.out HX.out (by rw [HCZ.out]; exact of_decide_eq_true hcd), HI9.out⟩
      · obtain ⟨g0, g1, g2, g3, g4, g5, g6, g7, g8, g9, g10, g11⟩ := HAX.out.regrown
        obtain ⟨f0, f1, f2, f3, f4, f5, f6, f7, f8, f9, f10, f11⟩ := HAT.out.regrown
        go_wp2_with fail
        refine wp_region_quiet_below (by assumption) (by kernel_rfl) ?_
        repeat (go_big_quiet_step ((first | fail)))
        refine wpQuiet_nil ?_
        intro _ hw'
        obtain ⟨⟨dq, osq⟩, hw''⟩ := hw'
        subst hw''
        have HI7 := Lib.hid (HI.out.trans ((below_regrown _ dq osq).mono HI.out.size))
        have HAX' := Lib.hid (HAX.out.next (below_regrown _ dq osq))
        have HAT' := Lib.hid (HAT.out.next (below_regrown _ dq osq))
        clear g0 g1 g2 g3 g4 g5 g6 g7 g8 g9 g10 g11 f0 f1 f2 f3 f4 f5 f6 f7 f8 f9 f10 f11
        clear HAX HAT
        have HAX := HAX'
        have HAT := HAT'
        clear HAX' HAT'
        generalize Go.Sort.grow (redrawn wr dq) osq = w7 at *
        cases sb
        · obtain ⟨g0, g1, g2, g3, g4, g5, g6, g7, g8, g9, g10, g11⟩ := HAX.out.regrown
          obtain ⟨f0, f1, f2, f3, f4, f5, f6, f7, f8, f9, f10, f11⟩ := HAT.out.regrown
          go_wp2_with fail
          refine wp_region_quiet_below (by assumption) (by kernel_rfl) ?_
          repeat (go_big_quiet_step ((first | fail)))
          refine wpQuiet_nil ?_
          intro _ hw'
          obtain ⟨⟨dq, osq⟩, hw''⟩ := hw'
          subst hw''
          have HI8 := Lib.hid (HI7.out.trans ((below_regrown _ dq osq).mono HI7.out.size))
          have HAX' := Lib.hid (HAX.out.next (below_regrown _ dq osq))
          have HAT' := Lib.hid (HAT.out.next (below_regrown _ dq osq))
          clear g0 g1 g2 g3 g4 g5 g6 g7 g8 g9 g10 g11 f0 f1 f2 f3 f4 f5 f6 f7 f8 f9 f10 f11
          clear HAX HAT
          have HAX := HAX'
          have HAT := HAT'
          clear HAX' HAT'
          generalize Go.Sort.grow (redrawn w7 dq) osq = w8 at *
          have x3 : St.RegrownTo w8 36 #[.agg #[.int .i64 x.1.t, .int .i64 x.1.r], .agg #[.int .i64 o.1.t, .int .i64 o.1.r]] (.int .i64 cz) := regrown_at fun W' hb => CC.out W'
          obtain ⟨g0, g1, g2, g3, g4, g5, g6, g7, g8, g9, g10, g11⟩ := HAX.out.regrown
          obtain ⟨f0, f1, f2, f3, f4, f5, f6, f7, f8, f9, f10, f11⟩ := HAT.out.regrown
          go_wp2_with fail
          refine wp_region_quiet_below (by assumption) (by kernel_rfl) ?_
          repeat (go_big_quiet_step ((first | (go_at_call 36; with_reducible exact x3 _ _))))
          refine wpQuiet_nil ?_
          intro _ hw'
          obtain ⟨⟨dq, osq⟩, hw''⟩ := hw'
          subst hw''
          have HI9 := Lib.hid (HI8.out.trans ((below_regrown _ dq osq).mono HI8.out.size))
          have HAX' := Lib.hid (HAX.out.next (below_regrown _ dq osq))
          have HAT' := Lib.hid (HAT.out.next (below_regrown _ dq osq))
          clear g0 g1 g2 g3 g4 g5 g6 g7 g8 g9 g10 g11 f0 f1 f2 f3 f4 f5 f6 f7 f8 f9 f10 f11
          clear HAX HAT
          have HAX := HAX'
          have HAT := HAT'
          clear HAX' HAT'
          generalize Go.Sort.grow (redrawn w8 dq) osq = w9 at *
          clear x3
          cases hcd : decide (cz < 0)
          · go_wp2_with fail
            go_roundg (n - (j + 1))
            case measure => omega
            case rel => exact ⟨j + 1, p, true, em, by go_num, rfl, rfl, rfl, by omega, by omega, by show _ = _; exact HK2.out, by show _ = _; exact HSB2.out, HP.out.no HX.out (by rw [HCZ.out]; exact of_decide_eq_false hcd), HI9.out⟩
          · go_wp2_with fail
            go_roundg (n - (j + 1))
            case measure => omega
            case rel => exact ⟨j + 1, j + 1, true, em, by go_num, by go_num, rfl, rfl, by omega, by omega, by show _ = _; exact HK2.out, by show _ = _; exact HSB2.out, HP.out.yes HSRT.out HX.out (by rw [HCZ.out]; exact of_decide_eq_true hcd), HI9.out⟩
        · obtain ⟨g0, g1, g2, g3, g4, g5, g6, g7, g8, g9, g10, g11⟩ := HAX.out.regrown
          obtain ⟨f0, f1, f2, f3, f4, f5, f6, f7, f8, f9, f10, f11⟩ := HAT.out.regrown
          go_wp2_with fail
          refine wp_region_quiet_below (by assumption) (by kernel_rfl) ?_
          repeat (go_big_quiet_step ((first | fail)))
          refine wpQuiet_nil ?_
          intro _ hw'
          obtain ⟨⟨dq, osq⟩, hw''⟩ := hw'
          subst hw''
          have HI8 := Lib.hid (HI7.out.trans ((below_regrown _ dq osq).mono HI7.out.size))
          have HAX' := Lib.hid (HAX.out.next (below_regrown _ dq osq))
          have HAT' := Lib.hid (HAT.out.next (below_regrown _ dq osq))
          clear g0 g1 g2 g3 g4 g5 g6 g7 g8 g9 g10 g11 f0 f1 f2 f3 f4 f5 f6 f7 f8 f9 f10 f11
          clear HAX HAT
          have HAX := HAX'
          have HAT := HAT'
          clear HAX' HAT'
          generalize Go.Sort.grow (redrawn w7 dq) osq = w8 at *
          have x3 : St.RegrownTo w8 36 #[.agg #[.int .i64 x.1.t, .int .i64 x.1.r], .agg #[.int .i64 o.1.t, .int .i64 o.1.r]] (.int .i64 cz) := regrown_at fun W' hb => CC.out W'
          obtain ⟨g0, g1, g2, g3, g4, g5, g6, g7, g8, g9, g10, g11⟩ := HAX.out.regrown
          obtain ⟨f0, f1, f2, f3, f4, f5, f6, f7, f8, f9, f10, f11⟩ := HAT.out.regrown
          go_wp2_with fail
          refine wp_region_quiet_below (by assumption) (by kernel_rfl) ?_
          repeat (go_big_quiet_step ((first | (go_at_call 36; with_reducible exact x3 _ _))))
          refine wpQuiet_nil ?_
          intro _ hw'
          obtain ⟨⟨dq, osq⟩, hw''⟩ := hw'
          subst hw''
          have HI9 := Lib.hid (HI8.out.trans ((below_regrown _ dq osq).mono HI8.out.size))
          have HAX' := Lib.hid (HAX.out.next (below_regrown _ dq osq))
          have HAT' := Lib.hid (HAT.out.next (below_regrown _ dq osq))
          clear g0 g1 g2 g3 g4 g5 g6 g7 g8 g9 g10 g11 f0 f1 f2 f3 f4 f5 f6 f7 f8 f9 f10 f11
          clear HAX HAT
          have HAX := HAX'
          have HAT := HAT'
          clear HAX' HAT'
          generalize Go.Sort.grow (redrawn w8 dq) osq = w9 at *
          clear x3
          cases hcd : decide (cz < 0)
          · go_wp2_with fail
            go_roundg (n - (j + 1))
            case measure => omega
            case rel => exact ⟨j + 1, p, true, true, by go_num, rfl, rfl, rfl, by omega, by omega, by show _ = _; exact HK2.out, by show _ = _; exact HSB2.out, HP.out.no HX.out (by rw [HCZ.out]; exact of_decide_eq_false hcd), HI9.out⟩
          · go_wp2_with fail
            go_roundg (n - (j + 1))
            case measure => omega
            case rel => exact ⟨j + 1, j + 1, true, true, by go_num, by go_num, rfl, rfl, by omega, by omega, by show _ = _; exact HK2.out, by show _ = _; exact HSB2.out, HP.out.yes HSRT.out HX.out (by rw [HCZ.out]; exact of_decide_eq_true hcd), HI9.out⟩
    · have hinz : ¬ (j : Int) < (n : Int) := by omega
      obtain rfl : n = j := by omega
      have HKN : Hid (knownB v hs o = kb) := by
        show _ = _
        have h := HK.out
        rw [List.take_of_length_le (by have := HN.out; omega)] at h
        rw [h]
        unfold knownB
        rw [HD0.out]
      have HST : Hid (stampB hs o = sb) := by
        show _ = _
        have h := HSB.out
        rw [List.take_of_length_le (by have := HN.out; omega)] at h
        exact h.symm
      have HPI : Hid (PosIs hs o p) := by
        have h := HP.out
        rw [HN.out] at h
        exact h.is
      have HBr := Lib.hid (HB2.out.trans (HI.out.mono HB2.out.size))
      have HAr := Lib.hid (HA2.out.next HI.out)
      have HVr := Lib.hid (HVO.out.below HI.out)
      have HHr := Lib.hid (HH2.out.below HI.out)
      have HDr := Lib.hid (HD2.out.below HI.out)
      have HRr := Lib.hid (HR2.out.below HI.out)
      have HZr : Hid (w1.heap.size ≤ wr.heap.size) := Nat.le_trans HZ2.out HI.out.size
      have HWr := Lib.hid (ownK_row HVr.out)
      clear HK HSB HP
      cases kb
      · have hk0 := HKN.out
        obtain ⟨rb, hrb⟩ : ∃ rb, readyB v o = rb := ⟨_, rfl⟩
        have CR := Lib.hid (refReady_any (some ⟨gv, 0, none⟩) v vn cv o oa on oc wr HWr.out HVN.out (HRO.out wr HBr.out) HON.out.symm HF.out)
        rw [hrb] at CR
        have HRB := Lib.hid hrb
        have HK0 := Lib.hid hk0
        clear hrb hk0
        obtain ⟨c0, c1, c2, c3, c4, c5, c6, c7, c8, c9, c10, c11⟩ := HAr.out
        go_wp2_with fail
        refine (CR.out).mono ?_
        rintro e w13 ⟨rfl, hb13⟩
        have HB13 := Lib.hid (HBr.out.trans (hb13.mono HBr.out.size))
        have HA13 := Lib.hid (HAr.out.next hb13)
        have HV13 := Lib.hid (HVr.out.below hb13)
        have HH13 := Lib.hid (HHr.out.below hb13)
        have HD13 := Lib.hid (HDr.out.below hb13)
        have HR13 := Lib.hid (HRr.out.below hb13)
        have HZ13 : Hid (w1.heap.size ≤ w13.heap.size) := Nat.le_trans HZr.out hb13.size
        have HW13 := Lib.hid (ownK_row HV13.out)
        clear hb13 CR HVr HHr HDr HRr HAr HBr HWr HZr c0 c1 c2 c3 c4 c5 c6 c7 c8 c9 c10 c11
        cases rb
        · rcases HFT.out with ⟨h1, _⟩ | ⟨_, h1, _⟩ | ⟨_, _, h1, rfl, rfl, rfl, rfl⟩ | ⟨_, _, h1, rfl, ⟨p', hp', rfl⟩, rfl, rfl⟩
          · rw [HK0.out] at h1; cases h1
          · rw [HRB.out] at h1; cases h1
          · rw [HST.out] at h1
            by_cases hfl : 16 ≤ n
            · have hflz : (16 : Int) ≤ (n : Int) := by omega
              clear h1
              go_wp2
              refine bodyPost_ret (Pr.results_tmp4 rfl _ _ _) rfl ?_
              exact ⟨_, _, _, _, _, _, none, 0, 0, rfl, HVN.out, HN.out, rfl, HW13.out, HR13.out, RowO.nil _ _, hnc2, HB13.out, HV13.out.rowGe, geO_of HH13.out HD13.out HZ1.out HZ1.out⟩
            · have hflz : ¬ (16 : Int) ≤ (n : Int) := by omega
              obtain rfl : sb = true := by
                rw [Bool.or_eq_true, decide_eq_true_eq] at h1
                rcases h1 with h1 | h1
                · have := HN.out; omega
                · exact h1
              clear h1
              go_wp2
              refine bodyPost_ret (Pr.results_tmp4 rfl _ _ _) rfl ?_
              exact ⟨_, _, _, _, _, _, none, 0, 0, rfl, HVN.out, HN.out, rfl, HW13.out, HR13.out, RowO.nil _ _, hnc2, HB13.out, HV13.out.rowGe, geO_of HH13.out HD13.out HZ1.out HZ1.out⟩
          · rw [HST.out, Bool.or_eq_false_iff, decide_eq_false_iff_not] at h1
            obtain ⟨h1a, rfl⟩ := h1
            obtain rfl : p = p' := pos_uniq HPI.out hp'
            have hpn : p ≤ n := by have := hp'.1; have := HN.out; omega
            have hflz : ¬ (16 : Int) ≤ (n : Int) := by have := HN.out; omega
            have hsl1 : ∀ W, (Instr.slice 23 (.slice ha2 n cq) none (some (.int .i64 (p : Int))) none).run Tryd.prog W = .ok (.slice ha2 p cq) W := fun W => sliceO_h W ha2 n cq p p rfl (by omega)
            have hsl2 : ∀ W, (Instr.slice 23 (.slice ha2 n cq) (some (.int .i64 (p : Int))) none none).run Tryd.prog W = .ok (.slice (partO ha2 p cq) (n - p) (cq - p)) W := fun W => sliceO_l W ha2 n cq p p rfl hpn
            have C10 := Lib.hid (copyOps_any ha2 (hs.take p) p cq w13 (HR13.out.first p) (by rw [List.length_take]; have := HN.out; omega) (by rw [List.length_take]; omega))
            have HSRC := Lib.hid (fun W (hb : Below w13.heap.size w13 W) => (HH13.out.below hb).srcRest (depsN_one (HD13.out.below hb) HH13.out.len) p hpn)
            have HLP : Hid ((hs.take p).length = p ∧ (hs.drop p).length = n - p) := ⟨by rw [List.length_take]; have := HN.out; omega, by rw [List.length_drop]; have := HN.out; omega⟩
            clear h1a hp'
            generalize partO ha2 p cq = pa at *
            generalize hnp : n - p = n9 at *
            generalize cq - p = c9 at *
            have HNP := Lib.hid hnp
            clear hnp
            go_wp2_with fail
            refine (C10.out).mono ?_
            rintro e w14 ⟨l4, dl4, rfl, ho14, hd14, hb14⟩
            have HO14 := Lib.hid ho14
            have HD14 := Lib.hid hd14
            have HE14 := Lib.hid hb14
            have C17 := Lib.hid (copyOp_any o.1.t o.1.r o.2 oa o.1.ds on oc o.1.k o.1.nt o.1.nr o.1.pt o.1.pr o.1.s o.1.p o.1.v w14 (HRO.out w14 (HB13.out.trans (hb14.mono HB13.out.size))) HON.out.symm (by have := HOL.out; have := HON.out; omega))
            have HA14 := Lib.hid (HA13.out.next hb14)
            clear ho14 hd14 hb14 C10
            obtain ⟨c0, c1, c2, c3, c4, c5, c6, c7, c8, c9, c10, c11⟩ := HA14.out
            go_wp2_with fail
            refine (C17.out).mono ?_
            rintro e w15 ⟨oa5, on5, oc5, rfl, ho15, hb15⟩
            have HE15 := Lib.hid (HE14.out.trans (hb15.mono HE14.out.size))
            have HO15 := Lib.hid (HO14.out.below hb15)
            have HD15 := Lib.hid (HD14.out.below hb15)
            have HX15 := Lib.hid (ho15.mono HE14.out.size)
            clear ho15 hb15 C17 c0 c1 c2 c3 c4 c5 c6 c7 c8 c9 c10 c11
            go_wp2_with (first
              | (at_builtin
                 refine wpO_one rfl _ _ rfl w13.heap.size w15 l4 (hs.take p) dl4 o.1.t o.1.r o.2 oa5 o.1.ds on5 oc5 o.1.k o.1.nt o.1.nr o.1.pt o.1.pr o.1.s o.1.p o.1.v rfl HO15.out _ rfl rfl (by have := HLP.out.1; omega) HE15.out.size ?_
                 intro v6 w16 hp6
                 have HE16 := Lib.hid (hp6.bel HE15.out (Nat.le_refl _) HE15.out.size)
                 have HP6 := Lib.hid hp6
                 have HSR := Lib.hid (HSRC.out w16 HE16.out)
                 clear hp6)
              | (at_builtin
                 refine wpO_src rfl _ _ rfl w13.heap.size w16 v6 (hs.take p ++ [o]) (dl4 ++ [.slice oa5 on5 oc5]) pa n9 c9 (hs.drop p) (dl.drop p) rfl HP6.out.own rfl HSR.out HLP.out.2.symm (by rw [List.length_append]; have h1 := HLP.out; have h2 := HNP.out; simp only [List.length_singleton]; omega) HE16.out.size ?_
                 intro v7 w17 ho17 hg17 _
                 have HO17 := Lib.hid ho17
                 have HG17 := Lib.hid hg17
                 clear ho17 hg17))
            refine bodyPost_ret (Pr.results_tmp4 rfl _ _ _) rfl ?_
            have hE17 := HE16.out.grown HG17.out HE16.out.size (fun g hg => (HP6.out.own.lt hg).1)
            have hz13 := HB13.out.size
            have hdn1 : DepsN w17 w.heap.size (hs.take p) dl4 := ((HD15.out.N.grown HO15.out HP6.out.gr).grown HP6.out.own HG17.out).mono hz13
            have hx16 := HP6.out.row HX15.out
            have hdn2 : DepsN w17 w.heap.size [o] [.slice oa5 on5 oc5] := (DepsN.one (hx16.grown HG17.out (apart_types hx16 HP6.out.own)) (by have := HOL.out; have := HON.out; omega)).mono hz13
            have hdn3 : DepsN w17 w.heap.size (hs.drop p) (dl.drop p) := ((HD13.out.below hE17).drop p).mono HZ1.out
            have hdall := (hdn1.append hdn2 HO14.out.len).append hdn3 (by rw [List.length_append, List.length_append, HO14.out.len]; rfl)
            obtain ⟨a7, n7, c7, rfl, hn7, hc7, hr7⟩ := HO17.out.row hdall.read
            refine ⟨_, _, _, a7, n7, c7, none, 0, 0, rfl, HVN.out, ?_, rfl, HW13.out.below hE17 (Nat.le_refl _), ?_, RowO.nil _ _, hc7, HB13.out.trans (hE17.mono hz13), HV13.out.rowGe, ?_⟩
            · rw [hn7]; simp
            · rw [List.append_assoc] at hr7; exact hr7
            · have hge := geO_of HO17.out hdall hz13 (Nat.le_refl w.heap.size)
              rw [List.append_assoc] at hge
              exact hge
        · rcases HFT.out with ⟨h1, _⟩ | ⟨_, _, h1, h2, h3⟩ | ⟨_, h1, _⟩ | ⟨_, h1, _⟩
          · rw [HK0.out] at h1; cases h1
          · subst h3
            have HEQ := Lib.hid h1
            have HBE := Lib.hid h2
            clear h1 h2
            have C17 := Lib.hid (copyOp_any o.1.t o.1.r o.2 oa o.1.ds on oc o.1.k o.1.nt o.1.nr o.1.pt o.1.pr o.1.s o.1.p o.1.v w13 (HRO.out w13 HB13.out) HON.out.symm (by have := HOL.out; have := HON.out; omega))
            obtain ⟨c0, c1, c2, c3, c4, c5, c6, c7, c8, c9, c10, c11⟩ := HA13.out
            go_wp2_with fail
            refine (C17.out).mono ?_
            rintro e w14 ⟨oa5, on5, oc5, rfl, ho14, hb14⟩
            have HB14 := Lib.hid (HB13.out.trans (hb14.mono HB13.out.size))
            have HV14 := Lib.hid (HV13.out.below hb14)
            have HH14 := Lib.hid (HH13.out.below hb14)
            have HD14 := Lib.hid (HD13.out.below hb14)
            have HZ14 : Hid (w1.heap.size ≤ w14.heap.size) := Nat.le_trans HZ13.out hb14.size
            have HA14 := Lib.hid (HA13.out.next hb14)
            have hz13 : w1.heap.size ≤ w13.heap.size := HZ13.out
            have HX14 := Lib.hid (ho14.mono hz13)
            clear ho14 hb14 C17 hz13 c0 c1 c2 c3 c4 c5 c6 c7 c8 c9 c10 c11
            have HPT : Hid (PtS w (w14.alloc (objO o oa5 on5 oc5)) w1.heap.size gv cv vn v ha2 n cq hs dl (some ⟨w14.heap.size, 0, none⟩) 1 1 [o] [.slice oa5 on5 oc5]) := by
              have hb := box_bel w14 (objO o oa5 on5 oc5)
              refine ⟨HGV.out, HGB.out, HZ1.out, by have := HZ14.out; rw [World.size_alloc]; omega, HV14.out.below hb, HVN.out.symm, HH14.out.below hb, HD14.out.below hb, ownO_one w14 _ o oa5 on5 oc5 HZ14.out, DepsN.one (HX14.out.below hb) (by have := HOL.out; have := HON.out; omega), ?_, HB14.out.alloc HB14.out.size _⟩
              cases hq : (Value.slice ha2 n cq).ownBlock with
              | none => exact .inl rfl
              | some q => exact .inr fun e => by have h1 := (HH14.out.lt hq).2; have e2 : q = w14.heap.size := (by simpa [Value.ownBlock] using e); omega
            have HPW : Hid (PtS w ((w14.setCell ⟨gv, o.1.r.toNat, none⟩ (.int .i64 o.2)).alloc (objO o oa5 on5 oc5)) w1.heap.size gv cv vn (setV v o) ha2 n cq hs dl (some ⟨w14.heap.size, 0, none⟩) 1 1 [o] [.slice oa5 on5 oc5]) := by
              have h := HPT.out.write o
              have hlt : gv < w14.heap.size := by have h1 := HGB.out; have h2 := HZ14.out; omega
              have he : (w14.alloc (objO o oa5 on5 oc5)).setCell ⟨gv, o.1.r.toNat, none⟩ (.int .i64 o.2) = (w14.setCell ⟨gv, o.1.r.toNat, none⟩ (.int .i64 o.2)).alloc (objO o oa5 on5 oc5) := World.setCell_alloc_past (w := w14) _ _ _ _ hlt
              rw [he] at h
              exact h
            obtain ⟨c0, c1, c2, c3, c4, c5, c6, c7, c8, c9, c10, c11⟩ := HA14.out.next (box_bel w14 (objO o oa5 on5 oc5))
            obtain ⟨gc, gf, -, -⟩ := OwnK.cellAt HVN.out.symm HPT.out.own o.1.r.toNat hrt
            have hgvlt : gv < w14.heap.size := by have h1 := HGB.out; have h2 := HZ14.out; omega
            have hgvne : gv ≠ w14.heap.size := Nat.ne_of_lt hgvlt
            go_wp2_with fail
            clear gc gf hgvlt hgvne HV14 HH14 HD14 HA14 HX14 HPT HV13 HH13 HD13 HR13 HW13 HA13 HB14 HB13 c0 c1 c2 c3 c4 c5 c6 c7 c8 c9 c10 c11
            generalize (w14.setCell ⟨gv, o.1.r.toNat, none⟩ (.int .i64 o.2)).alloc (objO o oa5 on5 oc5) = W15 at HPW ⊢
            have HPM : Hid (PgM hs (a, d) (setV v o) hs [o] 0 hs.length) := ⟨HEQ.out.symm, cntN_le _ _, rfl, fun j y hj => absurd hj (Nat.not_lt_zero _), fun y hy => fits_set HF.out (HFH.out y hy), fun y hy => fits_set HF.out (HFH.out y hy)⟩
            go_loopg [1, 15, 16] 400 (fun gg s1 s15 s16 wr => ∃ (i f n3 : Nat) (ha3 : Option Addr) (c3 : Nat) (rest : List OpD) (dl3 : List Value) (ta : Option Addr) (tn tc : Nat) (tk : List OpD) (tl : List Value) (v' : List Int), s1 = .slice ha3 n3 c3 ∧ s15 = .slice ta tn tc ∧ s16 = .int .i64 (i : Int) ∧ i ≤ n3 ∧ n3 * 17 + (n3 - i) ≤ gg ∧ n3 ≤ 16 ∧ tn + n3 ≤ 17 ∧ Hid (PgM hs (a, d) v' rest tk i f) ∧ Hid (PtS w wr w1.heap.size gv cv vn v' ha3 n3 c3 rest dl3 ta tn tc tk tl))
            case atStart => exact ⟨0, hs.length, n, ha2, cq, hs, dl, _, 1, 1, [o], _, setV v o, rfl, rfl, rfl, by omega, by omega, hn16, by omega, HPM.out, HPW.out⟩
            case round =>
              obtain ⟨i, f, n3, ha3, c3, rest, dl3, ta, tn, tc, tk, tl, v', rfl, rfl, rfl, hi, hg3, hn3, htn, HM, HS⟩ := hrel
              have HNL : Hid (n3 = rest.length ∧ n3 ≤ c3) := ⟨HS.out.held.1, HS.out.held.2.1⟩
              by_cases hin : i < n3
              · have hinz : (i : Int) < (n3 : Int) := by omega
                obtain ⟨x, hx⟩ : ∃ x, rest[i]? = some x := ⟨_, List.getElem?_eq_getElem (by rw [← HNL.out.1]; exact hin)⟩
                obtain ⟨g3, da, dc, rfl, hat, hown, hlen, -, -⟩ := HS.out.at hx
                have HX := Lib.hid hx
                have hfx := HM.out.fr x (List.mem_of_getElem? hx)
                have HFX := Lib.hid hfx
                have F := ok_facts (fits_iff.1 hfx).2.1
                have hlt := fits_lt hfx
                have hq0 : 0 ≤ x.1.r := F.r0
                have hvl' := HS.out.len
                have hq1 : x.1.r < (vn : Int) := by omega
                have hqt : x.1.r.toNat < vn := by omega
                obtain ⟨rb, hrb⟩ : ∃ rb, readyB v' x = rb := ⟨_, rfl⟩
                have CR := Lib.hid (refReady_any (some ⟨gv, 0, none⟩) v' vn cv x da x.1.ds.length dc wr HS.out.vec hvl'.symm (ownK_row' hown) rfl hfx)
                rw [hrb] at CR
                have HRB := Lib.hid hrb
                have HAT := Lib.hid hat
                have HOW := Lib.hid hown
                have HLN := Lib.hid hlen
                clear hx hrb hown hlen hfx F hlt hvl'
                generalize hdn : x.1.ds.length = dn at *
                have HDN := Lib.hid hdn
                clear hdn
                obtain ⟨c0, c1, c2, c3', c4, c5, c6, c7, c8, c9, c10, c11⟩ := hat
                go_wp2_with fail
                refine (CR.out).mono ?_
                rintro e w21 ⟨rfl, hb21⟩
                have HS1 := Lib.hid (HS.out.next hb21)
                have HAT1 := Lib.hid (HAT.out.next hb21)
                have HOW1 := Lib.hid (HOW.out.below hb21)
                clear hb21 CR HS HAT HOW c0 c1 c2 c3' c4 c5 c6 c7 c8 c9 c10 c11
                cases rb
                · go_wp2_with fail
                  go_roundg (n3 * 17 + (n3 - (i + 1)))
                  case measure => omega
                  case rel => exact ⟨i + 1, f, n3, _, c3, rest, dl3, ta, tn, tc, tk, tl, v', rfl, rfl, by go_num, by omega, Nat.le_refl _, hn3, htn, HM.out.skip HX.out HRB.out, HS1.out⟩
                · obtain ⟨f', rfl, hM2⟩ := HM.out.take HX.out HRB.out
                  have HM2 := Lib.hid hM2
                  have HSB := Lib.hid (HS1.out.next (box_bel w21 (objO x da dn dc)))
                  have HSRC := Lib.hid ((ownO_one w21 w1.heap.size x da dn dc HS1.out.ble).src (fun d' hd' => by simp only [List.mem_singleton] at hd'; rw [hd']; rfl))
                  have HTN := Lib.hid HS1.out.taken.1
                  have HOWB := Lib.hid (HOW1.out.below (box_bel w21 (objO x da dn dc)))
                  clear hM2
                  obtain ⟨c0, c1, c2, c3', c4, c5, c6, c7, c8, c9, c10, c11⟩ := HAT1.out
                  go_wp2_with (at_builtin
                               refine wpO_src rfl _ _ rfl w1.heap.size _ (.slice ta tn tc) tk tl (some ⟨w21.heap.size, 0, none⟩) 1 1 [x] [.slice da dn dc] rfl HSB.out.tak rfl HSRC.out rfl (by have := HTN.out; simp only [List.length_singleton]; omega) HSB.out.ble ?_
                               intro v6 w22 ho22 hg22 h522
                               obtain ⟨ta2, tc2, rfl, hs22⟩ := HSB.out.push HOWB.out (by rw [HDN.out]; exact HLN.out) ho22 hg22 h522
                               have HS22 := Lib.hid hs22
                               clear ho22 hg22 h522 hs22)
                  obtain ⟨g3', da', dc', e3, hat3, -, -, -, -⟩ := HS22.out.at HX.out
                  obtain rfl : g3 = g3' := by simpa using e3
                  clear e3 c0 c1 c2 c3' c4 c5 c6 c7 c8 c9 c10 c11
                  generalize x.1.ds.length = dn' at hat3
                  obtain ⟨c0, c1, c2, c3', c4, c5, c6, c7, c8, c9, c10, c11⟩ := hat3
                  obtain ⟨gc, gf, -, -⟩ := OwnK.cellAt HS22.out.len HS22.out.own x.1.r.toNat hqt
                  have gc' : w22.drew.cell? ⟨gv, x.1.r.toNat, none⟩ = _ := gc
                  have gf' : w22.drew.frozen? ⟨gv, x.1.r.toNat, none⟩ = false := gf
                  have HSW := Lib.hid ((HS22.out.next (Below.refl w22.heap.size w22).drew).write x)
                  have CW := Lib.hid (without_any (some ⟨g3, 0, none⟩) rest n3 c3 i _ HSW.out.held.2.2 HNL.out.1 HNL.out.2 hin (by omega))
                  have HNL3 : Hid (rest.length = n3 ∧ n3 ≤ c3) := ⟨HNL.out.1.symm, HNL.out.2⟩
                  go_wp2_with fail
                  go_still_tail 13, (by kernel_rfl)
                  change wpList _ _ _ _ _ w22.drew
                  clear gc gf
                  generalize w22.drew = w23 at *
                  go_wp2_with fail
                  refine (CW.out).mono ?_
                  rintro e w24 ⟨vv, dl4, rfl, ho24, hd24, hb24⟩
                  obtain ⟨a4, n4, c4', rfl, hn4, hc4, -⟩ := ho24.form
                  have hn4' : n4 = n3 - 1 := by rw [hn4, List.length_append, List.length_take, List.length_drop]; have := HNL3.out.1; omega
                  have HS24 := Lib.hid ((HSW.out.next hb24).swap (ho24.mono HSW.out.ble) (hd24.mono HSW.out.ble) (by
                    cases hq : (Value.slice a4 n4 c4').ownBlock with
                    | none => exact .inl rfl
                    | some q => exact .inr fun e => by have h1 := (ho24.lt hq).1; have h2 := (HSW.out.tak.lt e.symm).2; omega))
                  clear ho24 hd24 hb24 hn4 CW HSW
                  go_wp2_with fail
                  go_roundg ((n3 - 1) * 17 + (n3 - 1))
                  case measure => omega
                  case rel => exact ⟨0, f', n4, a4, c4', rest.take i ++ rest.drop (i + 1), dl4, ta2, tn + 1, tc2, tk ++ [x], _, setV v' x, by rw [hn4'], rfl, rfl, by omega, by omega, by omega, by omega, HM2.out, HS24.out⟩
              · have hinz : ¬ (i : Int) < (n3 : Int) := by omega
                obtain ⟨rfl, rfl⟩ : a = v' ∧ d = tk := Prod.mk.inj (HM.out.done (by have := HNL.out.1; omega))
                have HAB := Lib.hid HM.out.ab
                have HFR := Lib.hid HM.out.fr
                have HSP := HS
                clear HS HM HPM HPW
                go_wp2_with fail
                go_loopg [1, 17] n3 (fun g5 s1 s17 w5 => ∃ (i5 n5 : Nat) (ha5 : Option Addr) (c5 : Nat) (rest5 : List OpD) (dl5 : List Value), s1 = .slice ha5 n5 c5 ∧ s17 = .int .i64 (i5 : Int) ∧ i5 ≤ n5 ∧ n5 - i5 ≤ g5 ∧ n5 ≤ 16 ∧ Hid (aboveL a rest5 = aboveL a hs ∧ (∀ y ∈ rest5, fitsB a y = true) ∧ (∀ j y, j < i5 → rest5[j]? = some y → newB a y = true)) ∧ Hid (PtS w w5 w1.heap.size gv cv vn a ha5 n5 c5 rest5 dl5 ta tn tc d tl))
                case atStart => exact ⟨0, n3, ha3, c3, rest, dl3, rfl, rfl, by omega, by omega, hn3, ⟨HAB.out, HFR.out, fun j y hj => absurd hj (Nat.not_lt_zero _)⟩, HSP.out⟩
                case round =>
                  clear HSP
                  obtain ⟨i5, n5, ha5, c5, rest5, dl5, rfl, rfl, hi5, hg5, hn5, HQ, HS⟩ := hrel
                  have HNL5 : Hid (n5 = rest5.length ∧ n5 ≤ c5) := ⟨HS.out.held.1, HS.out.held.2.1⟩
                  by_cases hin5 : i5 < n5
                  · have hin5z : (i5 : Int) < (n5 : Int) := by omega
                    obtain ⟨x, hx⟩ : ∃ x, rest5[i5]? = some x := ⟨_, List.getElem?_eq_getElem (by rw [← HNL5.out.1]; exact hin5)⟩
                    obtain ⟨g3, da, dc, rfl, hat, -, -, -, -⟩ := HS.out.at hx
                    have HX := Lib.hid hx
                    have hfx := HQ.out.2.1 x (List.mem_of_getElem? hx)
                    have F := ok_facts (fits_iff.1 hfx).2.1
                    have hlt := fits_lt hfx
                    have hvl' := HS.out.len
                    have hq0 : 0 ≤ x.1.r := F.r0
                    have hq1 : x.1.r < (vn : Int) := by omega
                    have hqt : x.1.r.toNat < vn := by omega
                    obtain ⟨gc, -, -, -⟩ := OwnK.cellAt HS.out.len HS.out.own x.1.r.toNat hqt
                    obtain ⟨db, hdb⟩ : ∃ db, decide (x.2 ≤ a.getD x.1.r.toNat 0) = db := ⟨_, rfl⟩
                    have HNB : Hid (newB a x = !db) := by
                      show _ = _
                      rw [← hdb]
                      unfold newB atV
                      by_cases h : x.2 ≤ a.getD x.1.r.toNat 0
                      · rw [decide_eq_true h, decide_eq_false (by omega)]; rfl
                      · rw [decide_eq_false h, decide_eq_true (by omega)]; rfl
                    clear hx hfx F hlt hvl'
                    generalize x.1.ds.length = dn' at hat
                    obtain ⟨c0, c1, c2, c3', c4, c5', c6, c7, c8, c9, c10, c11⟩ := hat
                    generalize a.getD x.1.r.toNat 0 = az at *
                    have CW := Lib.hid (fun m => without_any (some ⟨g3, 0, none⟩) rest5 n5 c5 i5 (wr.drewN m) (HS.out.next (below_drewN (Below.refl _ _) m)).held.2.2 HNL5.out.1 HNL5.out.2 hin5 (by omega))
                    go_wp2_with fail
                    go_quiet (fail)
                    have HSN := Lib.hid (HS.out.next (below_drewN (Below.refl _ _) nq))
                    clear c0 c1 c2 c3' c4 c5' c6 c7 c8 c9 c10 c11 gc
                    cases db
                    · go_wp2_with fail
                      go_roundg (n5 - (i5 + 1))
                      case measure => omega
                      case rel => exact ⟨i5 + 1, n5, _, c5, rest5, dl5, rfl, by go_num, by omega, Nat.le_refl _, hn5, ⟨HQ.out.1, HQ.out.2.1, fun j y hj hy => by
                        by_cases e : j = i5
                        · subst e
                          rw [HX.out] at hy
                          injection hy with hy
                          rw [← hy, HNB.out]
                          rfl
                        · exact HQ.out.2.2 j y (by omega) hy⟩, HSN.out⟩
                    · go_wp2_with fail
                      refine (CW.out _).mono ?_
                      rintro e w24 ⟨vv, dl4, rfl, ho24, hd24, hb24⟩
                      obtain ⟨a4, n4, c4', rfl, hn4, hc4, -⟩ := ho24.form
                      have hn4' : n4 = n5 - 1 := by rw [hn4, List.length_append, List.length_take, List.length_drop]; have := HNL5.out.1; omega
                      have HS24 := Lib.hid ((HSN.out.next hb24).swap (ho24.mono HSN.out.ble) (hd24.mono HSN.out.ble) (by
                        cases hq : (Value.slice a4 n4 c4').ownBlock with
                        | none => exact .inl rfl
                        | some q => exact .inr fun e => by have h1 := (ho24.lt hq).1; have h2 := (HSN.out.tak.lt e.symm).2; omega))
                      clear ho24 hd24 hb24 hn4 CW
                      go_wp2_with fail
                      go_roundg (n5 - 1 - i5)
                      case measure => omega
                      case rel => exact ⟨i5, n4, a4, c4', rest5.take i5 ++ rest5.drop (i5 + 1), dl4, by rw [hn4'], rfl, by omega, by omega, by omega, ⟨by rw [above_drop HX.out (by rw [HNB.out]; rfl)]; exact HQ.out.1, fun y hy => HQ.out.2.1 y (by
                        rcases List.mem_append.1 hy with hy | hy
                        · exact List.mem_of_mem_take hy
                        · exact List.mem_of_mem_drop hy), fun j y hj hy => HQ.out.2.2 j y hj (by rwa [List.getElem?_append_left (by rw [List.length_take]; have := HNL5.out.1; omega), List.getElem?_take, if_pos hj] at hy)⟩, HS24.out⟩
                  · have hin5z : ¬ (i5 : Int) < (n5 : Int) := by omega
                    have HBR : Hid (b = rest5) := by
                      show _ = _
                      rw [HBE.out, ← HQ.out.1]
                      exact above_self fun j y hj hy => HQ.out.2.2 j y (by have := HNL5.out.1; omega) hy
                    have hheld := HS.out.held
                    have htk := HS.out.taken
                    have HHD := Lib.hid hheld
                    have HTK := Lib.hid htk
                    clear hheld htk
                    go_wp2
                    refine bodyPost_ret (Pr.results_tmp4 rfl _ _ _) rfl ?_
                    exact ⟨_, _, _, _, _, _, _, _, _, rfl, HS.out.len.symm, by rw [HBR.out]; exact HHD.out.1, HTK.out.1, HS.out.vec, by rw [HBR.out]; exact HHD.out.2.2, HTK.out.2.2, HHD.out.2.1, HS.out.bel, HS.out.own.rowGe, by rw [HBR.out]; exact geO_of HS.out.hld HS.out.hdp HS.out.bge HS.out.bge⟩
          · rw [HRB.out] at h1; cases h1
          · rw [HRB.out] at h1; cases h1
      · have hk := HKN.out
        rcases HFT.out with ⟨h1, rfl, rfl, rfl, rfl⟩ | ⟨h1, _⟩ | ⟨h1, _⟩ | ⟨h1, _⟩
        · clear hk h1
          go_wp2
          refine bodyPost_ret (Pr.results_tmp4 rfl _ _ _) rfl ?_
          exact ⟨_, _, _, _, _, _, none, 0, 0, rfl, HVN.out, HN.out, rfl, HWr.out, HRr.out, RowO.nil _ _, hnc2, HBr.out, HVr.out.rowGe, geO_of HHr.out HDr.out HZ1.out HZ1.out⟩
        all_goals (rw [hk] at h1; cases h1)
end Go.Proofs.YtdpopdlifcjdeaaDoor
