/- Joined: D30. -/
import Derived.Test.YtdpopdlifcjdeaaDoorYD14
import Derived.Test.YtdpopdlifcjdeaaDoorYD24
import Derived.Test.YtdpopdlifcjdeaaDoorYD25
import Derived.Test.YtdpopdlifcjdeaaDoorYD28
import Derived.Test.YtdpopdlifcjdeaaDoorYD29
import Derived.Deep.CutRange

/- Hold: HoldExact's walk. -/
namespace Go.Proofs.YtdpopdlifcjdeaaDoor
open Go.RowKit Go.Lib
set_option linter.unusedVariables false

/-- what is carried from call to call: a vector (or not), what is held (or not) -/
structure ExS (w : World) (va : Option Addr) (v : List Int) (vn vc : Nat) (ha : Option Addr) (hs : List OpD) (n c : Nat) : Prop where
  rv : RowK .i64 w va v
  vl : vn = v.length
  vm : v.length ≤ 17592186044416
  rh : RowO w ha hs
  hl : n = hs.length
  hm : hs.length * 120 ≤ 140737488355328
  hk : n ≤ c
theorem ExS.below {w w' : World} {va : Option Addr} {v : List Int} {vn vc : Nat} {ha : Option Addr} {hs : List OpD} {n c : Nat} (h : ExS w va v vn vc ha hs n c) (hb : Below w.heap.size w w') : ExS w' va v vn vc ha hs n c := ⟨h.rv.below hb (Nat.le_refl _), h.vl, h.vm, h.rh.below hb, h.hl, h.hm, h.hk⟩
theorem ExS.of {w : World} {b1 b2 : Nat} {v1 v2 : Value} {v : List Int} {hs : List OpD} {dl : List Value} (h1 : OwnK .i64 3 w b1 v1 v) (h2 : OwnO w b2 v2 hs dl) (h3 : DepsO w b2 hs dl) (hv : v.length ≤ 17592186044416) (hh : hs.length * 120 ≤ 140737488355328) : ∃ va vn vc ha n c, v1 = .slice va vn vc ∧ v2 = .slice ha n c ∧ ExS w va v vn vc ha hs n c := by
  obtain ⟨va, vc, rfl, hr, -⟩ := h1.form
  obtain ⟨ha, n, c, rfl, e, hc, hro⟩ := h2.row h3.read
  exact ⟨va, _, vc, ha, n, c, rfl, rfl, hr, rfl, hv, hro, e, hh, hc⟩
theorem sc_mk {w w0 W : World} {va : Option Addr} {vn vc : Nat} {ha : Option Addr} {hn hc : Nat} {la : Option Addr} {ln lc : Nat} (h : ScAt w0 w.heap.size va vn vc ha hn hc la ln lc) (hb : Below w0.heap.size w0 W) : W.cell? ⟨w.heap.size, 0, none⟩ = some (.slice va vn vc) ∧ W.cell? ⟨w.heap.size, 1, none⟩ = some (.slice ha hn hc) ∧ Hid (Below w0.heap.size w0 W) := by
  have a := h.next hb
  exact ⟨a.c0, a.c1, hb⟩
theorem ex_mk {w16 W : World} {gx : Nat} {x : OpD} {da : Option Addr} {dn dc : Nat} (h : OpX w16 gx 0 x da dn dc) (hb : Below w16.heap.size w16 W) : W.cell? ⟨gx, 0, none⟩ = some (.int .i64 x.1.t) ∧ W.cell? ⟨gx, 0 + 1, none⟩ = some (.int .i64 x.1.r) ∧ W.cell? ⟨gx, 0 + 2, none⟩ = some (.int .i64 x.2) ∧ W.cell? ⟨gx, 0 + 3, none⟩ = some (.slice da dn dc) ∧ W.cell? ⟨gx, 0 + 4, none⟩ = some (.int .i64 x.1.k) ∧ W.cell? ⟨gx, 0 + 5, none⟩ = some (.int .i64 x.1.nt) ∧ W.cell? ⟨gx, 0 + 6, none⟩ = some (.int .i64 x.1.nr) ∧ W.cell? ⟨gx, 0 + 7, none⟩ = some (.int .i64 x.1.pt) ∧ W.cell? ⟨gx, 0 + 8, none⟩ = some (.int .i64 x.1.pr) ∧ W.cell? ⟨gx, 0 + 9, none⟩ = some (.string x.1.s) ∧ W.cell? ⟨gx, 0 + 10, none⟩ = some (.int .i64 x.1.p) ∧ W.cell? ⟨gx, 0 + 11, none⟩ = some (.int .i64 x.1.v) ∧ Hid (Below w16.heap.size w16 W) := by
  have a := h.next hb
  exact ⟨a.c0, a.c1, a.c2, a.c3, a.c4, a.c5, a.c6, a.c7, a.c8, a.c9, a.c10, a.c11, hb⟩
theorem ex_bel {w16 W : World} {gx : Nat} {x : OpD} {da : Option Addr} {dn dc : Nat} (h : W.cell? ⟨gx, 0, none⟩ = some (.int .i64 x.1.t) ∧ W.cell? ⟨gx, 0 + 1, none⟩ = some (.int .i64 x.1.r) ∧ W.cell? ⟨gx, 0 + 2, none⟩ = some (.int .i64 x.2) ∧ W.cell? ⟨gx, 0 + 3, none⟩ = some (.slice da dn dc) ∧ W.cell? ⟨gx, 0 + 4, none⟩ = some (.int .i64 x.1.k) ∧ W.cell? ⟨gx, 0 + 5, none⟩ = some (.int .i64 x.1.nt) ∧ W.cell? ⟨gx, 0 + 6, none⟩ = some (.int .i64 x.1.nr) ∧ W.cell? ⟨gx, 0 + 7, none⟩ = some (.int .i64 x.1.pt) ∧ W.cell? ⟨gx, 0 + 8, none⟩ = some (.int .i64 x.1.pr) ∧ W.cell? ⟨gx, 0 + 9, none⟩ = some (.string x.1.s) ∧ W.cell? ⟨gx, 0 + 10, none⟩ = some (.int .i64 x.1.p) ∧ W.cell? ⟨gx, 0 + 11, none⟩ = some (.int .i64 x.1.v) ∧ Hid (Below w16.heap.size w16 W)) : Below w16.heap.size w16 W := h.2.2.2.2.2.2.2.2.2.2.2.2
theorem sets_bel {w16 W : World} {g : Nat} (x : OpD) (oa19 : Option Addr) (on19 oc19 : Nat) (hb : Below w16.heap.size w16 W) (hg : w16.heap.size ≤ g) : Below w16.heap.size w16 ((((((((((((W.setCell ⟨g, 0, none⟩ (.int .i64 x.1.t)).setCell ⟨g, 1, none⟩ (.int .i64 x.1.r)).setCell ⟨g, 2, none⟩ (.int .i64 x.2)).setCell ⟨g, 3, none⟩ (.slice oa19 on19 oc19)).setCell ⟨g, 4, none⟩ (.int .i64 x.1.k)).setCell ⟨g, 5, none⟩ (.int .i64 x.1.nt)).setCell ⟨g, 6, none⟩ (.int .i64 x.1.nr)).setCell ⟨g, 7, none⟩ (.int .i64 x.1.pt)).setCell ⟨g, 8, none⟩ (.int .i64 x.1.pr)).setCell ⟨g, 9, none⟩ (.string x.1.s)).setCell ⟨g, 10, none⟩ (.int .i64 x.1.p)).setCell ⟨g, 11, none⟩ (.int .i64 x.1.v)) := by
  exact ((((((((((((hb.setCell (p := ⟨g, 0, none⟩) hg _).setCell (p := ⟨g, 1, none⟩) hg _).setCell (p := ⟨g, 2, none⟩) hg _).setCell (p := ⟨g, 3, none⟩) hg _).setCell (p := ⟨g, 4, none⟩) hg _).setCell (p := ⟨g, 5, none⟩) hg _).setCell (p := ⟨g, 6, none⟩) hg _).setCell (p := ⟨g, 7, none⟩) hg _).setCell (p := ⟨g, 8, none⟩) hg _).setCell (p := ⟨g, 9, none⟩) hg _).setCell (p := ⟨g, 10, none⟩) hg _).setCell (p := ⟨g, 11, none⟩) hg _)
/-- what is held behind the copies: the vector's, the list's, the operation's -/
structure ExQ (w16 W : World) (gz : Nat) (v17 : Value) (xv : List Int) (v18 : Value) (ys : List OpD) (dl : List Value) (x : OpD) (oa : Option Addr) (on oc : Nat) : Prop where
  bel : Below w16.heap.size w16 W
  vec : OwnK .i64 3 W w16.heap.size v17 xv
  row : OwnO W w16.heap.size v18 ys dl
  dep : DepsO W w16.heap.size ys dl
  opd : OwnK .i64 3 W w16.heap.size (.slice oa on oc) x.1.ds
  box : OpX W gz 0 x oa on oc
theorem exq_sets {w16 W : World} {gz : Nat} {v17 v18 : Value} {xv : List Int} {ys : List OpD} {dl : List Value} {x : OpD} {oa19 : Option Addr} {on19 oc19 : Nat} {b1 b2 b3 : Nat} (hb : Below w16.heap.size w16 W) (hg : w16.heap.size ≤ gz) (hz : Blk W gz (zR.cells 0 (.slice none 0 0))) (h1 : OwnK .i64 3 W b1 v17 xv) (h2 : OwnO W b2 v18 ys dl) (h3 : DepsO W b2 ys dl) (h4 : OwnK .i64 3 W b3 (.slice oa19 on19 oc19) x.1.ds)
    (n1 : w16.heap.size ≤ b1) (n2 : w16.heap.size ≤ b2) (n3 : w16.heap.size ≤ b3) (e1 : v17.ownBlock ≠ some gz) (e2 : v18.ownBlock ≠ some gz) (e3 : ∀ d ∈ dl, d.ownBlock ≠ some gz) (e4 : (Value.slice oa19 on19 oc19).ownBlock ≠ some gz) : ExQ w16 ((((((((((((W.setCell ⟨gz, 0, none⟩ (.int .i64 x.1.t)).setCell ⟨gz, 1, none⟩ (.int .i64 x.1.r)).setCell ⟨gz, 2, none⟩ (.int .i64 x.2)).setCell ⟨gz, 3, none⟩ (.slice oa19 on19 oc19)).setCell ⟨gz, 4, none⟩ (.int .i64 x.1.k)).setCell ⟨gz, 5, none⟩ (.int .i64 x.1.nt)).setCell ⟨gz, 6, none⟩ (.int .i64 x.1.nr)).setCell ⟨gz, 7, none⟩ (.int .i64 x.1.pt)).setCell ⟨gz, 8, none⟩ (.int .i64 x.1.pr)).setCell ⟨gz, 9, none⟩ (.string x.1.s)).setCell ⟨gz, 10, none⟩ (.int .i64 x.1.p)).setCell ⟨gz, 11, none⟩ (.int .i64 x.1.v)) gz v17 xv v18 ys dl x oa19 on19 oc19 := by
  have gr : W.grownBy ((((((((((((W.setCell ⟨gz, 0, none⟩ (.int .i64 x.1.t)).setCell ⟨gz, 1, none⟩ (.int .i64 x.1.r)).setCell ⟨gz, 2, none⟩ (.int .i64 x.2)).setCell ⟨gz, 3, none⟩ (.slice oa19 on19 oc19)).setCell ⟨gz, 4, none⟩ (.int .i64 x.1.k)).setCell ⟨gz, 5, none⟩ (.int .i64 x.1.nt)).setCell ⟨gz, 6, none⟩ (.int .i64 x.1.nr)).setCell ⟨gz, 7, none⟩ (.int .i64 x.1.pt)).setCell ⟨gz, 8, none⟩ (.int .i64 x.1.pr)).setCell ⟨gz, 9, none⟩ (.string x.1.s)).setCell ⟨gz, 10, none⟩ (.int .i64 x.1.p)).setCell ⟨gz, 11, none⟩ (.int .i64 x.1.v)) (some gz) := by
    have key : ∀ (V : World) (i : Nat) (u : Value), W.grownBy V (some gz) → W.grownBy (V.setCell ⟨gz, i, none⟩ u) (some gz) := fun V i u h => h.trans (grown_setCell V ⟨gz, i, none⟩ u)
    refine key _ 11 _ (key _ 10 _ (key _ 9 _ (key _ 8 _ (key _ 7 _ (key _ 6 _ (key _ 5 _ (key _ 4 _ (key _ 3 _ (key _ 2 _ (key _ 1 _ (key _ 0 _ (World.grownBy.refl _ _))))))))))))
  have hZ := ((((((((((((hz.set 0 (.int .i64 x.1.t)).set 1 (.int .i64 x.1.r)).set 2 (.int .i64 x.2)).set 3 (.slice oa19 on19 oc19)).set 4 (.int .i64 x.1.k)).set 5 (.int .i64 x.1.nt)).set 6 (.int .i64 x.1.nr)).set 7 (.int .i64 x.1.pt)).set 8 (.int .i64 x.1.pr)).set 9 (.string x.1.s)).set 10 (.int .i64 x.1.p)).set 11 (.int .i64 x.1.v))
  refine ⟨sets_bel x oa19 on19 oc19 hb hg, (h1.grown gr (.inr e1)).mono n1, (h2.grown gr (.inr e2)).mono n2, ⟨fun i y d hi hd => ⟨((h3.own i y d hi hd).1.grown gr (.inr (e3 d (List.mem_of_getElem? hd)))).mono n2, (h3.own i y d hi hd).2⟩, h3.apart⟩, (h4.grown gr (.inr e4)).mono n3, ?_⟩
  exact ⟨hZ.cell 0 _ rfl, hZ.cell 1 _ rfl, hZ.cell 2 _ rfl, hZ.cell 3 _ rfl, hZ.cell 4 _ rfl, hZ.cell 5 _ rfl, hZ.cell 6 _ rfl, hZ.cell 7 _ rfl, hZ.cell 8 _ rfl, hZ.cell 9 _ rfl, hZ.cell 10 _ rfl, hZ.cell 11 _ rfl⟩
theorem exq_alloc {w16 W : World} {v17 v18 : Value} {xv : List Int} {ys : List OpD} {dl : List Value} {x : OpD} {oa19 : Option Addr} {on19 oc19 : Nat} {b1 b2 b3 : Nat} (hb : Below w16.heap.size w16 W) (h1 : OwnK .i64 3 W b1 v17 xv) (h2 : OwnO W b2 v18 ys dl) (h3 : DepsO W b2 ys dl) (h4 : OwnK .i64 3 W b3 (.slice oa19 on19 oc19) x.1.ds) (n1 : w16.heap.size ≤ b1) (n2 : w16.heap.size ≤ b2) (n3 : w16.heap.size ≤ b3) : ExQ w16 (W.alloc (objO x oa19 on19 oc19)) W.heap.size v17 xv v18 ys dl x oa19 on19 oc19 := by
  have hx := box_bel W (objO x oa19 on19 oc19)
  exact ⟨hb.trans (hx.mono hb.size), (h1.below hx).mono n1, (h2.below hx).mono n2, (h3.below hx).mono n2, (h4.below hx).mono n3, OpX.new W x oa19 on19 oc19⟩
theorem ready_all (va : Option Addr) (v : List Int) (vn vc : Nat) (x : OpD) (da : Option Addr) (dn dc : Nat) (w : World) (ht : Pr.Tab w) (hv : RowK .i64 w va v) (hvn : vn = v.length) (hvl : v.length ≤ 140737488355328) (hr : RowK .i64 w da x.1.ds) (hn : dn = x.1.ds.length) (hl : x.1.ds.length ≤ 140737488355328) (fb : Bool) (hf : fitsB v x = fb) :
    Calls Tryd.prog 15 #[.slice va vn vc, valO x da dn dc] w (ReadyPost w (fb && readyB v x) (errC fb)) := by
  cases fb
  · exact ready_no va v vn vc x da dn dc w ht hv hvn hvl hr hn hl hf
  · exact ready_yes va v vn vc x da dn dc w ht hv hvn hr hn hf
set_option maxHeartbeats 16000000 in
set_option maxRecDepth 100000 in
theorem holdExact_walk (va : Option Addr) (v : List Int) (vn vc : Nat) (ha : Option Addr) (hs : List OpD) (hn hc : Nat) (la : Option Addr) (ls : List OpD) (ln lc : Nat) (w : World) (ht : Pr.Tab w) (h : ScR w va v vn vc ha hs hn hc la ls ln lc) :
    Calls Tryd.prog 3 #[.agg #[.slice va vn vc, .slice ha hn hc, .slice la ln lc]] w (BoolPost w true) := by
  have mixed : Tryd.prog.follows .mixedOrders = true := by kernel_rfl
  have HR := Lib.hid h
  have HTW := Lib.hid (fun W (hb : Below w.heap.size w W) => ht.below hb ht.lt)
  clear h ht
  go_enter Tryd.func3, Tryd.ntmps3
  have HBT := Lib.hid (box_bel w (scO va vn vc ha hn hc la ln lc))
  have HSC := Lib.hid (ScAt.new w va vn vc ha hn hc la ln lc)
  have CH := Lib.hid (heavy14_any va v vn vc ha hs hn hc la ls ln lc _ (HR.out.below (box_bel w (scO va vn vc ha hn hc la ln lc))))
  go_wp2_with fail
  refine (CH.out).mono ?_
  rintro e w0 ⟨hvb, rfl, hb0⟩
  have HS0 := Lib.hid (HSC.out.next hb0)
  have HB0 := Lib.hid (HBT.out.trans (hb0.mono HBT.out.size))
  clear hb0 CH HSC HBT
  cases hvb
  · have HCS := Lib.hid (fun W (hb : Below w0.heap.size w0 W) => sc_mk HS0.out hb)
    have hS0 := HCS.out _ (Below.refl w0.heap.size w0).drew
    have C9 := Lib.hid (fun W (hb : Below w.heap.size w W) => copyI_big va v vn vc W (HR.out.rv.below hb (Nat.le_refl _)) HR.out.vl HR.out.vm)
    have C10 := Lib.hid (fun W (hb : Below w.heap.size w W) => copyOps_any ha hs hn hc W (HR.out.rh.below hb) HR.out.hl HR.out.hm)
    have HBX := Lib.hid (fun W (hb : Below w0.heap.size w0 W) => HB0.out.trans (hb.mono HB0.out.size))
    go_wp2_with fail
    go_region_held3 (fun W => W.cell? ⟨w.heap.size, 0, none⟩ = some (.slice va vn vc) ∧ W.cell? ⟨w.heap.size, 1, none⟩ = some (.slice ha hn hc) ∧ Hid (Below w0.heap.size w0 W)) (with_reducible assumption) (first
      | (go_at_call 9
         (with_reducible refine (C9.out _ (HBX.out _ (Below.refl w0.heap.size w0).drew)).mono ?_)
         rintro e w2 ⟨v2, rfl, ho2, hb2⟩
         have HE2 := Lib.hid ((Below.refl w0.heap.size w0).drew.trans hb2)
         have HO2 := Lib.hid ho2
         have hS2 := HCS.out w2 HE2.out
         clear ho2 hb2)
      | (go_at_call 10
         (with_reducible refine (C10.out _ (HBX.out _ HE2.out)).mono ?_)
         rintro e w3 ⟨h3, dl3, rfl, ho3, hd3, hb3⟩
         have HE3 := Lib.hid (HE2.out.trans (hb3.mono HE2.out.size))
         have HV3 := Lib.hid (HO2.out.below hb3)
         have HH3 := Lib.hid ho3
         have HD3 := Lib.hid hd3
         have hS3 := HCS.out w3 HE3.out
         clear ho3 hd3 hb3))
    obtain ⟨va3, vn3, vc3, ha3, n3, c3, rfl, rfl, hex3⟩ := ExS.of HV3.out HH3.out HD3.out HR.out.vm HR.out.hm
    have HEX3 := Lib.hid hex3
    clear hex3 HV3 HH3 HD3 hS0 hS2 hS3 C9 C10 HO2
    go_wp2_with fail
    go_loopg [3, 4, 5, 6, 7, 8, 9, 10, 11, 12, 13, 14, 15, 16, 17, 18, 19, 20, 21, 22, 23] 25 (fun g1 s3 s4 s5 _ _ _ _ _ _ _ _ _ _ _ _ _ _ _ _ _ _ wr => ∃ (i : Nat) (va' : Option Addr) (v' : List Int) (vn' vc' : Nat) (ha' : Option Addr) (hs' : List OpD) (hn' hc' : Nat), s3 = .slice va' vn' vc' ∧ s4 = .slice ha' hn' hc' ∧ s5 = .int .i64 (i : Int) ∧ i ≤ 25 ∧ 25 - i ≤ g1 ∧ Hid (ExS wr va' v' vn' vc' ha' hs' hn' hc') ∧ Hid (Below w0.heap.size w0 wr))
    case atStart => exact ⟨0, va3, v, vn3, vc3, ha3, hs, n3, c3, rfl, rfl, rfl, by omega, by omega, HEX3.out, HE3.out⟩
    case round =>
      obtain ⟨i, xa, xv, xn, xc, ya, ys, yn, yc, rfl, rfl, rfl, hi12, hg1, HX, HB⟩ := hrel
      clear HEX3 HE2 HE3
      have hSB := HS0.out.next HB.out
      obtain ⟨s0, s1, s2⟩ := hSB
      by_cases hin : i < ln
      · have hinz : decide ((i : Int) < (ln : Int)) = true := decide_eq_true (by omega)
        have hiny : (i : Int) < (ln : Int) := by omega
        by_cases hi : i < 25
        · have hiz : decide ((i : Int) < 25) = true := decide_eq_true (by omega)
          have hiy : (i : Int) < 25 := by omega
          obtain ⟨x, hx⟩ : ∃ x, ls[i]? = some x := ⟨_, List.getElem?_eq_getElem (by rw [← HR.out.ll]; exact hin)⟩
          obtain ⟨b, off, rfl, da, dc, hat, hrow, hdm⟩ := (HR.out.rl.below (HBX.out wr HB.out)) i x hx
          have hb7 := box_bel wr (objO x da x.1.ds.length dc)
          have HA := Lib.hid (OpX.new wr x da x.1.ds.length dc)
          have HW := Lib.hid (hrow.below hb7 (Nat.le_refl _))
          have HDM := Lib.hid hdm
          have HB7 := Lib.hid (HB.out.trans (hb7.mono HB.out.size))
          have HX7 := Lib.hid (HX.out.below hb7)
          clear hx hrow hdm hb7 HB HX
          have HB := HB7
          have HX := HX7
          clear HB7 HX7
          generalize hdn : x.1.ds.length = dn at *
          have HDN := Lib.hid hdn
          clear hdn
          obtain ⟨c0, c1, c2, c3', c4, c5, c6, c7, c8, c9, c10, c11⟩ := hat
          obtain ⟨mb, hmb⟩ : ∃ mb, heldB xv ys = mb := ⟨_, rfl⟩
          obtain ⟨fb, hfb⟩ : ∃ fb, fitsB xv x = fb := ⟨_, rfl⟩
          have HMB := Lib.hid hmb
          have HFB := Lib.hid hfb
          have C12 := Lib.hid (fun W (hb : Below w.heap.size w W) (hx : ExS W xa xv xn xc ya ys yn yc) => hcheck_any xa xv xn xc ya ys yn yc W (HTW.out W hb) hx.rv hx.vl (by have := hx.vm; omega) hx.rh hx.hl hx.hm hx.hk)
          have C13 := Lib.hid (fun W (hx : ExS W xa xv xn xc ya ys yn yc) => refHold_any xa xv xn xc ya ys yn yc W hx.rv hx.vl (by have := hx.vm; omega) hx.rh hx.hl hx.hm)
          have C14 := Lib.hid (fun W (hx : ExS W xa xv xn xc ya ys yn yc) (hw : RowK .i64 W da x.1.ds) => refFits_any xa xv xn xc x da dn dc W hx.rv hx.vl (by have := hx.vm; omega) hw HDN.out.symm (by have := HDM.out; have := HDN.out; omega))
          rw [hmb] at C12 C13
          rw [hfb] at C14
          clear hmb hfb
          go_wp2_with fail
          refine (C12.out _ (HBX.out _ HB.out) HX.out).mono ?_
          rintro e w8 ⟨rfl, hb⟩
          clear c0 c1 c2 c3' c4 c5 c6 c7 c8 c9 c10 c11 s0 s1 s2
          have HBa := Lib.hid (HB.out.trans (hb.mono HB.out.size))
          have HXa := Lib.hid (HX.out.below hb)
          have HAa := Lib.hid (HA.out.next hb)
          have HWa := Lib.hid (HW.out.below hb (Nat.le_refl _))
          clear hb HB HX HA HW
          have HB := HBa
          have HX := HXa
          have HA := HAa
          have HW := HWa
          clear HBa HXa HAa HWa
          go_wp2_with fail
          refine (num14_any (errC mb) _).mono ?_
          rintro e wn ⟨rfl, rfl⟩
          go_wp2_with fail
          refine (C13.out _ HX.out).mono ?_
          rintro e w9 ⟨rfl, hb⟩
          have HBa := Lib.hid (HB.out.trans (hb.mono HB.out.size))
          have HXa := Lib.hid (HX.out.below hb)
          have HAa := Lib.hid (HA.out.next hb)
          have HWa := Lib.hid (HW.out.below hb (Nat.le_refl _))
          clear hb HB HX HA HW
          have HB := HBa
          have HX := HXa
          have HA := HAa
          have HW := HWa
          clear HBa HXa HAa HWa
          go_upto_region 10 with fail
          go_cut [66] from 32 to 201 (fun v66 wc => v66 = .bool false ∧ w9 = wc)
          case first =>
            as_aux_lemma =>
              cases mb
              · go_wp2
                go_meet
                case rel => exact ⟨rfl, rfl⟩
              · go_wp2
                go_meet
                case rel => exact ⟨rfl, rfl⟩
          case rest =>
            obtain ⟨rfl, rfl⟩ := hcut
            obtain ⟨ok, hok⟩ : ∃ ok, (mb && fb) = ok := ⟨_, rfl⟩
            have HOKB := Lib.hid hok
            go_upto_region 12 with fail
            go_cut [9] from 32 to 201 (fun v9 wc => v9 = .bool ok ∧ Hid (Below w9.heap.size w9 wc))
            case first =>
              as_aux_lemma =>
                subst hok
                cases mb
                · go_wp2
                  go_meet
                  case rel => exact ⟨rfl, Below.refl _ _⟩
                · obtain ⟨c0, c1, c2, c3, c4, c5, c6, c7, c8, c9, c10, c11⟩ := HA.out
                  go_wp2_with fail
                  refine (C14.out _ HX.out HW.out).mono ?_
                  rintro e w10 ⟨rfl, hb⟩
                  have HBQ := Lib.hid hb
                  clear hb c0 c1 c2 c3 c4 c5 c6 c7 c8 c9 c10 c11
                  go_wp2
                  go_meet
                  case rel => exact ⟨by rw [Bool.true_and], HBQ.out⟩
            case rest =>
              clear hok
              obtain ⟨rfl, hb⟩ := hcut
              have hbo := hb.out
              clear hb
              have HBa := Lib.hid (HB.out.trans (hbo.mono HB.out.size))
              have HXa := Lib.hid (HX.out.below hbo)
              have HAa := Lib.hid (HA.out.next hbo)
              have HWa := Lib.hid (HW.out.below hbo (Nat.le_refl _))
              clear hbo HB HX HA HW
              have HB := HBa
              have HX := HXa
              have HA := HAa
              have HW := HWa
              clear HBa HXa HAa HWa
              obtain ⟨c0, c1, c2, c3, c4, c5, c6, c7, c8, c9, c10, c11⟩ := HA.out
              obtain ⟨rb, hrb⟩ : ∃ rb, (fb && readyB xv x) = rb := ⟨_, rfl⟩
              have HRB := Lib.hid hrb
              have C15 := Lib.hid (fun W (hb : Below w.heap.size w W) (hx : ExS W xa xv xn xc ya ys yn yc) (hw : RowK .i64 W da x.1.ds) => ready_all xa xv xn xc x da dn dc W (HTW.out W hb) hx.rv hx.vl (by have := hx.vm; omega) hw HDN.out.symm (by have := HDM.out; have := HDN.out; omega) fb HFB.out)
              rw [hrb] at C15
              clear hrb
              go_wp2_with fail
              refine (C15.out _ (HBX.out _ HB.out) HX.out HW.out).mono ?_
              rintro e w11 ⟨rfl, hb⟩
              clear c0 c1 c2 c3 c4 c5 c6 c7 c8 c9 c10 c11
              have HBa := Lib.hid (HB.out.trans (hb.mono HB.out.size))
              have HXa := Lib.hid (HX.out.below hb)
              have HAa := Lib.hid (HA.out.next hb)
              have HWa := Lib.hid (HW.out.below hb (Nat.le_refl _))
              clear hb HB HX HA HW
              have HB := HBa
              have HX := HXa
              have HA := HAa
              have HW := HWa
              clear HBa HXa HAa HWa
              obtain ⟨c0, c1, c2, c3, c4, c5, c6, c7, c8, c9, c10, c11⟩ := HA.out
              go_wp2_with fail
              refine (C14.out _ HX.out HW.out).mono ?_
              rintro e w12 ⟨rfl, hb⟩
              clear c0 c1 c2 c3 c4 c5 c6 c7 c8 c9 c10 c11
              have HBa := Lib.hid (HB.out.trans (hb.mono HB.out.size))
              have HXa := Lib.hid (HX.out.below hb)
              have HAa := Lib.hid (HA.out.next hb)
              have HWa := Lib.hid (HW.out.below hb (Nat.le_refl _))
              clear hb HB HX HA HW
              have HB := HBa
              have HX := HXa
              have HA := HAa
              have HW := HWa
              clear HBa HXa HAa HWa
              obtain ⟨c0, c1, c2, c3, c4, c5, c6, c7, c8, c9, c10, c11⟩ := HA.out
              go_upto_region 15 with fail
              go_cut [108] from 32 to 201 (fun v108 w16 => v108 = .bool false ∧ Hid (Below w12.heap.size w12 w16))
              case first =>
                as_aux_lemma =>
                  cases fb
                  · have hr : rb = false := by rw [← HRB.out, Bool.false_and]
                    subst hr
                    go_wp2_with fail
                    refine (num14_any (errC false) _).mono ?_
                    rintro e wn ⟨rfl, rfl⟩
                    go_wp2_with fail
                    refine (num14_any (errC false) _).mono ?_
                    rintro e wn ⟨rfl, rfl⟩
                    go_wp2
                    go_meet
                    case rel => exact ⟨rfl, Below.refl _ _⟩
                  · have hr : readyB xv x = rb := by rw [← HRB.out, Bool.true_and]
                    have C16 := Lib.hid (fun W (hx : ExS W xa xv xn xc ya ys yn yc) (hw : RowK .i64 W da x.1.ds) => refReady_any xa xv xn xc x da dn dc W hx.rv hx.vl hw HDN.out.symm HFB.out)
                    rw [hr] at C16
                    clear hr
                    go_wp2_with fail
                    refine (num14_any (errC true) _).mono ?_
                    rintro e wn ⟨rfl, rfl⟩
                    go_wp2_with fail
                    refine (C16.out _ HX.out HW.out).mono ?_
                    rintro e w16 ⟨rfl, hb⟩
                    have HBQ := Lib.hid hb
                    clear hb c0 c1 c2 c3 c4 c5 c6 c7 c8 c9 c10 c11
                    cases rb
                    · go_wp2
                      go_meet
                      case rel => exact ⟨rfl, HBQ.out⟩
                    · go_wp2
                      go_meet
                      case rel => exact ⟨rfl, HBQ.out⟩
              case rest =>
                obtain ⟨rfl, hb⟩ := hcut
                obtain ⟨w16, hw16⟩ : ∃ w16, w16 = wc := ⟨_, rfl⟩
                subst hw16
                have hbo := hb.out
                clear hb c0 c1 c2 c3 c4 c5 c6 c7 c8 c9 c10 c11
                have HBa := Lib.hid (HB.out.trans (hbo.mono HB.out.size))
                have HXa := Lib.hid (HX.out.below hbo)
                have HAa := Lib.hid (HA.out.next hbo)
                have HWa := Lib.hid (HW.out.below hbo (Nat.le_refl _))
                clear hbo HB HX HA HW
                have HB := HBa
                have HX := HXa
                have HA := HAa
                have HW := HWa
                clear HBa HXa HAa HWa
                clear C12 C13 C14 C15
                generalize wr.heap.size = gx at HA ⊢
                go_upto_region 17 with fail
                go_cut [13, 14, 15] from 32 to 201 (fun v13 v14 v15 wq => ∃ (dl : List Value) (gz on oc : Nat) (oa : Option Addr), v15 = .pointer (some ⟨gz, 0, none⟩) ∧ Hid (ExQ w16 wq gz v13 xv v14 ys dl x oa on oc))
                case first =>
                  have HCX := Lib.hid (fun W (hb : Below w16.heap.size w16 W) => ex_mk HA.out hb)
                  have HBY := Lib.hid (fun W (hb : Below w16.heap.size w16 W) => HB.out.trans (hb.mono HB.out.size))
                  have hS0 := HCX.out _ (Below.refl w16.heap.size w16).drew
                  have C9 := Lib.hid (fun W (hb : Below w16.heap.size w16 W) => copyI_big xa xv xn xc W (HX.out.rv.below hb (Nat.le_refl _)) HX.out.vl HX.out.vm)
                  have C10 := Lib.hid (fun W (hb : Below w16.heap.size w16 W) => copyOps_any ya ys yn yc W (HX.out.rh.below hb) HX.out.hl HX.out.hm)
                  have C17 := Lib.hid (fun W (hb : Below w16.heap.size w16 W) => copyOp_any x.1.t x.1.r x.2 da x.1.ds dn dc x.1.k x.1.nt x.1.nr x.1.pt x.1.pr x.1.s x.1.p x.1.v W (HW.out.below hb (Nat.le_refl _)) HDN.out.symm (by have := HDM.out; have := HDN.out; omega))
                  have hS0z := HCX.out (w16.alloc (.cells #[.int .i64 0, .int .i64 0, .int .i64 0, .slice none 0 0, .int .i64 0, .int .i64 0, .int .i64 0, .int .i64 0, .int .i64 0, .string ⟨#[]⟩, .int .i64 0, .int .i64 0] 32)).drew ((Below.refl w16.heap.size w16).alloc (Nat.le_refl _) _).drew
                  have HZ0 : Hid (Blk (w16.alloc (.cells #[.int .i64 0, .int .i64 0, .int .i64 0, .slice none 0 0, .int .i64 0, .int .i64 0, .int .i64 0, .int .i64 0, .int .i64 0, .string ⟨#[]⟩, .int .i64 0, .int .i64 0] 32)).drew w16.heap.size (zR.cells 0 (.slice none 0 0))) := (blk_new w16).drew
                  go_wp2_with fail
                  go_region_held3 (fun W => W.cell? ⟨gx, 0, none⟩ = some (.int .i64 x.1.t) ∧ W.cell? ⟨gx, 0 + 1, none⟩ = some (.int .i64 x.1.r) ∧ W.cell? ⟨gx, 0 + 2, none⟩ = some (.int .i64 x.2) ∧ W.cell? ⟨gx, 0 + 3, none⟩ = some (.slice da dn dc) ∧ W.cell? ⟨gx, 0 + 4, none⟩ = some (.int .i64 x.1.k) ∧ W.cell? ⟨gx, 0 + 5, none⟩ = some (.int .i64 x.1.nt) ∧ W.cell? ⟨gx, 0 + 6, none⟩ = some (.int .i64 x.1.nr) ∧ W.cell? ⟨gx, 0 + 7, none⟩ = some (.int .i64 x.1.pt) ∧ W.cell? ⟨gx, 0 + 8, none⟩ = some (.int .i64 x.1.pr) ∧ W.cell? ⟨gx, 0 + 9, none⟩ = some (.string x.1.s) ∧ W.cell? ⟨gx, 0 + 10, none⟩ = some (.int .i64 x.1.p) ∧ W.cell? ⟨gx, 0 + 11, none⟩ = some (.int .i64 x.1.v) ∧ Hid (Below w16.heap.size w16 W)) (with_reducible assumption) (first
                    | (go_at_call 9
                       (with_reducible refine (C9.out _ (ex_bel (by with_reducible assumption))).mono ?_)
                       rintro e w17 ⟨v17, rfl, ho17, hb17⟩
                       have HE17 : Hid (Below w16.heap.size w16 w17) := Below.trans (ex_bel (by with_reducible assumption)) (hb17.mono (Below.size (ex_bel (by with_reducible assumption))))
                       have HO17 := Lib.hid ho17
                       have HI17 := Lib.hid hb17
                       have hS17 := HCX.out w17 HE17.out
                       have hS17z := HCX.out (w17.alloc (.cells #[.int .i64 0, .int .i64 0, .int .i64 0, .slice none 0 0, .int .i64 0, .int .i64 0, .int .i64 0, .int .i64 0, .int .i64 0, .string ⟨#[]⟩, .int .i64 0, .int .i64 0] 32)) (HE17.out.alloc HE17.out.size _)
                       have HZ17n := Lib.hid (blk_new w17)
                       (first | (with_reducible have HZ17 := Lib.hid (HZ0.out.next hb17)) | skip)
                       have hz17 := hb17.size
                       clear ho17 hb17)
                    | (go_at_call 10
                       (with_reducible refine (C10.out _ (ex_bel (by with_reducible assumption))).mono ?_)
                       rintro e w18 ⟨v18, dl18, rfl, ho18, hd18, hb18⟩
                       have HE18 : Hid (Below w16.heap.size w16 w18) := Below.trans (ex_bel (by with_reducible assumption)) (hb18.mono (Below.size (ex_bel (by with_reducible assumption))))
                       have HO18 := Lib.hid ho18
                       have HD18 := Lib.hid hd18
                       have hS18 := HCX.out w18 HE18.out
                       have hS18z := HCX.out (w18.alloc (.cells #[.int .i64 0, .int .i64 0, .int .i64 0, .slice none 0 0, .int .i64 0, .int .i64 0, .int .i64 0, .int .i64 0, .int .i64 0, .string ⟨#[]⟩, .int .i64 0, .int .i64 0] 32)) (HE18.out.alloc HE18.out.size _)
                       have HZ18n := Lib.hid (blk_new w18)
                       (first | (with_reducible have HV18 := Lib.hid (HO17.out.below hb18)) | (with_reducible have HV18 := Lib.hid ((HO17.out.below (box_bel w17 (.cells #[.int .i64 0, .int .i64 0, .int .i64 0, .slice none 0 0, .int .i64 0, .int .i64 0, .int .i64 0, .int .i64 0, .int .i64 0, .string ⟨#[]⟩, .int .i64 0, .int .i64 0] 32))).below hb18)))
                       (first | (with_reducible have HZ18 := Lib.hid (HZ17.out.next hb18)) | (with_reducible have HZ18 := Lib.hid (HZ17n.out.next hb18)) | skip)
                       have hz18 := hb18.size
                       clear ho18 hd18 hb18)
                    | (go_at_call 17
                       (with_reducible refine (C17.out _ (ex_bel (by with_reducible assumption))).mono ?_)
                       rintro e w19 ⟨oa19, on19, oc19, rfl, ho19, hb19⟩
                       have HE19 : Hid (Below w16.heap.size w16 w19) := Below.trans (ex_bel (by with_reducible assumption)) (hb19.mono (Below.size (ex_bel (by with_reducible assumption))))
                       have HO19 := Lib.hid ho19
                       have hS19 := HCX.out w19 HE19.out
                       have hS19z := HCX.out (w19.alloc (.cells #[.int .i64 0, .int .i64 0, .int .i64 0, .slice none 0 0, .int .i64 0, .int .i64 0, .int .i64 0, .int .i64 0, .int .i64 0, .string ⟨#[]⟩, .int .i64 0, .int .i64 0] 32)) (HE19.out.alloc HE19.out.size _)
                       have HZ19n := Lib.hid (blk_new w19)
                       (first | (with_reducible have HV19 := Lib.hid (HV18.out.below hb19)) | (with_reducible have HV19 := Lib.hid ((HV18.out.below (box_bel w18 (.cells #[.int .i64 0, .int .i64 0, .int .i64 0, .slice none 0 0, .int .i64 0, .int .i64 0, .int .i64 0, .int .i64 0, .int .i64 0, .string ⟨#[]⟩, .int .i64 0, .int .i64 0] 32))).below hb19)))
                       (first | (with_reducible have HH19 := Lib.hid (HO18.out.below hb19)) | (with_reducible have HH19 := Lib.hid ((HO18.out.below (box_bel w18 (.cells #[.int .i64 0, .int .i64 0, .int .i64 0, .slice none 0 0, .int .i64 0, .int .i64 0, .int .i64 0, .int .i64 0, .int .i64 0, .string ⟨#[]⟩, .int .i64 0, .int .i64 0] 32))).below hb19)))
                       (first | (with_reducible have HD19 := Lib.hid (HD18.out.below hb19)) | (with_reducible have HD19 := Lib.hid ((HD18.out.below (box_bel w18 (.cells #[.int .i64 0, .int .i64 0, .int .i64 0, .slice none 0 0, .int .i64 0, .int .i64 0, .int .i64 0, .int .i64 0, .int .i64 0, .string ⟨#[]⟩, .int .i64 0, .int .i64 0] 32))).below hb19)))
                       (first | (with_reducible have HZ19 := Lib.hid (HZ18.out.next hb19)) | (with_reducible have HZ19 := Lib.hid (HZ18n.out.next hb19)) | skip)
                       have hz19 := hb19.size
                       have hSs := HCX.out (w19.alloc (objO x oa19 on19 oc19)) (HE19.out.alloc HE19.out.size _)
                       have hSa := HCX.out _ (sets_bel (g := w16.heap.size) x oa19 on19 oc19 HE19.out (Nat.le_refl _))
                       have hSb := HCX.out _ (sets_bel (g := w17.heap.size) x oa19 on19 oc19 HE19.out HE17.out.size)
                       have hSc := HCX.out _ (sets_bel (g := w18.heap.size) x oa19 on19 oc19 HE19.out HE18.out.size)
                       (first | (have q0 := HZ19.out.cell 0 _ rfl; have p0 := HZ19.out.free 0 _ rfl; have q1 := HZ19.out.cell 1 _ rfl; have p1 := HZ19.out.free 1 _ rfl; have q2 := HZ19.out.cell 2 _ rfl; have p2 := HZ19.out.free 2 _ rfl; have q3 := HZ19.out.cell 3 _ rfl; have p3 := HZ19.out.free 3 _ rfl; have q4 := HZ19.out.cell 4 _ rfl; have p4 := HZ19.out.free 4 _ rfl; have q5 := HZ19.out.cell 5 _ rfl; have p5 := HZ19.out.free 5 _ rfl; have q6 := HZ19.out.cell 6 _ rfl; have p6 := HZ19.out.free 6 _ rfl; have q7 := HZ19.out.cell 7 _ rfl; have p7 := HZ19.out.free 7 _ rfl; have q8 := HZ19.out.cell 8 _ rfl; have p8 := HZ19.out.free 8 _ rfl; have q9 := HZ19.out.cell 9 _ rfl; have p9 := HZ19.out.free 9 _ rfl; have q10 := HZ19.out.cell 10 _ rfl; have p10 := HZ19.out.free 10 _ rfl; have q11 := HZ19.out.cell 11 _ rfl; have p11 := HZ19.out.free 11 _ rfl) | skip)
                       clear ho19 hb19))
                  · have HQ := Lib.hid (exq_alloc (x := x) HE19.out HV19.out HH19.out HD19.out HO19.out (by first | exact Nat.le_refl _ | (have := HE17.out.size; omega)) (by have := HE17.out.size; omega) (by have := HE18.out.size; omega))
                    generalize hgz : w19.heap.size = gz at HQ ⊢
                    generalize w19.alloc (objO x oa19 on19 oc19) = w20 at HQ ⊢
                    go_wp2_with fail
                    go_meet
                    case rel => exact ⟨_, _, _, _, _, rfl, HQ.out⟩
                  · have hs7 := HE17.out.size
                    have hs8 := HE18.out.size
                    have HQ := Lib.hid (exq_sets (gz := w18.heap.size) (x := x) HE19.out (by omega) HZ19.out HV19.out HH19.out HD19.out HO19.out (by (try simp only [World.size_alloc, World.size_drew] at hz17 hz18 hz19 ⊢); omega) (by (try simp only [World.size_alloc, World.size_drew] at hz17 hz18 hz19 ⊢); omega) (by (try simp only [World.size_alloc, World.size_drew] at hz17 hz18 hz19 ⊢); omega) (fun e => by have h1 := HO17.out.lt e; (try simp only [World.size_alloc, World.size_drew] at h1 hz17 hz18 hz19 ⊢); omega) (fun e => by have h1 := HO18.out.lt e; (try simp only [World.size_alloc, World.size_drew] at h1 hz17 hz18 hz19 ⊢); omega) (fun d hd e => by
                      obtain ⟨k, hk⟩ := List.getElem?_of_mem hd
                      obtain ⟨y, hy⟩ : ∃ y, ys[k]? = some y := ⟨_, List.getElem?_eq_getElem (by have h2 := (List.getElem?_eq_some_iff.1 hk).1; have h3 := HO18.out.len; omega)⟩
                      have h1 := (HD18.out.own k y d hy hk).1.lt e
                      (try simp only [World.size_alloc, World.size_drew] at h1 hz17 hz18 hz19)
                      omega) (fun e => by have h1 := HO19.out.lt e; (try simp only [World.size_alloc, World.size_drew] at h1 hz17 hz18 hz19 ⊢); omega))
                    go_wp2_with fail
                    go_meet
                    case rel => exact ⟨_, _, _, _, _, rfl, HQ.out⟩
                  · have hs7 := HE17.out.size
                    have hs8 := HE18.out.size
                    have HQ := Lib.hid (exq_sets (gz := w17.heap.size) (x := x) HE19.out (by omega) HZ19.out HV19.out HH19.out HD19.out HO19.out (by (try simp only [World.size_alloc, World.size_drew] at hz17 hz18 hz19 ⊢); omega) (by (try simp only [World.size_alloc, World.size_drew] at hz17 hz18 hz19 ⊢); omega) (by (try simp only [World.size_alloc, World.size_drew] at hz17 hz18 hz19 ⊢); omega) (fun e => by have h1 := HO17.out.lt e; (try simp only [World.size_alloc, World.size_drew] at h1 hz17 hz18 hz19 ⊢); omega) (fun e => by have h1 := HO18.out.lt e; (try simp only [World.size_alloc, World.size_drew] at h1 hz17 hz18 hz19 ⊢); omega) (fun d hd e => by
                      obtain ⟨k, hk⟩ := List.getElem?_of_mem hd
                      obtain ⟨y, hy⟩ : ∃ y, ys[k]? = some y := ⟨_, List.getElem?_eq_getElem (by have h2 := (List.getElem?_eq_some_iff.1 hk).1; have h3 := HO18.out.len; omega)⟩
                      have h1 := (HD18.out.own k y d hy hk).1.lt e
                      (try simp only [World.size_alloc, World.size_drew] at h1 hz17 hz18 hz19)
                      omega) (fun e => by have h1 := HO19.out.lt e; (try simp only [World.size_alloc, World.size_drew] at h1 hz17 hz18 hz19 ⊢); omega))
                    go_wp2_with fail
                    go_meet
                    case rel => exact ⟨_, _, _, _, _, rfl, HQ.out⟩
                  · have hs7 := HE17.out.size
                    have hs8 := HE18.out.size
                    have HQ := Lib.hid (exq_sets (gz := w16.heap.size) (x := x) HE19.out (by omega) HZ19.out HV19.out HH19.out HD19.out HO19.out (by (try simp only [World.size_alloc, World.size_drew] at hz17 hz18 hz19 ⊢); omega) (by (try simp only [World.size_alloc, World.size_drew] at hz17 hz18 hz19 ⊢); omega) (by (try simp only [World.size_alloc, World.size_drew] at hz17 hz18 hz19 ⊢); omega) (fun e => by have h1 := HO17.out.lt e; (try simp only [World.size_alloc, World.size_drew] at h1 hz17 hz18 hz19 ⊢); omega) (fun e => by have h1 := HO18.out.lt e; (try simp only [World.size_alloc, World.size_drew] at h1 hz17 hz18 hz19 ⊢); omega) (fun d hd e => by
                      obtain ⟨k, hk⟩ := List.getElem?_of_mem hd
                      obtain ⟨y, hy⟩ : ∃ y, ys[k]? = some y := ⟨_, List.getElem?_eq_getElem (by have h2 := (List.getElem?_eq_some_iff.1 hk).1; have h3 := HO18.out.len; omega)⟩
                      have h1 := (HD18.out.own k y d hy hk).1.lt e
                      (try simp only [World.size_alloc, World.size_drew] at h1 hz17 hz18 hz19)
                      omega) (fun e => by have h1 := HO19.out.lt e; (try simp only [World.size_alloc, World.size_drew] at h1 hz17 hz18 hz19 ⊢); omega))
                    go_wp2_with fail
                    go_meet
                    case rel => exact ⟨_, _, _, _, _, rfl, HQ.out⟩
                case rest =>
                  obtain ⟨dl, gz, on, oc, oa, rfl, HQ⟩ := hcut
                  have hbo := HQ.out.bel
                  have HBa := Lib.hid (HB.out.trans (hbo.mono HB.out.size))
                  have HXa := Lib.hid (HX.out.below hbo)
                  have HAa := Lib.hid (HA.out.next hbo)
                  have HWa := Lib.hid (HW.out.below hbo (Nat.le_refl _))
                  clear hbo HB HX HA HW
                  have HB := HBa
                  have HX := HXa
                  have HA := HAa
                  have HW := HWa
                  clear HBa HXa HAa HWa
                  have hfv := HQ.out.vec
                  have hfr := HQ.out.row
                  have hfd := HQ.out.dep
                  have hfo := HQ.out.opd
                  have HZ := Lib.hid HQ.out.box
                  clear HQ
                  obtain ⟨iva, ivc, rfl, hiv, -, -⟩ := hfv.form
                  obtain ⟨iha, ihn, ihc, rfl, hihn, hihc, hih⟩ := hfr.row hfd.read
                  obtain ⟨oa', oc', eo, hio, -, -⟩ := hfo.form
                  injection eo with eo1 eo2 eo3
                  subst eo1 eo3
                  rw [HDN.out] at eo2
                  obtain rfl : dn = on := eo2.symm
                  have HIV := Lib.hid hiv
                  have HIH := Lib.hid hih
                  have HIW := Lib.hid hio
                  have HIN := Lib.hid hihn
                  have HIC := Lib.hid hihc
                  obtain ⟨ivn, hivn⟩ : ∃ ivn, xv.length = ivn := ⟨_, rfl⟩
                  rw [hivn]
                  have HIL := Lib.hid hivn
                  clear hiv hih hio hihn hihc hivn hfv hfr hfd hfo
                  have HDL := Lib.hid (show x.1.ds.length ≤ 140737488355328 by have h1 := HDM.out; have h2 := HDN.out; omega)
                  have HDM2 := Lib.hid (show x.1.ds.length ≤ 17592186044416 by have h1 := HDM.out; have h2 := HDN.out; omega)
                  have HVL := Lib.hid (show xv.length ≤ 140737488355328 by have := HX.out.vm; omega)
                  have HYL := Lib.hid (show ys.length ≤ 140737488355328 by have := HX.out.hm; omega)
                  have HYM := Lib.hid HX.out.hm
                  have HVM := Lib.hid HX.out.vm
                  cases ok
                  · as_aux_lemma =>
                      have CT := Lib.hid (take_bad iva xv ivn ivc iha ys ihn ihc x oa oc _ (HTW.out _ (HBX.out _ HB.out)) HIV.out HIL.out.symm HVL.out HIH.out HIN.out HYM.out HIC.out HIW.out HDM2.out (by rw [HMB.out, HFB.out]; exact HOKB.out))
                      rw [HDN.out] at CT
                      obtain ⟨c0, c1, c2, c3, c4, c5, c6, c7, c8, c9, c10, c11⟩ := HA.out
                      obtain ⟨z0, z1, z2, z3, z4, z5, z6, z7, z8, z9, z10, z11⟩ := HZ.out
                      go_wp2_with fail
                      refine (CT.out).mono ?_
                      rintro e w21 ⟨rfl, hb⟩
                      clear c0 c1 c2 c3 c4 c5 c6 c7 c8 c9 c10 c11 z0 z1 z2 z3 z4 z5 z6 z7 z8 z9 z10 z11
                      have HBx := Lib.hid (HB.out.trans (hb.mono HB.out.size))
                      have HXx := Lib.hid (HX.out.below hb)
                      have HAx := Lib.hid (HA.out.next hb)
                      have HWx := Lib.hid (HW.out.below hb (Nat.le_refl _))
                      have HIVx := Lib.hid (HIV.out.below hb (Nat.le_refl _))
                      have HIHx := Lib.hid (HIH.out.below hb)
                      have HZx := Lib.hid (HZ.out.next hb)
                      have HIWx := Lib.hid (HIW.out.below hb (Nat.le_refl _))
                      clear HB HX HA HW HIV HIH HZ HIW
                      have HB := HBx
                      have HX := HXx
                      have HA := HAx
                      have HW := HWx
                      have HIV := HIVx
                      have HIH := HIHx
                      have HZ := HZx
                      have HIW := HIWx
                      clear HBx HXx HAx HWx HIVx HIHx HZx HIWx
                      clear CT
                      clear hb
                      obtain ⟨c0, c1, c2, c3, c4, c5, c6, c7, c8, c9, c10, c11⟩ := HA.out
                      obtain ⟨z0, z1, z2, z3, z4, z5, z6, z7, z8, z9, z10, z11⟩ := HZ.out
                      go_wp2_with fail
                      refine (eqI_bel iva xa xv ivn xn ivc xc _ HIV.out HX.out.rv HIL.out.symm HX.out.vl HVL.out).mono ?_
                      rintro e w22 ⟨rfl, hb⟩
                      clear c0 c1 c2 c3 c4 c5 c6 c7 c8 c9 c10 c11 z0 z1 z2 z3 z4 z5 z6 z7 z8 z9 z10 z11
                      have HBx := Lib.hid (HB.out.trans (hb.mono HB.out.size))
                      have HXx := Lib.hid (HX.out.below hb)
                      have HAx := Lib.hid (HA.out.next hb)
                      have HWx := Lib.hid (HW.out.below hb (Nat.le_refl _))
                      have HIVx := Lib.hid (HIV.out.below hb (Nat.le_refl _))
                      have HIHx := Lib.hid (HIH.out.below hb)
                      have HZx := Lib.hid (HZ.out.next hb)
                      have HIWx := Lib.hid (HIW.out.below hb (Nat.le_refl _))
                      clear HB HX HA HW HIV HIH HZ HIW
                      have HB := HBx
                      have HX := HXx
                      have HA := HAx
                      have HW := HWx
                      have HIV := HIVx
                      have HIH := HIHx
                      have HZ := HZx
                      have HIW := HIWx
                      clear HBx HXx HAx HWx HIVx HIHx HZx HIWx
                      clear hb
                      obtain ⟨c0, c1, c2, c3, c4, c5, c6, c7, c8, c9, c10, c11⟩ := HA.out
                      obtain ⟨z0, z1, z2, z3, z4, z5, z6, z7, z8, z9, z10, z11⟩ := HZ.out
                      go_wp2_with fail
                      refine (eqOps_yes iha ya ys ihn yn ihc yc _ HIH.out HX.out.rh HIN.out HX.out.hl HYL.out).mono ?_
                      rintro e w23 ⟨rfl, hb⟩
                      clear c0 c1 c2 c3 c4 c5 c6 c7 c8 c9 c10 c11 z0 z1 z2 z3 z4 z5 z6 z7 z8 z9 z10 z11
                      have HBx := Lib.hid (HB.out.trans (hb.mono HB.out.size))
                      have HXx := Lib.hid (HX.out.below hb)
                      have HAx := Lib.hid (HA.out.next hb)
                      have HWx := Lib.hid (HW.out.below hb (Nat.le_refl _))
                      have HIVx := Lib.hid (HIV.out.below hb (Nat.le_refl _))
                      have HIHx := Lib.hid (HIH.out.below hb)
                      have HZx := Lib.hid (HZ.out.next hb)
                      have HIWx := Lib.hid (HIW.out.below hb (Nat.le_refl _))
                      clear HB HX HA HW HIV HIH HZ HIW
                      have HB := HBx
                      have HX := HXx
                      have HA := HAx
                      have HW := HWx
                      have HIV := HIVx
                      have HIH := HIHx
                      have HZ := HZx
                      have HIW := HIWx
                      clear HBx HXx HAx HWx HIVx HIHx HZx HIWx
                      clear hb
                      obtain ⟨c0, c1, c2, c3, c4, c5, c6, c7, c8, c9, c10, c11⟩ := HA.out
                      obtain ⟨z0, z1, z2, z3, z4, z5, z6, z7, z8, z9, z10, z11⟩ := HZ.out
                      go_wp2_with fail
                      refine (eqOp_bel x.1.t x.1.r x.2 oa x.1.ds dn oc x.1.k x.1.nt x.1.nr x.1.pt x.1.pr x.1.s x.1.p x.1.v da dn dc _ HIW.out HDN.out.symm HDL.out HW.out HDN.out.symm).mono ?_
                      rintro e w24 ⟨rfl, hb⟩
                      clear c0 c1 c2 c3 c4 c5 c6 c7 c8 c9 c10 c11 z0 z1 z2 z3 z4 z5 z6 z7 z8 z9 z10 z11
                      have HBx := Lib.hid (HB.out.trans (hb.mono HB.out.size))
                      have HXx := Lib.hid (HX.out.below hb)
                      have HAx := Lib.hid (HA.out.next hb)
                      have HWx := Lib.hid (HW.out.below hb (Nat.le_refl _))
                      have HIVx := Lib.hid (HIV.out.below hb (Nat.le_refl _))
                      have HIHx := Lib.hid (HIH.out.below hb)
                      have HZx := Lib.hid (HZ.out.next hb)
                      have HIWx := Lib.hid (HIW.out.below hb (Nat.le_refl _))
                      clear HB HX HA HW HIV HIH HZ HIW
                      have HB := HBx
                      have HX := HXx
                      have HA := HAx
                      have HW := HWx
                      have HIV := HIVx
                      have HIH := HIHx
                      have HZ := HZx
                      have HIW := HIWx
                      clear HBx HXx HAx HWx HIVx HIHx HZx HIWx
                      clear hb
                      go_wp2_with fail
                      refine (num14_any 1 _).mono ?_
                      rintro e wn ⟨rfl, rfl⟩
                      go_wp2_with fail
                      go_roundg (25 - (i + 1))
                      case measure => omega
                      case rel => exact ⟨i + 1, xa, xv, xn, xc, ya, ys, yn, yc, rfl, rfl, by go_num, by omega, by omega, HX.out, HB.out⟩
                  · have HMF : Hid (mb = true ∧ fb = true) := by have := HOKB.out; rw [Bool.and_eq_true] at this; exact this
                    have HHE : Hid (heldB xv ys = true) := by show _ = _; rw [HMB.out]; exact HMF.out.1
                    have HFT : Hid (fitsB xv x = true) := by show _ = _; rw [HFB.out]; exact HMF.out.2
                    obtain ⟨ta, tb, td, tz, hT, hG⟩ := takeIs_good HHE.out HFT.out
                    have HTI := Lib.hid hT
                    have HGD := Lib.hid hG
                    clear hT hG
                    have CT := Lib.hid (take_by iva xv ivn ivc iha ys ihn ihc x oa oc _ (HTW.out _ (HBX.out _ HB.out)) HIV.out HIL.out.symm HVL.out HIH.out HIN.out HYM.out HIC.out HIW.out HDM2.out HHE.out HFT.out ta tb td tz HTI.out)
                    rw [HDN.out] at CT
                    have HBs := HB
                    have HXs := HX
                    have HAs := HA
                    have HWs := HW
                    have HIVs := HIV
                    have HIHs := HIH
                    have HZs := HZ
                    have HIWs := HIW
                    obtain ⟨c0, c1, c2, c3, c4, c5, c6, c7, c8, c9, c10, c11⟩ := HA.out
                    obtain ⟨z0, z1, z2, z3, z4, z5, z6, z7, z8, z9, z10, z11⟩ := HZ.out
                    go_wp2_with fail
                    refine (CT.out).mono ?_
                    rintro e w21 hby
                    clear c0 c1 c2 c3 c4 c5 c6 c7 c8 c9 c10 c11 z0 z1 z2 z3 z4 z5 z6 z7 z8 z9 z10 z11
                    clear CT
                    rcases hby with ⟨hz, wv, lv, tv, rfl, htk⟩ | ⟨hz, rfl, hb⟩
                    · as_aux_lemma =>
                        subst hz
                        obtain ⟨B, dl1, dl2, htki⟩ := spt_of htk
                        have HTK := Lib.hid htki
                        obtain ⟨T0, hT0⟩ : ∃ T0, w21.heap.size = T0 := ⟨_, rfl⟩
                        rw [hT0] at HTK
                        have HLT := Lib.hid hT0
                        obtain ⟨_, _, _, _, _, _, _, _, _, _, _, _, _, hb⟩ := htk
                        have HBL := Lib.hid hb
                        clear hT0 htki
                        have HBx := Lib.hid (HB.out.trans (hb.mono HB.out.size))
                        have HXx := Lib.hid (HX.out.below hb)
                        have HAx := Lib.hid (HA.out.next hb)
                        have HWx := Lib.hid (HW.out.below hb (Nat.le_refl _))
                        have HIVx := Lib.hid (HIV.out.below hb (Nat.le_refl _))
                        have HIHx := Lib.hid (HIH.out.below hb)
                        have HZx := Lib.hid (HZ.out.next hb)
                        have HIWx := Lib.hid (HIW.out.below hb (Nat.le_refl _))
                        clear HB HX HA HW HIV HIH HZ HIW
                        have HB := HBx
                        have HX := HXx
                        have HA := HAx
                        have HW := HWx
                        have HIV := HIVx
                        have HIH := HIHx
                        have HZ := HZx
                        have HIW := HIWx
                        clear HBx HXx HAx HWx HIVx HIHx HZx HIWx
                        clear hb
                        obtain ⟨wva, wvc, rfl, -, -, -⟩ := HTK.out.vec.form
                        obtain ⟨lva, lvn, lvc, rfl, -, -, -⟩ := HTK.out.hld.row HTK.out.hdp.read
                        obtain ⟨tva, tvn, tvc, rfl, -, -, -⟩ := HTK.out.tak.row HTK.out.tdp.read
                        obtain ⟨wvn, hwvn⟩ : ∃ wvn, ta.length = wvn := ⟨_, rfl⟩
                        have HWN := Lib.hid hwvn
                        rw [hwvn] at HTK ⊢
                        clear hwvn
                        obtain ⟨c0, c1, c2, c3, c4, c5, c6, c7, c8, c9, c10, c11⟩ := HA.out
                        obtain ⟨z0, z1, z2, z3, z4, z5, z6, z7, z8, z9, z10, z11⟩ := HZ.out
                        go_wp2_with fail
                        refine (eqI_bel iva xa xv ivn xn ivc xc _ HIV.out HX.out.rv HIL.out.symm HX.out.vl HVL.out).mono ?_
                        rintro e w22 ⟨rfl, hb⟩
                        clear c0 c1 c2 c3 c4 c5 c6 c7 c8 c9 c10 c11 z0 z1 z2 z3 z4 z5 z6 z7 z8 z9 z10 z11
                        have HBx := Lib.hid (HB.out.trans (hb.mono HB.out.size))
                        have HXx := Lib.hid (HX.out.below hb)
                        have HAx := Lib.hid (HA.out.next hb)
                        have HWx := Lib.hid (HW.out.below hb (Nat.le_refl _))
                        have HIVx := Lib.hid (HIV.out.below hb (Nat.le_refl _))
                        have HIHx := Lib.hid (HIH.out.below hb)
                        have HZx := Lib.hid (HZ.out.next hb)
                        have HIWx := Lib.hid (HIW.out.below hb (Nat.le_refl _))
                        have HBLx := Lib.hid (HBL.out.trans (hb.mono HBL.out.size))
                        have HTKx := Lib.hid (HTK.out.below hb)
                        clear HB HX HA HW HIV HIH HZ HIW HBL HTK
                        have HB := HBx
                        have HX := HXx
                        have HA := HAx
                        have HW := HWx
                        have HIV := HIVx
                        have HIH := HIHx
                        have HZ := HZx
                        have HIW := HIWx
                        have HBL := HBLx
                        have HTK := HTKx
                        clear HBx HXx HAx HWx HIVx HIHx HZx HIWx HBLx HTKx
                        clear hb
                        obtain ⟨c0, c1, c2, c3, c4, c5, c6, c7, c8, c9, c10, c11⟩ := HA.out
                        obtain ⟨z0, z1, z2, z3, z4, z5, z6, z7, z8, z9, z10, z11⟩ := HZ.out
                        go_wp2_with fail
                        refine (eqOps_yes iha ya ys ihn yn ihc yc _ HIH.out HX.out.rh HIN.out HX.out.hl HYL.out).mono ?_
                        rintro e w23 ⟨rfl, hb⟩
                        clear c0 c1 c2 c3 c4 c5 c6 c7 c8 c9 c10 c11 z0 z1 z2 z3 z4 z5 z6 z7 z8 z9 z10 z11
                        have HBx := Lib.hid (HB.out.trans (hb.mono HB.out.size))
                        have HXx := Lib.hid (HX.out.below hb)
                        have HAx := Lib.hid (HA.out.next hb)
                        have HWx := Lib.hid (HW.out.below hb (Nat.le_refl _))
                        have HIVx := Lib.hid (HIV.out.below hb (Nat.le_refl _))
                        have HIHx := Lib.hid (HIH.out.below hb)
                        have HZx := Lib.hid (HZ.out.next hb)
                        have HIWx := Lib.hid (HIW.out.below hb (Nat.le_refl _))
                        have HBLx := Lib.hid (HBL.out.trans (hb.mono HBL.out.size))
                        have HTKx := Lib.hid (HTK.out.below hb)
                        clear HB HX HA HW HIV HIH HZ HIW HBL HTK
                        have HB := HBx
                        have HX := HXx
                        have HA := HAx
                        have HW := HWx
                        have HIV := HIVx
                        have HIH := HIHx
                        have HZ := HZx
                        have HIW := HIWx
                        have HBL := HBLx
                        have HTK := HTKx
                        clear HBx HXx HAx HWx HIVx HIHx HZx HIWx HBLx HTKx
                        clear hb
                        obtain ⟨c0, c1, c2, c3, c4, c5, c6, c7, c8, c9, c10, c11⟩ := HA.out
                        obtain ⟨z0, z1, z2, z3, z4, z5, z6, z7, z8, z9, z10, z11⟩ := HZ.out
                        go_wp2_with fail
                        refine (eqOp_bel x.1.t x.1.r x.2 oa x.1.ds dn oc x.1.k x.1.nt x.1.nr x.1.pt x.1.pr x.1.s x.1.p x.1.v da dn dc _ HIW.out HDN.out.symm HDL.out HW.out HDN.out.symm).mono ?_
                        rintro e w24 ⟨rfl, hb⟩
                        clear c0 c1 c2 c3 c4 c5 c6 c7 c8 c9 c10 c11 z0 z1 z2 z3 z4 z5 z6 z7 z8 z9 z10 z11
                        have HBx := Lib.hid (HB.out.trans (hb.mono HB.out.size))
                        have HXx := Lib.hid (HX.out.below hb)
                        have HAx := Lib.hid (HA.out.next hb)
                        have HWx := Lib.hid (HW.out.below hb (Nat.le_refl _))
                        have HIVx := Lib.hid (HIV.out.below hb (Nat.le_refl _))
                        have HIHx := Lib.hid (HIH.out.below hb)
                        have HZx := Lib.hid (HZ.out.next hb)
                        have HIWx := Lib.hid (HIW.out.below hb (Nat.le_refl _))
                        have HBLx := Lib.hid (HBL.out.trans (hb.mono HBL.out.size))
                        have HTKx := Lib.hid (HTK.out.below hb)
                        clear HB HX HA HW HIV HIH HZ HIW HBL HTK
                        have HB := HBx
                        have HX := HXx
                        have HA := HAx
                        have HW := HWx
                        have HIV := HIVx
                        have HIH := HIHx
                        have HZ := HZx
                        have HIW := HIWx
                        have HBL := HBLx
                        have HTK := HTKx
                        clear HBx HXx HAx HWx HIVx HIHx HZx HIWx HBLx HTKx
                        clear hb
                        have HTT : Hid (T0 ≤ w24.heap.size) := HTK.out.TW
                        have CR := Lib.hid (refTake_any xa xv xn xc ya ys yn yc x da dc _ HX.out.rv HX.out.vl HX.out.rh HX.out.hl HX.out.hk HW.out HHE.out HFT.out ta tb td 0 HTI.out)
                        rw [HDN.out] at CR
                        obtain ⟨c0, c1, c2, c3, c4, c5, c6, c7, c8, c9, c10, c11⟩ := HA.out
                        obtain ⟨z0, z1, z2, z3, z4, z5, z6, z7, z8, z9, z10, z11⟩ := HZ.out
                        go_wp2_with fail
                        refine (CR.out).mono ?_
                        rintro e w25 ⟨pa, pn, pc, pla, pln, plc, pta, ptn, ptc, rfl, hpn, hpln, hptn, hpv, hpl, hpt, hplc, hb, hge1, hge2⟩
                        clear c0 c1 c2 c3 c4 c5 c6 c7 c8 c9 c10 c11 z0 z1 z2 z3 z4 z5 z6 z7 z8 z9 z10 z11
                        clear CR
                        have HBx := Lib.hid (HB.out.trans (hb.mono HB.out.size))
                        have HXx := Lib.hid (HX.out.below hb)
                        have HAx := Lib.hid (HA.out.next hb)
                        have HWx := Lib.hid (HW.out.below hb (Nat.le_refl _))
                        have HIVx := Lib.hid (HIV.out.below hb (Nat.le_refl _))
                        have HIHx := Lib.hid (HIH.out.below hb)
                        have HZx := Lib.hid (HZ.out.next hb)
                        have HIWx := Lib.hid (HIW.out.below hb (Nat.le_refl _))
                        have HBLx := Lib.hid (HBL.out.trans (hb.mono HBL.out.size))
                        have HTKx := Lib.hid (HTK.out.below hb)
                        clear HB HX HA HW HIV HIH HZ HIW HBL HTK
                        have HB := HBx
                        have HX := HXx
                        have HA := HAx
                        have HW := HWx
                        have HIV := HIVx
                        have HIH := HIHx
                        have HZ := HZx
                        have HIW := HIWx
                        have HBL := HBLx
                        have HTK := HTKx
                        clear HBx HXx HAx HWx HIVx HIHx HZx HIWx HBLx HTKx
                        have HPN := Lib.hid hpn
                        have HPL := Lib.hid hpln
                        have HPT := Lib.hid hptn
                        have HPC := Lib.hid hplc
                        have HPV := Lib.hid hpv
                        have HPR := Lib.hid hpt
                        have HGE1 := Lib.hid hge1
                        have HGE2 := Lib.hid hge2
                        clear hb hpn hpln hptn hpv hpl hpt hplc hge1 hge2
                        go_wp2_with fail
                        refine (num14_any 0 _).mono ?_
                        rintro e wn ⟨rfl, rfl⟩
                        have HVT := Lib.hid (Hv.vecB_len (heldPW.1 HGD.out.1).1)
                        have HHT := Lib.hid (heldPW.1 HGD.out.1).2.1
                        have HTL := Lib.hid HGD.out.2.2.1
                        go_wp2_with fail
                        refine (eqI_bel wva pa ta wvn pn wvc pc _ (ownK_row' HTK.out.vec) HPV.out HWN.out.symm HPN.out (by have := HVT.out; omega)).mono ?_
                        rintro e w26 ⟨rfl, hb⟩
                        have HBx := Lib.hid (HB.out.trans (hb.mono HB.out.size))
                        have HXx := Lib.hid (HX.out.below hb)
                        have HAx := Lib.hid (HA.out.next hb)
                        have HWx := Lib.hid (HW.out.below hb (Nat.le_refl _))
                        have HIVx := Lib.hid (HIV.out.below hb (Nat.le_refl _))
                        have HIHx := Lib.hid (HIH.out.below hb)
                        have HZx := Lib.hid (HZ.out.next hb)
                        have HIWx := Lib.hid (HIW.out.below hb (Nat.le_refl _))
                        have HBLx := Lib.hid (HBL.out.trans (hb.mono HBL.out.size))
                        have HTKx := Lib.hid (HTK.out.below hb)
                        have HPVx := Lib.hid (HPV.out.below hb (Nat.le_refl _))
                        have HPRx := Lib.hid (HPR.out.below hb)
                        have HGE2x := Lib.hid (HGE2.out.below hb)
                        clear HB HX HA HW HIV HIH HZ HIW HBL HTK HPV HPR HGE2
                        have HB := HBx
                        have HX := HXx
                        have HA := HAx
                        have HW := HWx
                        have HIV := HIVx
                        have HIH := HIHx
                        have HZ := HZx
                        have HIW := HIWx
                        have HBL := HBLx
                        have HTK := HTKx
                        have HPV := HPVx
                        have HPR := HPRx
                        have HGE2 := HGE2x
                        clear HBx HXx HAx HWx HIVx HIHx HZx HIWx HBLx HTKx HPVx HPRx HGE2x
                        clear hb
                        go_wp2_with fail
                        refine (eqOps_yes lva pla tb lvn pln lvc plc _ (by obtain ⟨a1, n1, c1, e1, f1, f2, f3⟩ := HTK.out.hld.row HTK.out.hdp.read; injection e1 with e1 e2 e3; subst e1 e2 e3; exact f3) HGE2.out.row (by obtain ⟨a1, n1, c1, e1, f1, f2, f3⟩ := HTK.out.hld.row HTK.out.hdp.read; injection e1 with e1 e2 e3; subst e1 e2 e3; exact f1) HPL.out (by have := HHT.out; omega)).mono ?_
                        rintro e w27 ⟨rfl, hb⟩
                        have HBx := Lib.hid (HB.out.trans (hb.mono HB.out.size))
                        have HXx := Lib.hid (HX.out.below hb)
                        have HAx := Lib.hid (HA.out.next hb)
                        have HWx := Lib.hid (HW.out.below hb (Nat.le_refl _))
                        have HIVx := Lib.hid (HIV.out.below hb (Nat.le_refl _))
                        have HIHx := Lib.hid (HIH.out.below hb)
                        have HZx := Lib.hid (HZ.out.next hb)
                        have HIWx := Lib.hid (HIW.out.below hb (Nat.le_refl _))
                        have HBLx := Lib.hid (HBL.out.trans (hb.mono HBL.out.size))
                        have HTKx := Lib.hid (HTK.out.below hb)
                        have HPVx := Lib.hid (HPV.out.below hb (Nat.le_refl _))
                        have HPRx := Lib.hid (HPR.out.below hb)
                        have HGE2x := Lib.hid (HGE2.out.below hb)
                        clear HB HX HA HW HIV HIH HZ HIW HBL HTK HPV HPR HGE2
                        have HB := HBx
                        have HX := HXx
                        have HA := HAx
                        have HW := HWx
                        have HIV := HIVx
                        have HIH := HIHx
                        have HZ := HZx
                        have HIW := HIWx
                        have HBL := HBLx
                        have HTK := HTKx
                        have HPV := HPVx
                        have HPR := HPRx
                        have HGE2 := HGE2x
                        clear HBx HXx HAx HWx HIVx HIHx HZx HIWx HBLx HTKx HPVx HPRx HGE2x
                        clear hb
                        go_wp2_with fail
                        refine (eqOps_yes tva pta td tvn ptn tvc ptc _ (by obtain ⟨a1, n1, c1, e1, f1, f2, f3⟩ := HTK.out.tak.row HTK.out.tdp.read; injection e1 with e1 e2 e3; subst e1 e2 e3; exact f3) HPR.out (by obtain ⟨a1, n1, c1, e1, f1, f2, f3⟩ := HTK.out.tak.row HTK.out.tdp.read; injection e1 with e1 e2 e3; subst e1 e2 e3; exact f1) HPT.out (by have := HTL.out; omega)).mono ?_
                        rintro e w28 ⟨rfl, hb⟩
                        have HBx := Lib.hid (HB.out.trans (hb.mono HB.out.size))
                        have HXx := Lib.hid (HX.out.below hb)
                        have HAx := Lib.hid (HA.out.next hb)
                        have HWx := Lib.hid (HW.out.below hb (Nat.le_refl _))
                        have HIVx := Lib.hid (HIV.out.below hb (Nat.le_refl _))
                        have HIHx := Lib.hid (HIH.out.below hb)
                        have HZx := Lib.hid (HZ.out.next hb)
                        have HIWx := Lib.hid (HIW.out.below hb (Nat.le_refl _))
                        have HBLx := Lib.hid (HBL.out.trans (hb.mono HBL.out.size))
                        have HTKx := Lib.hid (HTK.out.below hb)
                        have HPVx := Lib.hid (HPV.out.below hb (Nat.le_refl _))
                        have HPRx := Lib.hid (HPR.out.below hb)
                        have HGE2x := Lib.hid (HGE2.out.below hb)
                        clear HB HX HA HW HIV HIH HZ HIW HBL HTK HPV HPR HGE2
                        have HB := HBx
                        have HX := HXx
                        have HA := HAx
                        have HW := HWx
                        have HIV := HIVx
                        have HIH := HIHx
                        have HZ := HZx
                        have HIW := HIWx
                        have HBL := HBLx
                        have HTK := HTKx
                        have HPV := HPVx
                        have HPR := HPRx
                        have HGE2 := HGE2x
                        clear HBx HXx HAx HWx HIVx HIHx HZx HIWx HBLx HTKx HPVx HPRx HGE2x
                        clear hb
                        have CHL := Lib.hid (refHold_any pa ta pn pc pla tb pln plc _ HPV.out HPN.out (by have := HVT.out; omega) HGE2.out.row HPL.out (by have := HHT.out; omega))
                        rw [HGD.out.1] at CHL
                        go_wp2_with fail
                        refine (CHL.out).mono ?_
                        rintro e w29 ⟨rfl, hb⟩
                        have HBx := Lib.hid (HB.out.trans (hb.mono HB.out.size))
                        have HXx := Lib.hid (HX.out.below hb)
                        have HAx := Lib.hid (HA.out.next hb)
                        have HWx := Lib.hid (HW.out.below hb (Nat.le_refl _))
                        have HIVx := Lib.hid (HIV.out.below hb (Nat.le_refl _))
                        have HIHx := Lib.hid (HIH.out.below hb)
                        have HZx := Lib.hid (HZ.out.next hb)
                        have HIWx := Lib.hid (HIW.out.below hb (Nat.le_refl _))
                        have HBLx := Lib.hid (HBL.out.trans (hb.mono HBL.out.size))
                        have HTKx := Lib.hid (HTK.out.below hb)
                        have HPVx := Lib.hid (HPV.out.below hb (Nat.le_refl _))
                        have HPRx := Lib.hid (HPR.out.below hb)
                        have HGE2x := Lib.hid (HGE2.out.below hb)
                        clear HB HX HA HW HIV HIH HZ HIW HBL HTK HPV HPR HGE2
                        have HB := HBx
                        have HX := HXx
                        have HA := HAx
                        have HW := HWx
                        have HIV := HIVx
                        have HIH := HIHx
                        have HZ := HZx
                        have HIW := HIWx
                        have HBL := HBLx
                        have HTK := HTKx
                        have HPV := HPVx
                        have HPR := HPRx
                        have HGE2 := HGE2x
                        clear HBx HXx HAx HWx HIVx HIHx HZx HIWx HBLx HTKx HPVx HPRx HGE2x
                        clear CHL
                        clear hb
                        go_wp2_with fail
                        refine (over_any (.slice wva wvn wvc) _ ta _ HTK.out.vec HBL.out.size (by have := HVT.out; omega)).mono ?_
                        rintro e w31 ⟨rfl, hg31⟩
                        obtain ⟨ob1, hl1, hd1, ht1, hq1⟩ := HTK.out.s1 hg31
                        have HOB1 := Lib.hid ob1
                        have HL1 := Lib.hid hl1
                        have HD1 := Lib.hid hd1
                        have HT1 := Lib.hid ht1
                        have HQ1 := Lib.hid hq1
                        have HBB : Hid (B ≤ w31.heap.size) := Nat.le_trans (Nat.le_trans HTK.out.BT HTK.out.TW) ob1.size
                        have HDS1 : Hid (∀ y ∈ tb, y.1.ds.length ≤ 65536) := fun y hy => by
                          have h1 := ((heldPW.1 HGD.out.1).2.2.1 y hy).1
                          have h2 := (fits_iff.1 h1).2.2
                          have h3 := HVT.out
                          omega
                        have HDS2 : Hid (∀ y ∈ td, y.1.ds.length ≤ 65536) := fun y hy => by have := HGD.out.2.2.2 y hy; omega
                        clear hg31 ob1 hl1 hd1 ht1 hq1
                        go_wp2_with fail
                        refine (spoilOps_any (.slice lva lvn lvc) tb dl1 B _ HL1.out HD1.out HDS1.out (by have := HHT.out; omega) HBB.out).mono ?_
                        rintro e w32 ⟨rfl, ho32⟩
                        obtain ⟨ob2, ht2, hq2⟩ := HTK.out.s2 HT1.out HQ1.out ho32
                        have HOB2 := Lib.hid (HOB1.out.trans ob2)
                        have HT2 := Lib.hid ht2
                        have HQ2 := Lib.hid hq2
                        have HSB2 : Hid (_ ≤ w32.heap.size) := Nat.le_trans HTK.out.hB (Nat.le_trans HBB.out ob2.size)
                        clear ho32 ob2 ht2 hq2 HL1 HD1 HT1 HQ1 HOB1 HBB
                        go_wp2_with fail
                        refine (spoilOps_any (.slice tva tvn tvc) td dl2 _ _ HT2.out HQ2.out HDS2.out (by have := HTL.out; omega) HSB2.out).mono ?_
                        rintro e w33 ⟨rfl, ho33⟩
                        have HOB := Lib.hid (HOB2.out.trans (HTK.out.s3 ho33))
                        clear ho33 HT2 HQ2 HOB2 HSB2
                        have HBL2 := Lib.hid (HOB.out.bel HBL.out HBL.out.size (fun k hk => hk.1))
                        have HPV2 := Lib.hid (HOB.out.rowK HPV.out HGE1.out (fun k hk => Nat.lt_of_lt_of_le hk.2 HTT.out))
                        have HPH2 := Lib.hid (HOB.out.rowO HGE2.out (fun k hk => Nat.lt_of_lt_of_le hk.2 HTT.out))
                        clear HB HX HA HW HIV HIH HZ HIW HBL HTK HPV HGE2 HPR HOB
                        have HB := Lib.hid (HBs.out.trans (HBL2.out.mono HBs.out.size))
                        have HX := Lib.hid (HXs.out.below HBL2.out)
                        have HA := Lib.hid (HAs.out.next HBL2.out)
                        have HW := Lib.hid (HWs.out.below HBL2.out (Nat.le_refl _))
                        have HIH := Lib.hid (HIHs.out.below HBL2.out)
                        have HZ := Lib.hid (HZs.out.next HBL2.out)
                        have HIW := Lib.hid (HIWs.out.below HBL2.out (Nat.le_refl _))
                        have HPV := HPV2
                        have HPH := HPH2
                        clear HPV2 HPH2 HBL2 HBs HXs HAs HWs HIVs HIHs HZs HIWs
                        obtain ⟨c0, c1, c2, c3, c4, c5, c6, c7, c8, c9, c10, c11⟩ := HA.out
                        obtain ⟨z0, z1, z2, z3, z4, z5, z6, z7, z8, z9, z10, z11⟩ := HZ.out
                        go_wp2_with fail
                        refine (eqOps_yes iha ya ys ihn yn ihc yc _ HIH.out HX.out.rh HIN.out HX.out.hl HYL.out).mono ?_
                        rintro e w34 ⟨rfl, hb⟩
                        clear c0 c1 c2 c3 c4 c5 c6 c7 c8 c9 c10 c11 z0 z1 z2 z3 z4 z5 z6 z7 z8 z9 z10 z11
                        have HBx := Lib.hid (HB.out.trans (hb.mono HB.out.size))
                        have HXx := Lib.hid (HX.out.below hb)
                        have HAx := Lib.hid (HA.out.next hb)
                        have HWx := Lib.hid (HW.out.below hb (Nat.le_refl _))
                        have HIHx := Lib.hid (HIH.out.below hb)
                        have HZx := Lib.hid (HZ.out.next hb)
                        have HIWx := Lib.hid (HIW.out.below hb (Nat.le_refl _))
                        have HPVx := Lib.hid (HPV.out.below hb (Nat.le_refl _))
                        have HPHx := Lib.hid (HPH.out.below hb)
                        clear HB HX HA HW HIH HZ HIW HPV HPH
                        have HB := HBx
                        have HX := HXx
                        have HA := HAx
                        have HW := HWx
                        have HIH := HIHx
                        have HZ := HZx
                        have HIW := HIWx
                        have HPV := HPVx
                        have HPH := HPHx
                        clear HBx HXx HAx HWx HIHx HZx HIWx HPVx HPHx
                        clear hb
                        obtain ⟨c0, c1, c2, c3, c4, c5, c6, c7, c8, c9, c10, c11⟩ := HA.out
                        obtain ⟨z0, z1, z2, z3, z4, z5, z6, z7, z8, z9, z10, z11⟩ := HZ.out
                        go_wp2_with fail
                        refine (eqOp_bel x.1.t x.1.r x.2 oa x.1.ds dn oc x.1.k x.1.nt x.1.nr x.1.pt x.1.pr x.1.s x.1.p x.1.v da dn dc _ HIW.out HDN.out.symm HDL.out HW.out HDN.out.symm).mono ?_
                        rintro e w35 ⟨rfl, hb⟩
                        clear c0 c1 c2 c3 c4 c5 c6 c7 c8 c9 c10 c11 z0 z1 z2 z3 z4 z5 z6 z7 z8 z9 z10 z11
                        have HBx := Lib.hid (HB.out.trans (hb.mono HB.out.size))
                        have HXx := Lib.hid (HX.out.below hb)
                        have HAx := Lib.hid (HA.out.next hb)
                        have HWx := Lib.hid (HW.out.below hb (Nat.le_refl _))
                        have HIHx := Lib.hid (HIH.out.below hb)
                        have HZx := Lib.hid (HZ.out.next hb)
                        have HIWx := Lib.hid (HIW.out.below hb (Nat.le_refl _))
                        have HPVx := Lib.hid (HPV.out.below hb (Nat.le_refl _))
                        have HPHx := Lib.hid (HPH.out.below hb)
                        clear HB HX HA HW HIH HZ HIW HPV HPH
                        have HB := HBx
                        have HX := HXx
                        have HA := HAx
                        have HW := HWx
                        have HIH := HIHx
                        have HZ := HZx
                        have HIW := HIWx
                        have HPV := HPVx
                        have HPH := HPHx
                        clear HBx HXx HAx HWx HIHx HZx HIWx HPVx HPHx
                        clear hb
                        have C35 := Lib.hid (copyI_big pa ta pn pc _ HPV.out HPN.out (by have := HVT.out; omega))
                        clear HA HW HIH HZ HIW HX
                        go_wp2_with fail
                        refine (C35.out).mono ?_
                        rintro e w36 ⟨nv, rfl, hnv, hb⟩
                        have HBx := Lib.hid (HB.out.trans (hb.mono HB.out.size))
                        have HPVx := Lib.hid (HPV.out.below hb (Nat.le_refl _))
                        have HPHx := Lib.hid (HPH.out.below hb)
                        clear HB HPV HPH
                        have HB := HBx
                        have HPV := HPVx
                        have HPH := HPHx
                        clear HBx HPVx HPHx
                        have HNV := Lib.hid hnv
                        clear hb hnv C35
                        have C36 := Lib.hid (copyOps_any pla tb pln plc _ HPH.out.row HPL.out (by have := HHT.out; omega))
                        clear HPV HPH
                        go_wp2_with fail
                        refine (C36.out).mono ?_
                        rintro e w37 ⟨nh, ndl, rfl, hnh, hnd, hb⟩
                        have HBx := Lib.hid (HB.out.trans (hb.mono HB.out.size))
                        have HNVx := Lib.hid (HNV.out.below hb)
                        clear HB HNV
                        have HB := HBx
                        have HNV := HNVx
                        clear HBx HNVx
                        have HNH := Lib.hid hnh
                        have HND := Lib.hid hnd
                        clear hb hnh hnd C36
                        obtain ⟨va4, vn4, vc4, ha4, n4, c4', rfl, rfl, hex4⟩ := ExS.of HNV.out HNH.out HND.out (by have := HVT.out; omega) (by have := HHT.out; omega)
                        have HEX4 := Lib.hid hex4
                        clear hex4 HNV HNH HND
                        go_wp2_with fail
                        go_roundg (25 - (i + 1))
                        case measure => omega
                        case rel => exact ⟨i + 1, va4, ta, vn4, vc4, ha4, tb, n4, c4', rfl, rfl, by go_num, by omega, by omega, HEX4.out, HB.out⟩
                    · as_aux_lemma =>
                        subst hz
                        clear HBs HXs HAs HWs HIVs HIHs HZs HIWs
                        have HBx := Lib.hid (HB.out.trans (hb.mono HB.out.size))
                        have HXx := Lib.hid (HX.out.below hb)
                        have HAx := Lib.hid (HA.out.next hb)
                        have HWx := Lib.hid (HW.out.below hb (Nat.le_refl _))
                        have HIVx := Lib.hid (HIV.out.below hb (Nat.le_refl _))
                        have HIHx := Lib.hid (HIH.out.below hb)
                        have HZx := Lib.hid (HZ.out.next hb)
                        have HIWx := Lib.hid (HIW.out.below hb (Nat.le_refl _))
                        clear HB HX HA HW HIV HIH HZ HIW
                        have HB := HBx
                        have HX := HXx
                        have HA := HAx
                        have HW := HWx
                        have HIV := HIVx
                        have HIH := HIHx
                        have HZ := HZx
                        have HIW := HIWx
                        clear HBx HXx HAx HWx HIVx HIHx HZx HIWx
                        clear hb
                        obtain ⟨c0, c1, c2, c3, c4, c5, c6, c7, c8, c9, c10, c11⟩ := HA.out
                        obtain ⟨z0, z1, z2, z3, z4, z5, z6, z7, z8, z9, z10, z11⟩ := HZ.out
                        go_wp2_with fail
                        refine (eqI_bel iva xa xv ivn xn ivc xc _ HIV.out HX.out.rv HIL.out.symm HX.out.vl HVL.out).mono ?_
                        rintro e w22 ⟨rfl, hb⟩
                        clear c0 c1 c2 c3 c4 c5 c6 c7 c8 c9 c10 c11 z0 z1 z2 z3 z4 z5 z6 z7 z8 z9 z10 z11
                        have HBx := Lib.hid (HB.out.trans (hb.mono HB.out.size))
                        have HXx := Lib.hid (HX.out.below hb)
                        have HAx := Lib.hid (HA.out.next hb)
                        have HWx := Lib.hid (HW.out.below hb (Nat.le_refl _))
                        have HIVx := Lib.hid (HIV.out.below hb (Nat.le_refl _))
                        have HIHx := Lib.hid (HIH.out.below hb)
                        have HZx := Lib.hid (HZ.out.next hb)
                        have HIWx := Lib.hid (HIW.out.below hb (Nat.le_refl _))
                        clear HB HX HA HW HIV HIH HZ HIW
                        have HB := HBx
                        have HX := HXx
                        have HA := HAx
                        have HW := HWx
                        have HIV := HIVx
                        have HIH := HIHx
                        have HZ := HZx
                        have HIW := HIWx
                        clear HBx HXx HAx HWx HIVx HIHx HZx HIWx
                        clear hb
                        obtain ⟨c0, c1, c2, c3, c4, c5, c6, c7, c8, c9, c10, c11⟩ := HA.out
                        obtain ⟨z0, z1, z2, z3, z4, z5, z6, z7, z8, z9, z10, z11⟩ := HZ.out
                        go_wp2_with fail
                        refine (eqOps_yes iha ya ys ihn yn ihc yc _ HIH.out HX.out.rh HIN.out HX.out.hl HYL.out).mono ?_
                        rintro e w23 ⟨rfl, hb⟩
                        clear c0 c1 c2 c3 c4 c5 c6 c7 c8 c9 c10 c11 z0 z1 z2 z3 z4 z5 z6 z7 z8 z9 z10 z11
                        have HBx := Lib.hid (HB.out.trans (hb.mono HB.out.size))
                        have HXx := Lib.hid (HX.out.below hb)
                        have HAx := Lib.hid (HA.out.next hb)
                        have HWx := Lib.hid (HW.out.below hb (Nat.le_refl _))
                        have HIVx := Lib.hid (HIV.out.below hb (Nat.le_refl _))
                        have HIHx := Lib.hid (HIH.out.below hb)
                        have HZx := Lib.hid (HZ.out.next hb)
                        have HIWx := Lib.hid (HIW.out.below hb (Nat.le_refl _))
                        clear HB HX HA HW HIV HIH HZ HIW
                        have HB := HBx
                        have HX := HXx
                        have HA := HAx
                        have HW := HWx
                        have HIV := HIVx
                        have HIH := HIHx
                        have HZ := HZx
                        have HIW := HIWx
                        clear HBx HXx HAx HWx HIVx HIHx HZx HIWx
                        clear hb
                        obtain ⟨c0, c1, c2, c3, c4, c5, c6, c7, c8, c9, c10, c11⟩ := HA.out
                        obtain ⟨z0, z1, z2, z3, z4, z5, z6, z7, z8, z9, z10, z11⟩ := HZ.out
                        go_wp2_with fail
                        refine (eqOp_bel x.1.t x.1.r x.2 oa x.1.ds dn oc x.1.k x.1.nt x.1.nr x.1.pt x.1.pr x.1.s x.1.p x.1.v da dn dc _ HIW.out HDN.out.symm HDL.out HW.out HDN.out.symm).mono ?_
                        rintro e w24 ⟨rfl, hb⟩
                        clear c0 c1 c2 c3 c4 c5 c6 c7 c8 c9 c10 c11 z0 z1 z2 z3 z4 z5 z6 z7 z8 z9 z10 z11
                        have HBx := Lib.hid (HB.out.trans (hb.mono HB.out.size))
                        have HXx := Lib.hid (HX.out.below hb)
                        have HAx := Lib.hid (HA.out.next hb)
                        have HWx := Lib.hid (HW.out.below hb (Nat.le_refl _))
                        have HIVx := Lib.hid (HIV.out.below hb (Nat.le_refl _))
                        have HIHx := Lib.hid (HIH.out.below hb)
                        have HZx := Lib.hid (HZ.out.next hb)
                        have HIWx := Lib.hid (HIW.out.below hb (Nat.le_refl _))
                        clear HB HX HA HW HIV HIH HZ HIW
                        have HB := HBx
                        have HX := HXx
                        have HA := HAx
                        have HW := HWx
                        have HIV := HIVx
                        have HIH := HIHx
                        have HZ := HZx
                        have HIW := HIWx
                        clear HBx HXx HAx HWx HIVx HIHx HZx HIWx
                        clear hb
                        have CR := Lib.hid (refTake_any xa xv xn xc ya ys yn yc x da dc _ HX.out.rv HX.out.vl HX.out.rh HX.out.hl HX.out.hk HW.out HHE.out HFT.out ta tb td 5 HTI.out)
                        rw [HDN.out] at CR
                        obtain ⟨c0, c1, c2, c3, c4, c5, c6, c7, c8, c9, c10, c11⟩ := HA.out
                        obtain ⟨z0, z1, z2, z3, z4, z5, z6, z7, z8, z9, z10, z11⟩ := HZ.out
                        go_wp2_with fail
                        refine (CR.out).mono ?_
                        rintro e w25 ⟨pa, pn, pc, pla, pln, plc, pta, ptn, ptc, rfl, -, -, -, -, -, -, -, hb, -, -⟩
                        clear c0 c1 c2 c3 c4 c5 c6 c7 c8 c9 c10 c11 z0 z1 z2 z3 z4 z5 z6 z7 z8 z9 z10 z11
                        clear CR
                        have HBx := Lib.hid (HB.out.trans (hb.mono HB.out.size))
                        have HXx := Lib.hid (HX.out.below hb)
                        have HAx := Lib.hid (HA.out.next hb)
                        have HWx := Lib.hid (HW.out.below hb (Nat.le_refl _))
                        have HIVx := Lib.hid (HIV.out.below hb (Nat.le_refl _))
                        have HIHx := Lib.hid (HIH.out.below hb)
                        have HZx := Lib.hid (HZ.out.next hb)
                        have HIWx := Lib.hid (HIW.out.below hb (Nat.le_refl _))
                        clear HB HX HA HW HIV HIH HZ HIW
                        have HB := HBx
                        have HX := HXx
                        have HA := HAx
                        have HW := HWx
                        have HIV := HIVx
                        have HIH := HIHx
                        have HZ := HZx
                        have HIW := HIWx
                        clear HBx HXx HAx HWx HIVx HIHx HZx HIWx
                        clear hb
                        go_wp2_with fail
                        refine (num14_any 5 _).mono ?_
                        rintro e wn ⟨rfl, rfl⟩
                        go_wp2_with fail
                        go_roundg (25 - (i + 1))
                        case measure => omega
                        case rel => exact ⟨i + 1, xa, xv, xn, xc, ya, ys, yn, yc, rfl, rfl, by go_num, by omega, by omega, HX.out, HB.out⟩
        · have hiz : decide ((i : Int) < 25) = false := decide_eq_false (by omega)
          have hiy : ¬ (i : Int) < 25 := by omega
          go_wp2_with fail
          refine (wakes14_any wr (HTW.out wr (HBX.out wr HB.out))).mono ?_
          rintro e w9 ⟨rfl, hb9⟩
          have HB9 := Lib.hid ((HBX.out wr HB.out).trans (hb9.mono (HBX.out wr HB.out).size))
          clear hb9
          go_wp2
          go_ret
          exact ⟨rfl, HB9.out⟩
      · have hinz : decide ((i : Int) < (ln : Int)) = false := decide_eq_false (by omega)
        have hiny : ¬ (i : Int) < (ln : Int) := by omega
        go_wp2_with fail
        refine (wakes14_any wr (HTW.out wr (HBX.out wr HB.out))).mono ?_
        rintro e w9 ⟨rfl, hb9⟩
        have HB9 := Lib.hid ((HBX.out wr HB.out).trans (hb9.mono (HBX.out wr HB.out).size))
        clear hb9
        go_wp2
        go_ret
        exact ⟨rfl, HB9.out⟩
  · go_wp2
    go_ret
    exact ⟨rfl, HB0.out⟩
end Go.Proofs.YtdpopdlifcjdeaaDoor
