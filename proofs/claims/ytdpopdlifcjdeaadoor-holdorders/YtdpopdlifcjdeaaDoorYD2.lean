/- Joined: D2. -/
import Derived.Test.YtdpopdlifcjdeaaDoorYD1
import Derived.Test.YtdpopdlifcjdeaaDoorZA

/- Hold: the page's Fits and Ready; same; the closures. -/
namespace Go.Proofs.YtdpopdlifcjdeaaDoor
open Go.RowKit Go.Lib
set_option linter.unusedVariables false

set_option maxHeartbeats 1000000 in
theorem refFits_any (va : Option Addr) (v : List Int) (vn vc : Nat) (x : OpD) (da : Option Addr) (dn dc : Nat) (w : World) (hv : RowK .i64 w va v) (hvn : vn = v.length) (hvl : v.length ≤ 140737488355328) (hr : RowK .i64 w da x.1.ds) (hn : dn = x.1.ds.length) (hl : x.1.ds.length ≤ 140737488355328) :
    Calls Tryd.prog 14 #[.slice va vn vc, valO x da dn dc] w (BoolPost w (fitsB v x)) := by
  have HB := Lib.hid (box_bel w (objO x da dn dc))
  have HA := Lib.hid (OpX.new w x da dn dc)
  obtain ⟨b, hb⟩ : ∃ b, Hv.vecB v = b := ⟨_, rfl⟩
  have C := Lib.hid (Hv.refVector_is va v vn vc _ (hv.alloc (objO x da dn dc)) hvn hvl hb)
  have D := Lib.hid (refOp_any x.1.t x.1.r x.2 da x.1.ds dn dc x.1.k x.1.nt x.1.nr x.1.pt x.1.pr x.1.s x.1.p x.1.v _ (hr.alloc (objO x da dn dc)) hn hl)
  cases b
  · rw [show fitsB v x = false by simp [fitsB, hb]]
    clear hb hv hvn hvl hr hn hl D
    go_enter Tryd.func14, Tryd.ntmps14
    go_wp2_with fail
    refine (C.out).mono ?_
    rintro e w1 ⟨rfl, rfl⟩
    go_wp2
    go_ret
    exact ⟨rfl, HB.out⟩
  · obtain ⟨c, hc⟩ : ∃ c, opB x.1.t x.1.r x.2 x.1.ds x.1.k x.1.nt x.1.nr x.1.pt x.1.pr x.1.s x.1.p x.1.v = c := ⟨_, rfl⟩
    rw [hc] at D
    cases c
    · rw [show fitsB v x = false by simp [fitsB, OpD.ok, OpR.ok, hc]]
      clear hb hv hvn hvl hr hn hl hc
      go_enter Tryd.func14, Tryd.ntmps14
      go_wp2_with fail
      refine (C.out).mono ?_
      rintro e w1 ⟨rfl, rfl⟩
      obtain ⟨c0, c1, c2, c3, c4, c5, c6, c7, c8, c9, c10, c11⟩ := HA.out
      go_wp2_with fail
      refine (D.out).mono ?_
      rintro e w2 ⟨rfl, hb2⟩
      have HB2 := Lib.hid (HB.out.trans (hb2.mono HB.out.size))
      clear hb2 D c0 c1 c2 c3 c4 c5 c6 c7 c8 c9 c10 c11
      go_wp2
      go_ret
      exact ⟨rfl, HB2.out⟩
    · obtain ⟨bb, hbb⟩ : ∃ bb, ((dn : Int) == (vn : Int)) = bb := ⟨_, rfl⟩
      rw [show fitsB v x = bb by
        rw [← hbb, hn, hvn]
        simp only [fitsB, OpD.ok, OpR.ok, hc, hb, Bool.true_and]
        rw [Bool.eq_iff_iff, decide_eq_true_eq, beq_iff_eq]
        omega]
      clear hb hv hvn hvl hr hn hl hc
      go_enter Tryd.func14, Tryd.ntmps14
      go_wp2_with fail
      refine (C.out).mono ?_
      rintro e w1 ⟨rfl, rfl⟩
      obtain ⟨c0, c1, c2, c3, c4, c5, c6, c7, c8, c9, c10, c11⟩ := HA.out
      go_wp2_with fail
      refine (D.out).mono ?_
      rintro e w2 ⟨rfl, hb2⟩
      have HB2 := Lib.hid (HB.out.trans (hb2.mono HB.out.size))
      have HA2 := Lib.hid (HA.out.next hb2)
      clear hb2 D c0 c1 c2 c3 c4 c5 c6 c7 c8 c9 c10 c11
      obtain ⟨c0, c1, c2, c3, c4, c5, c6, c7, c8, c9, c10, c11⟩ := HA2.out
      go_wp2
      go_ret
      exact ⟨rfl, HB2.out⟩

set_option maxHeartbeats 1000000 in
theorem refReady_any (va : Option Addr) (v : List Int) (vn vc : Nat) (x : OpD) (da : Option Addr) (dn dc : Nat) (w : World) (hv : RowK .i64 w va v) (hvn : vn = v.length) (hr : RowK .i64 w da x.1.ds) (hn : dn = x.1.ds.length) (hf : fitsB v x = true) :
    Calls Tryd.prog 16 #[.slice va vn vc, valO x da dn dc] w (BoolPost w (readyB v x)) := by
  have mixed : Tryd.prog.follows .mixedOrders = true := by kernel_rfl
  have F := ok_facts (fits_iff.1 hf).2.1
  have hvl := Hv.vecB_len (fits_iff.1 hf).1
  have hlt := fits_lt hf
  have HB := Lib.hid (box_bel w (objO x da dn dc))
  have HA := Lib.hid (OpX.new w x da dn dc)
  obtain ⟨rn, hrn⟩ : ∃ rn : Nat, x.1.r = rn := ⟨x.1.r.toNat, by have := F.r0; omega⟩
  have hrl : rn < vn := by omega
  have hrl2 : (rn : Int) < (vn : Int) := by omega
  have hcell := hv rn (by omega)
  obtain ⟨vb, vo, rfl, hc⟩ := hcell
  have C := Lib.hid (fun k => Hv.refCovers_any (some ⟨vb, vo, none⟩) da v x.1.ds vn vc dn dc ((w.alloc (objO x da dn dc)).drewN k) ((hv.alloc (objO x da dn dc)).drewN k) ((hr.alloc (objO x da dn dc)).drewN k) hvn hn (fits_pair hf))
  have hvb := World.block_lt_of_cell? _ _ hc
  have HZ : Hid (atV v x = v.getD rn 0) := by show _ = _; unfold atV; rw [hrn]; rfl
  have hq0 := F.q0
  have hq1 := F.q1
  have hwx : wrap64 (x.2 - 1) = x.2 - 1 := IntWalk.wrap64_in _ (by omega)
  have hw2 : IntKind.i64.wrap (x.2 - 1) = x.2 - 1 := IntWalk.i64_in _ (by omega)
  have cv : (w.alloc (objO x da dn dc)).cell? ⟨vb, vo + rn, none⟩ = some (.int .i64 (v.getD rn 0)) := (HB.out.cell (p := ⟨vb, vo + rn, none⟩) hvb).trans hc
  obtain ⟨cb, hcb⟩ : ∃ cb, Hv.coversB v x.1.ds = cb := ⟨_, rfl⟩
  obtain ⟨bb, hbb⟩ : ∃ bb, (v.getD rn 0 == x.2 - 1) = bb := ⟨_, rfl⟩
  have HR : Hid (readyB v x = (bb && cb)) := by show _ = _; unfold readyB; rw [HZ.out, hcb, hbb]
  rw [hcb] at C
  rw [HR.out]
  have hc1 := HA.out.c1
  rw [hrn] at hc1
  clear hcb HR HZ hvl hlt hc hf hv hr F hq0 hq1 hn hvn hrn
  generalize v.getD rn 0 = z at *
  have CQ : Hid (∀ k, Calls Tryd.prog 29 #[.slice (some ⟨vb, vo, none⟩) vn vc, .slice da dn dc] ((w.alloc (objO x da dn dc)).drewN k) fun e w' => e = .returned (.bool cb) ∧ ∃ m, w' = (w.alloc (objO x da dn dc)).drewN m) := fun k => (C.out k).mono fun _ _ ⟨he, m, hm⟩ => ⟨he, k + m, by rw [hm, World.drewN_drewN]⟩
  clear C
  obtain ⟨c0, _, c2, c3, c4, c5, c6, c7, c8, c9, c10, c11⟩ := HA.out
  clear HA
  go_enter Tryd.func16, Tryd.ntmps16
  go_wp2_with fail
  generalize w.alloc (objO x da dn dc) = W at *
  cases bb
  · go_quiet ((go_at_call 29; exact CQ.out _))
    go_wp2
    go_ret
    exact ⟨rfl, below_drewN HB.out _⟩
  · go_quiet ((go_at_call 29; exact CQ.out _))
    go_wp2
    go_ret
    exact ⟨by rw [Bool.true_and]; rfl, below_drewN HB.out _⟩
end Go.Proofs.YtdpopdlifcjdeaaDoor
