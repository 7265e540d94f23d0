/- Joined: D1 D2 D3 D4 D5. -/
import Derived.Test.YtdpopdlifcjdeaaDoorZG
import Derived.Test.YtdpopdlifcjdeaaDoorZF
import Derived.Test.YtdpopdlifcjdeaaDoorZC
import Derived.Test.YtdpopdlifcjdeaaDoorZA
import Derived.Lib.QuietBelow
import Derived.Shelf.Abstract

/- Hold: words; Ready, the page's Fits and Ready, same. -/
namespace Go.Proofs.YtdpopdlifcjdeaaDoor
open Go.RowKit Go.Lib
set_option linter.unusedVariables false

/-- an operation as a value, its Deps at a place -/
abbrev valO (x : OpD) (da : Option Addr) (dn dc : Nat) : Value := .agg #[.int .i64 x.1.t, .int .i64 x.1.r, .int .i64 x.2, .slice da dn dc, .int .i64 x.1.k, .int .i64 x.1.nt, .int .i64 x.1.nr, .int .i64 x.1.pt, .int .i64 x.1.pr, .string x.1.s, .int .i64 x.1.p, .int .i64 x.1.v]
abbrev objO (x : OpD) (da : Option Addr) (dn dc : Nat) : Obj := .cells #[.int .i64 x.1.t, .int .i64 x.1.r, .int .i64 x.2, .slice da dn dc, .int .i64 x.1.k, .int .i64 x.1.nt, .int .i64 x.1.nr, .int .i64 x.1.pt, .int .i64 x.1.pr, .string x.1.s, .int .i64 x.1.p, .int .i64 x.1.v] 32
abbrev OpX (w : World) (b o : Nat) (x : OpD) (da : Option Addr) (dn dc : Nat) : Prop := OpAt w b o x.1.t x.1.r x.2 da dn dc x.1.k x.1.nt x.1.nr x.1.pt x.1.pr x.1.s x.1.p x.1.v
theorem OpX.new (w : World) (x : OpD) (da : Option Addr) (dn dc : Nat) : OpX (w.alloc (objO x da dn dc)) w.heap.size 0 x da dn dc := OpAt.new w x.1.t x.1.r x.2 da x.1.ds dn dc x.1.k x.1.nt x.1.nr x.1.pt x.1.pr x.1.s x.1.p x.1.v
/-- the element of a vector for an operation's replica -/
def atV (v : List Int) (x : OpD) : Int := v.getD x.1.r.toNat 0
def fitsB (v : List Int) (x : OpD) : Bool := Hv.vecB v && x.ok && decide (x.1.ds.length = v.length)
def readyB (v : List Int) (x : OpD) : Bool := (atV v x == x.2 - 1) && Hv.coversB v x.1.ds
def sameB (a b : OpD) : Bool := (a.1.r == b.1.r) && (a.2 == b.2)
theorem fits_iff {v : List Int} {x : OpD} : fitsB v x = true ↔ Hv.vecB v = true ∧ x.ok = true ∧ x.1.ds.length = v.length := by
  unfold fitsB
  rw [Bool.and_eq_true, Bool.and_eq_true, decide_eq_true_eq, and_assoc]
structure OkF (x : OpD) : Prop where
  st : St.stB x.1.t x.1.r = true
  r0 : 0 ≤ x.1.r
  r1 : x.1.r < 16
  ds : Hv.vecB x.1.ds = true
  rl : x.1.r < x.1.ds.length
  q0 : 1 ≤ x.2
  q1 : x.2 ≤ 1099511627776
  qd : x.2 = x.1.ds.getD x.1.r.toNat 0 + 1
theorem ok_facts {x : OpD} (h : x.ok = true) : OkF x := by
  unfold OpD.ok OpR.ok opB cntB at h
  simp only [Bool.and_eq_true, decide_eq_true_eq] at h
  obtain ⟨⟨⟨h1, h2⟩, ⟨⟨⟨⟨h3, h4⟩, h5⟩, h6⟩, h7⟩⟩, h8⟩ := h
  exact ⟨h1, (stB_rep h1).1, (stB_rep h1).2, h3, h4, h5, h6, h7⟩
theorem fits_pair {v : List Int} {x : OpD} (h : fitsB v x = true) : Hv.pairB v x.1.ds = true := by
  obtain ⟨h1, h2, h3⟩ := fits_iff.1 h
  exact (Hv.pairB_iff _ _).2 ⟨h1, (ok_facts h2).ds, h3.symm⟩
theorem fits_lt {v : List Int} {x : OpD} (h : fitsB v x = true) : x.1.r.toNat < v.length ∧ 0 ≤ x.1.r := by
  obtain ⟨h1, h2, h3⟩ := fits_iff.1 h
  have := ok_facts h2
  have h4 := this.rl
  have h5 := this.r0
  omega
theorem fits_at {v : List Int} {x : OpD} (h : fitsB v x = true) : 0 ≤ atV v x ∧ atV v x ≤ 1099511627776 := Hv.vecB_at (fits_iff.1 h).1 (fits_lt h).1

def ReadyPost (w : World) (b : Bool) (z : Int) (e : Ending) (w' : World) : Prop := e = .returned (.tuple #[.bool b, .int .i64 z]) ∧ Below w.heap.size w w'

set_option maxHeartbeats 1000000 in
theorem ready_yes (va : Option Addr) (v : List Int) (vn vc : Nat) (x : OpD) (da : Option Addr) (dn dc : Nat) (w : World) (ht : Pr.Tab w) (hv : RowK .i64 w va v) (hvn : vn = v.length) (hr : RowK .i64 w da x.1.ds) (hn : dn = x.1.ds.length) (hf : fitsB v x = true) :
    Calls Tryd.prog 15 #[.slice va vn vc, valO x da dn dc] w (ReadyPost w (readyB v x) 0) := by
  have mixed : Tryd.prog.follows .mixedOrders = true := by kernel_rfl
  have F := ok_facts (fits_iff.1 hf).2.1
  have hvl := Hv.vecB_len (fits_iff.1 hf).1
  have hlt := fits_lt hf
  have hdl := (fits_iff.1 hf).2.2
  have HB := Lib.hid (box_bel w (objO x da dn dc))
  have HA := Lib.hid (OpX.new w x da dn dc)
  have C := Lib.hid (Hv.covers_yes va da v x.1.ds vn vc dn dc _ (hv.alloc (objO x da dn dc)) (hr.alloc (objO x da dn dc)) hvn hn (fits_pair hf))
  have D := Lib.hid (fun W (hb : Below w.heap.size w W) => opCheck_any x.1.t x.1.r x.2 da x.1.ds dn dc x.1.k x.1.nt x.1.nr x.1.pt x.1.pr x.1.s x.1.p x.1.v W (ht.below hb ht.lt) (hr.below hb (Nat.le_refl _)) hn (by omega))
  have hop : opB x.1.t x.1.r x.2 x.1.ds x.1.k x.1.nt x.1.nr x.1.pt x.1.pr x.1.s x.1.p x.1.v = true := (fits_iff.1 hf).2.1
  rw [hop] at D
  obtain ⟨rn, hrn⟩ : ∃ rn : Nat, x.1.r = rn := ⟨x.1.r.toNat, by have := F.r0; omega⟩
  have hrl : rn < vn := by omega
  have hrl2 : (rn : Int) < (vn : Int) := by omega
  have hcell := hv rn (by omega)
  obtain ⟨vb, vo, rfl, hc⟩ := hcell
  have hvb := World.block_lt_of_cell? _ _ hc
  have HZ : Hid (atV v x = v.getD rn 0) := by show _ = _; unfold atV; rw [hrn]; rfl
  have hq0 := F.q0
  have hq1 := F.q1
  have hwx : wrap64 (x.2 - 1) = x.2 - 1 := IntWalk.wrap64_in _ (by omega)
  have hw2 : IntKind.i64.wrap (x.2 - 1) = x.2 - 1 := IntWalk.i64_in _ (by omega)
  have hcc := Lib.hid (fun W (hb : Below w.heap.size w W) => (hb.cell (p := ⟨vb, vo + rn, none⟩) hvb).trans hc)
  obtain ⟨cb, hcb⟩ : ∃ cb, Hv.coversB v x.1.ds = cb := ⟨_, rfl⟩
  obtain ⟨bb, hbb⟩ : ∃ bb, (v.getD rn 0 == x.2 - 1) = bb := ⟨_, rfl⟩
  have HR : Hid (readyB v x = (bb && cb)) := by show _ = _; unfold readyB; rw [HZ.out, hcb, hbb]
  rw [hcb] at C
  rw [HR.out]
  clear hcb HR HZ hvl hlt hdl hop hc hf hv hr ht F hq0 hq1 hn hvn
  have HRN := Lib.hid hrn
  clear hrn
  generalize v.getD rn 0 = z at *
  go_enter Tryd.func15, Tryd.ntmps15
  go_wp2_with fail
  refine (C.out).mono ?_
  rintro e w1 ⟨rfl, hb1⟩
  have HA1 := Lib.hid (HA.out.next hb1)
  have HB1 := Lib.hid (HB.out.trans (hb1.mono HB.out.size))
  obtain ⟨c0, c1, c2, c3, c4, c5, c6, c7, c8, c9, c10, c11⟩ := HA1.out
  clear hb1 C HA
  go_wp2_with fail
  refine (D.out _ HB1.out).mono ?_
  rintro e w2 ⟨rfl, hb2⟩
  have HA2 := Lib.hid (HA1.out.next hb2)
  have HB2 := Lib.hid (HB1.out.trans (hb2.mono HB1.out.size))
  clear hb2 D c0 c1 c2 c3 c4 c5 c6 c7 c8 c9 c10 c11
  obtain ⟨c0, c1, c2, c3, c4, c5, c6, c7, c8, c9, c10, c11⟩ := HA2.out
  rw [HRN.out] at c1
  have cv := hcc.out _ HB2.out
  clear hcc HA1 HA2 HB HB1 HRN
  cases cb
  · go_wp2_with fail
    go_quiet (fail)
    go_wp2
    go_ret2
    exact ⟨by rw [Bool.and_false]; rfl, below_drewN HB2.out _⟩
  · go_wp2_with fail
    go_quiet (fail)
    go_wp2
    go_ret2
    exact ⟨by rw [Bool.and_true]; rfl, below_drewN HB2.out _⟩

set_option maxHeartbeats 1000000 in
theorem ready_no (va : Option Addr) (v : List Int) (vn vc : Nat) (x : OpD) (da : Option Addr) (dn dc : Nat) (w : World) (ht : Pr.Tab w) (hv : RowK .i64 w va v) (hvn : vn = v.length) (hvl : v.length ≤ 140737488355328) (hr : RowK .i64 w da x.1.ds) (hn : dn = x.1.ds.length) (hl : x.1.ds.length ≤ 140737488355328) (hf : fitsB v x = false) :
    Calls Tryd.prog 15 #[.slice va vn vc, valO x da dn dc] w (ReadyPost w false 1) := by
  have HB := Lib.hid (box_bel w (objO x da dn dc))
  have HA := Lib.hid (OpX.new w x da dn dc)
  have D := Lib.hid (fun W (hb : Below w.heap.size w W) => opCheck_any x.1.t x.1.r x.2 da x.1.ds dn dc x.1.k x.1.nt x.1.nr x.1.pt x.1.pr x.1.s x.1.p x.1.v W (ht.below hb ht.lt) (hr.below hb (Nat.le_refl _)) hn hl)
  cases hp : Hv.pairB v x.1.ds
  · have C := Lib.hid (Hv.covers_no va da v x.1.ds vn vc dn dc _ (hv.alloc (objO x da dn dc)) (hr.alloc (objO x da dn dc)) hvn hn hvl hl hp)
    clear hf hp ht hv hr hvl hl hvn hn D
    go_enter Tryd.func15, Tryd.ntmps15
    go_wp2_with fail
    refine (C.out).mono ?_
    rintro e w1 ⟨rfl, rfl⟩
    go_wp2
    go_ret2
    exact ⟨rfl, HB.out⟩
  · have C := Lib.hid (Hv.covers_yes va da v x.1.ds vn vc dn dc _ (hv.alloc (objO x da dn dc)) (hr.alloc (objO x da dn dc)) hvn hn hp)
    have hop : opB x.1.t x.1.r x.2 x.1.ds x.1.k x.1.nt x.1.nr x.1.pt x.1.pr x.1.s x.1.p x.1.v = false := by
      obtain ⟨h1, h2, h3⟩ := (Hv.pairB_iff _ _).1 hp
      cases ho : x.ok
      · exact ho
      · rw [fits_iff.2 ⟨h1, ho, h3.symm⟩] at hf
        cases hf
    rw [hop] at D
    clear hf hp ht hv hr hvl hl hvn hn hop
    generalize Hv.coversB v x.1.ds = cb at *
    go_enter Tryd.func15, Tryd.ntmps15
    go_wp2_with fail
    refine (C.out).mono ?_
    rintro e w1 ⟨rfl, hb1⟩
    have HA1 := Lib.hid (HA.out.next hb1)
    have HB1 := Lib.hid (HB.out.trans (hb1.mono HB.out.size))
    obtain ⟨c0, c1, c2, c3, c4, c5, c6, c7, c8, c9, c10, c11⟩ := HA1.out
    clear hb1 C HA
    go_wp2_with fail
    refine (D.out _ HB1.out).mono ?_
    rintro e w2 ⟨rfl, hb2⟩
    have HB2 := Lib.hid (HB1.out.trans (hb2.mono HB1.out.size))
    clear hb2 D c0 c1 c2 c3 c4 c5 c6 c7 c8 c9 c10 c11
    go_wp2
    go_ret2
    exact ⟨rfl, HB2.out⟩
end Go.Proofs.YtdpopdlifcjdeaaDoor

/- Hold: the page's Fits and Ready; same; the closures. -/
namespace Go.Proofs.YtdpopdlifcjdeaaDoor
open Go.RowKit Go.Lib
set_option linter.unusedVariables false

set_option maxHeartbeats 1000000 in
theorem refFits_any (va : Option Addr) (v : List Int) (vn vc : Nat) (x : OpD) (da : Option Addr) (dn dc : Nat) (w : World) (hv : RowK .i64 w va v) (hvn : vn = v.length) (hvl : v.length ≤ 140737488355328) (hr : RowK .i64 w da x.1.ds) (hn : dn = x.1.ds.length) (hl : x.1.ds.length ≤ 140737488355328) :
    Calls Tryd.prog 14 #[.slice va vn vc, valO x da dn dc] w (BoolPost w (fitsB v x)) := by
  have HB := Lib.hid (box_bel w (objO x da dn dc))
  have HA := Lib.hid (OpX.new w x da dn dc)
  obtain ⟨b, hb⟩ : ∃ b, Hv.vecB v = b := ⟨_, rfl⟩
  have C := Lib.hid (Hv.refVector_is va v vn vc _ (hv.alloc (objO x da dn dc)) hvn hvl hb)
  have D := Lib.hid (refOp_any x.1.t x.1.r x.2 da x.1.ds dn dc x.1.k x.1.nt x.1.nr x.1.pt x.1.pr x.1.s x.1.p x.1.v _ (hr.alloc (objO x da dn dc)) hn hl)
  cases b
  · rw [show fitsB v x = false by simp [fitsB, hb]]
    clear hb hv hvn hvl hr hn hl D
    go_enter Tryd.func14, Tryd.ntmps14
    go_wp2_with fail
    refine (C.out).mono ?_
    rintro e w1 ⟨rfl, rfl⟩
    go_wp2
    go_ret
    exact ⟨rfl, HB.out⟩
  · obtain ⟨c, hc⟩ : ∃ c, opB x.1.t x.1.r x.2 x.1.ds x.1.k x.1.nt x.1.nr x.1.pt x.1.pr x.1.s x.1.p x.1.v = c := ⟨_, rfl⟩
    rw [hc] at D
    cases c
    · rw [show fitsB v x = false by simp [fitsB, OpD.ok, OpR.ok, hc]]
      clear hb hv hvn hvl hr hn hl hc
      go_enter Tryd.func14, Tryd.ntmps14
      go_wp2_with fail
      refine (C.out).mono ?_
      rintro e w1 ⟨rfl, rfl⟩
      obtain ⟨c0, c1, c2, c3, c4, c5, c6, c7, c8, c9, c10, c11⟩ := HA.out
      go_wp2_with fail
      refine (D.out).mono ?_
      rintro e w2 ⟨rfl, hb2⟩
      have HB2 := Lib.hid (HB.out.trans (hb2.mono HB.out.size))
      clear hb2 D c0 c1 c2 c3 c4 c5 c6 c7 c8 c9 c10 c11
      go_wp2
      go_ret
      exact ⟨rfl, HB2.out⟩
    · obtain ⟨bb, hbb⟩ : ∃ bb, ((dn : Int) == (vn : Int)) = bb := ⟨_, rfl⟩
      rw [show fitsB v x = bb by
        rw [← hbb, hn, hvn]
        simp only [fitsB, OpD.ok, OpR.ok, hc, hb, Bool.true_and]
        rw [Bool.eq_iff_iff, decide_eq_true_eq, beq_iff_eq]
        omega]
      clear hb hv hvn hvl hr hn hl hc
      go_enter Tryd.func14, Tryd.ntmps14
      go_wp2_with fail
      refine (C.out).mono ?_
      rintro e w1 ⟨rfl, rfl⟩
      obtain ⟨c0, c1, c2, c3, c4, c5, c6, c7, c8, c9, c10, c11⟩ := HA.out
      go_wp2_with fail
      refine (D.out).mono ?_
      rintro e w2 ⟨rfl, hb2⟩
      have HB2 := Lib.hid (HB.out.trans (hb2.mono HB.out.size))
      have HA2 := Lib.hid (HA.out.next hb2)
      clear hb2 D c0 c1 c2 c3 c4 c5 c6 c7 c8 c9 c10 c11
      obtain ⟨c0, c1, c2, c3, c4, c5, c6, c7, c8, c9, c10, c11⟩ := HA2.out
      go_wp2
      go_ret
      exact ⟨rfl, HB2.out⟩

set_option maxHeartbeats 1000000 in
theorem refReady_any (va : Option Addr) (v : List Int) (vn vc : Nat) (x : OpD) (da : Option Addr) (dn dc : Nat) (w : World) (hv : RowK .i64 w va v) (hvn : vn = v.length) (hr : RowK .i64 w da x.1.ds) (hn : dn = x.1.ds.length) (hf : fitsB v x = true) :
    Calls Tryd.prog 16 #[.slice va vn vc, valO x da dn dc] w (BoolPost w (readyB v x)) := by
  have mixed : Tryd.prog.follows .mixedOrders = true := by kernel_rfl
  have F := ok_facts (fits_iff.1 hf).2.1
  have hvl := Hv.vecB_len (fits_iff.1 hf).1
  have hlt := fits_lt hf
  have HB := Lib.hid (box_bel w (objO x da dn dc))
  have HA := Lib.hid (OpX.new w x da dn dc)
  obtain ⟨rn, hrn⟩ : ∃ rn : Nat, x.1.r = rn := ⟨x.1.r.toNat, by have := F.r0; omega⟩
  have hrl : rn < vn := by omega
  have hrl2 : (rn : Int) < (vn : Int) := by omega
  have hcell := hv rn (by omega)
  obtain ⟨vb, vo, rfl, hc⟩ := hcell
  have C := Lib.hid (fun k => Hv.refCovers_any (some ⟨vb, vo, none⟩) da v x.1.ds vn vc dn dc ((w.alloc (objO x da dn dc)).drewN k) ((hv.alloc (objO x da dn dc)).drewN k) ((hr.alloc (objO x da dn dc)).drewN k) hvn hn (fits_pair hf))
  have hvb := World.block_lt_of_cell? _ _ hc
  have HZ : Hid (atV v x = v.getD rn 0) := by show _ = _; unfold atV; rw [hrn]; rfl
  have hq0 := F.q0
  have hq1 := F.q1
  have hwx : wrap64 (x.2 - 1) = x.2 - 1 := IntWalk.wrap64_in _ (by omega)
  have hw2 : IntKind.i64.wrap (x.2 - 1) = x.2 - 1 := IntWalk.i64_in _ (by omega)
  have cv : (w.alloc (objO x da dn dc)).cell? ⟨vb, vo + rn, none⟩ = some (.int .i64 (v.getD rn 0)) := (HB.out.cell (p := ⟨vb, vo + rn, none⟩) hvb).trans hc
  obtain ⟨cb, hcb⟩ : ∃ cb, Hv.coversB v x.1.ds = cb := ⟨_, rfl⟩
  obtain ⟨bb, hbb⟩ : ∃ bb, (v.getD rn 0 == x.2 - 1) = bb := ⟨_, rfl⟩
  have HR : Hid (readyB v x = (bb && cb)) := by show _ = _; unfold readyB; rw [HZ.out, hcb, hbb]
  rw [hcb] at C
  rw [HR.out]
  have hc1 := HA.out.c1
  rw [hrn] at hc1
  clear hcb HR HZ hvl hlt hc hf hv hr F hq0 hq1 hn hvn hrn
  generalize v.getD rn 0 = z at *
  have CQ : Hid (∀ k, Calls Tryd.prog 29 #[.slice (some ⟨vb, vo, none⟩) vn vc, .slice da dn dc] ((w.alloc (objO x da dn dc)).drewN k) fun e w' => e = .returned (.bool cb) ∧ ∃ m, w' = (w.alloc (objO x da dn dc)).drewN m) := fun k => (C.out k).mono fun _ _ ⟨he, m, hm⟩ => ⟨he, k + m, by rw [hm, World.drewN_drewN]⟩
  clear C
  obtain ⟨c0, _, c2, c3, c4, c5, c6, c7, c8, c9, c10, c11⟩ := HA.out
  clear HA
  go_enter Tryd.func16, Tryd.ntmps16
  go_wp2_with fail
  generalize w.alloc (objO x da dn dc) = W at *
  cases bb
  · go_quiet ((go_at_call 29; exact CQ.out _))
    go_wp2
    go_ret
    exact ⟨rfl, below_drewN HB.out _⟩
  · go_quiet ((go_at_call 29; exact CQ.out _))
    go_wp2
    go_ret
    exact ⟨by rw [Bool.true_and]; rfl, below_drewN HB.out _⟩
end Go.Proofs.YtdpopdlifcjdeaaDoor

/- Hold: same; the closures; the first one that ..; known. -/
namespace Go.Proofs.YtdpopdlifcjdeaaDoor
open Go.RowKit Go.Lib
set_option linter.unusedVariables false

set_option maxHeartbeats 1000000 in
theorem refSame_any (x : OpD) (da : Option Addr) (dn dc : Nat) (y : OpD) (da' : Option Addr) (dn' dc' : Nat) (w : World) :
    Calls Tryd.prog 37 #[valO x da dn dc, valO y da' dn' dc'] w (BoolPost w (sameB x y)) := by
  have HB := Lib.hid (St.below2 w (objO x da dn dc) (objO y da' dn' dc'))
  obtain ⟨b1, h1⟩ : ∃ b, (x.1.r == y.1.r) = b := ⟨_, rfl⟩
  obtain ⟨b2, h2⟩ : ∃ b, (x.2 == y.2) = b := ⟨_, rfl⟩
  rw [show sameB x y = (b1 && b2) by rw [← h1, ← h2]; rfl]
  cases b1
  · go_enter Tryd.func37, Tryd.ntmps37
    go_wp2
    go_ret
    exact ⟨rfl, HB.out⟩
  · go_enter Tryd.func37, Tryd.ntmps37
    go_wp2
    go_ret
    exact ⟨by rw [Bool.true_and]; rfl, HB.out⟩

set_option maxHeartbeats 1000000 in
theorem known1_any (x : OpD) (da : Option Addr) (dn dc : Nat) (g : Nat) (y : OpD) (da' : Option Addr) (dn' dc' : Nat) (w : World) (hy : OpX w g 0 y da' dn' dc') :
    Calls Tryd.prog 55 #[valO x da dn dc, .pointer (some ⟨g, 0, none⟩)] w (BoolPost w (sameB x y)) := by
  have HB := Lib.hid (box_bel w (objO x da dn dc))
  obtain ⟨b1, h1⟩ : ∃ b, (x.1.r == y.1.r) = b := ⟨_, rfl⟩
  obtain ⟨b2, h2⟩ : ∃ b, (x.2 == y.2) = b := ⟨_, rfl⟩
  rw [show sameB x y = (b1 && b2) by rw [← h1, ← h2]; rfl]
  obtain ⟨c0, c1, c2, c3, c4, c5, c6, c7, c8, c9, c10, c11⟩ := hy.next (box_bel w (objO x da dn dc))
  have hne : g ≠ w.heap.size := Nat.ne_of_lt hy.lt
  clear hy
  cases b1
  · go_enter Tryd.func55, Tryd.ntmps55
    go_wp2
    go_ret
    exact ⟨rfl, HB.out⟩
  · go_enter Tryd.func55, Tryd.ntmps55
    go_wp2
    go_ret
    exact ⟨by rw [Bool.true_and]; rfl, HB.out⟩

set_option maxHeartbeats 1000000 in
theorem free1_any (va : Option Addr) (v : List Int) (vn vc : Nat) (x : OpD) (da : Option Addr) (dn dc : Nat) (g : Nat) (w : World) (ht : Pr.Tab w) (hg : w.cell? ⟨g, 0, none⟩ = some (.slice va vn vc)) (hv : RowK .i64 w va v) (hvn : vn = v.length) (hr : RowK .i64 w da x.1.ds) (hn : dn = x.1.ds.length) (hf : fitsB v x = true) :
    Calls Tryd.prog 64 #[valO x da dn dc, .pointer (some ⟨g, 0, none⟩)] w (BoolPost w (readyB v x)) := by
  have HB := Lib.hid (box_bel w (objO x da dn dc))
  have C := Lib.hid (ready_yes va v vn vc x da dn dc _ (ht.alloc (objO x da dn dc)) (hv.alloc (objO x da dn dc)) hvn (hr.alloc (objO x da dn dc)) hn hf)
  have hlt := World.block_lt_of_cell? _ _ hg
  have hg2 := (HB.out.cell (p := ⟨g, 0, none⟩) hlt).trans hg
  have hne : g ≠ w.heap.size := Nat.ne_of_lt hlt
  obtain ⟨c0, c1, c2, c3, c4, c5, c6, c7, c8, c9, c10, c11⟩ := OpX.new w x da dn dc
  generalize readyB v x = rb at *
  clear ht hg hv hvn hr hn hf hlt
  go_enter Tryd.func64, Tryd.ntmps64
  go_wp2_with fail
  refine (C.out).mono ?_
  rintro e w1 ⟨rfl, hb1⟩
  have HB1 := Lib.hid (HB.out.trans (hb1.mono HB.out.size))
  clear hb1 C c0 c1 c2 c3 c4 c5 c6 c7 c8 c9 c10 c11
  go_wp2
  go_ret
  exact ⟨rfl, HB1.out⟩

/-- where the first one is that meets p -/
def IdxIs (hs : List OpD) (p : OpD → Bool) (z : Int) : Prop := (z = -1 ∧ hs.find? p = none) ∨ ∃ (k : Nat) (x : OpD), z = k ∧ hs[k]? = some x ∧ hs.find? p = some x
def IdxPost (w : World) (hs : List OpD) (p : OpD → Bool) (e : Ending) (w' : World) : Prop := ∃ z, e = .returned (.int .i64 z) ∧ IdxIs hs p z ∧ Below w.heap.size w w'
theorem drop_at {hs : List OpD} {k : Nat} {x : OpD} (h : hs[k]? = some x) : hs.drop k = x :: hs.drop (k + 1) := by
  obtain ⟨hk, rfl⟩ := List.getElem?_eq_some_iff.1 h
  exact List.drop_eq_getElem_cons hk

set_option maxHeartbeats 2000000 in
theorem idx_any (g : Nat) (lb : Value) (p : OpD → Bool) (eg : ∀ args w, (callFunc g args).run Tryd.prog w = .ok (.enter g args) w) (ha : Option Addr) (hs : List OpD) (n c : Nat) (w : World) (hr : RowO w ha hs) (hn : n = hs.length) (hl : hs.length * 120 ≤ 140737488355328)
    (hp : ∀ W x da dc, x ∈ hs → Below w.heap.size w W → RowK .i64 W da x.1.ds → x.1.ds.length ≤ 17592186044416 → Calls Tryd.prog g #[valO x da x.1.ds.length dc, lb] W (BoolPost W (p x))) :
    Calls Tryd.prog 63 #[.slice ha n c, .func (.func g) #[] #[lb]] w (IdxPost w hs p) := by
  have HA := Lib.hid hr
  have HN := Lib.hid hn
  have HP := Lib.hid hp
  have hnl : n * 120 ≤ 140737488355328 := by omega
  clear hr hn hl hp
  go_enter Tryd.func63, Tryd.ntmps63
  go_wp2
  go_loopg [5, 8] n (fun gg _ s8 wr => ∃ k : Nat, s8 = .int .i64 k ∧ k ≤ n ∧ n - k ≤ gg ∧ Hid (hs.find? p = (hs.drop k).find? p) ∧ Hid (Below w.heap.size w wr))
  case atStart => exact ⟨0, rfl, Nat.zero_le _, by omega, by show _ = _; rw [List.drop_zero], Below.refl _ _⟩
  case round =>
    obtain ⟨k, rfl, hk, hg, HF, HI⟩ := hrel
    by_cases hin : k < n
    · have hinz : (k : Int) < (n : Int) := by omega
      obtain ⟨x, hx⟩ : ∃ x, hs[k]? = some x := ⟨_, List.getElem?_eq_getElem (by rw [← HN.out]; exact hin)⟩
      obtain ⟨b, off, rfl, da, dc, hat, hrow, hdm⟩ := (HA.out.below HI.out) k x hx
      have hF := HF.out
      rw [drop_at hx, List.find?_cons] at hF
      have HC := Lib.hid (HP.out wr x da dc (List.mem_of_getElem? hx) HI.out hrow hdm)
      have HX := Lib.hid hx
      obtain ⟨c0, c1, c2, c3, c4, c5, c6, c7, c8, c9, c10, c11⟩ := hat
      generalize hdn : x.1.ds.length = dn at c3 HC
      cases hpx : p x
      · rw [hpx] at hF HC
        have HF2 := Lib.hid hF
        clear hx hrow hdm hF hpx hdn
        go_wp2_with (go_at_fn g; refine (HC.out).mono ?_; rintro e w1 ⟨rfl, hb1⟩)
        have HB1 := Lib.hid (HI.out.trans (hb1.mono HI.out.size))
        clear hb1 c0 c1 c2 c3 c4 c5 c6 c7 c8 c9 c10 c11
        go_roundg (n - (k + 1))
        case measure => omega
        case rel => exact ⟨k + 1, by go_num, by omega, by omega, HF2.out, HB1.out⟩
      · rw [hpx] at hF HC
        have HF2 := Lib.hid hF
        clear hx hrow hdm hF hpx hdn
        go_wp2_with (go_at_fn g; refine (HC.out).mono ?_; rintro e w1 ⟨rfl, hb1⟩)
        have HB1 := Lib.hid (HI.out.trans (hb1.mono HI.out.size))
        clear hb1 c0 c1 c2 c3 c4 c5 c6 c7 c8 c9 c10 c11
        go_ret
        exact ⟨_, rfl, .inr ⟨k, x, rfl, HX.out, HF2.out⟩, HB1.out⟩
    · have hinz : ¬ (k : Int) < (n : Int) := by omega
      have HF2 : Hid (hs.find? p = none) := by
        have h := HF.out
        rw [List.drop_eq_nil_of_le (by have := HN.out; omega)] at h
        exact h
      go_wp2
      go_ret
      exact ⟨_, rfl, .inl ⟨rfl, HF2.out⟩, HI.out⟩

theorem any_find (hs : List OpD) (p : OpD → Bool) (z : Int) (h : IdxIs hs p z) : hs.any p = decide (0 ≤ z) := by
  rcases h with ⟨rfl, h⟩ | ⟨k, x, rfl, -, h⟩
  · rw [List.find?_eq_none] at h
    rw [show decide ((0 : Int) ≤ -1) = false by decide, List.any_eq_false]
    exact h
  · rw [show decide ((0 : Int) ≤ (k : Int)) = true from decide_eq_true (by omega), List.any_eq_true]
    exact ⟨x, List.mem_of_find?_eq_some h, List.find?_some h⟩
set_option maxHeartbeats 1000000 in
theorem contains_any (g : Nat) (lb : Value) (p : OpD → Bool) (eg : ∀ args w, (callFunc g args).run Tryd.prog w = .ok (.enter g args) w) (ha : Option Addr) (hs : List OpD) (n c : Nat) (w : World) (hr : RowO w ha hs) (hn : n = hs.length) (hl : hs.length * 120 ≤ 140737488355328)
    (hp : ∀ W x da dc, x ∈ hs → Below w.heap.size w W → RowK .i64 W da x.1.ds → x.1.ds.length ≤ 17592186044416 → Calls Tryd.prog g #[valO x da x.1.ds.length dc, lb] W (BoolPost W (p x))) :
    Calls Tryd.prog 54 #[.slice ha n c, .func (.func g) #[] #[lb]] w (BoolPost w (hs.any p)) := by
  have C := Lib.hid (idx_any g lb p eg ha hs n c w hr hn hl hp)
  clear hr hn hl hp
  go_enter Tryd.func54, Tryd.ntmps54
  go_wp2_with fail
  refine (C.out).mono ?_
  rintro e w1 ⟨z, rfl, hz, hb1⟩
  have HZ := Lib.hid hz
  have HB1 := Lib.hid hb1
  clear hb1 hz C
  go_wp2
  go_ret
  exact ⟨by rw [any_find hs p z HZ.out]; rfl, HB1.out⟩

end Go.Proofs.YtdpopdlifcjdeaaDoor

/- Hold: known. -/
namespace Go.Proofs.YtdpopdlifcjdeaaDoor
open Go.RowKit Go.Lib
set_option linter.unusedVariables false

theorem eg55 : ∀ args w, (callFunc 55 args).run Tryd.prog w = .ok (.enter 55 args) w := enters_of Tryd.func55 (by kernel_rfl) rfl
theorem eg64 : ∀ args w, (callFunc 64 args).run Tryd.prog w = .ok (.enter 64 args) w := enters_of Tryd.func64 (by kernel_rfl) rfl
def knownB (v : List Int) (hs : List OpD) (o : OpD) : Bool := decide (o.2 ≤ atV v o) || hs.any (sameB · o)
set_option maxHeartbeats 2000000 in
theorem known_any (va : Option Addr) (v : List Int) (vn vc : Nat) (ha : Option Addr) (hs : List OpD) (n c : Nat) (x : OpD) (da : Option Addr) (dn dc : Nat) (w : World) (hv : RowK .i64 w va v) (hvn : vn = v.length) (hr : RowO w ha hs) (hn : n = hs.length) (hl : hs.length * 120 ≤ 140737488355328) (hf : fitsB v x = true) :
    Calls Tryd.prog 33 #[.slice va vn vc, .slice ha n c, valO x da dn dc] w (BoolPost w (knownB v hs x)) := by
  have mixed : Tryd.prog.follows .mixedOrders = true := by kernel_rfl
  have F := ok_facts (fits_iff.1 hf).2.1
  have hlt := fits_lt hf
  have HB := Lib.hid (box_bel w (objO x da dn dc))
  have HA := Lib.hid (OpX.new w x da dn dc)
  obtain ⟨rn, hrn⟩ : ∃ rn : Nat, x.1.r = rn := ⟨x.1.r.toNat, by have := F.r0; omega⟩
  have hrl : rn < vn := by omega
  have hrl2 : (rn : Int) < (vn : Int) := by omega
  have hcell := hv rn (by omega)
  obtain ⟨vb, vo, rfl, hc⟩ := hcell
  have hvb := World.block_lt_of_cell? _ _ hc
  have HZ : Hid (atV v x = v.getD rn 0) := by show _ = _; unfold atV; rw [hrn]; rfl
  have cv : (w.alloc (objO x da dn dc)).cell? ⟨vb, vo + rn, none⟩ = some (.int .i64 (v.getD rn 0)) := (HB.out.cell (p := ⟨vb, vo + rn, none⟩) hvb).trans hc
  have C := Lib.hid (fun W (hb : Below w.heap.size w W) (hx : OpX W w.heap.size 0 x da dn dc) => contains_any 55 (.pointer (some ⟨w.heap.size, 0, none⟩)) (sameB · x) eg55 ha hs n c W (hr.below hb) hn hl (fun W2 y da2 dc2 _ hb2 _ _ => known1_any y da2 y.1.ds.length dc2 w.heap.size x da dn dc W2 (hx.next hb2)))
  obtain ⟨d, hd⟩ : ∃ d, decide (x.2 ≤ v.getD rn 0) = d := ⟨_, rfl⟩
  obtain ⟨ab, hab⟩ : ∃ ab, hs.any (sameB · x) = ab := ⟨_, rfl⟩
  have HR : Hid (knownB v hs x = (d || ab)) := by show _ = _; unfold knownB; rw [HZ.out, hd, hab]
  rw [hab] at C
  rw [HR.out]
  have hc1 := HA.out.c1
  rw [hrn] at hc1
  clear hab HR HZ hlt hc hf hv hr F hn hvn hrn hl
  generalize v.getD rn 0 = z at *
  obtain ⟨c0, _, c2, c3, c4, c5, c6, c7, c8, c9, c10, c11⟩ := HA.out
  cases d
  · have x1 : St.RegrownTo (w.alloc (objO x da dn dc)) 54 #[.slice ha n c, .func (.func 55) #[] #[.pointer (some ⟨w.heap.size, 0, none⟩)]] (.bool ab) := regrown_at fun W' hb => C.out W' (HB.out.trans (hb.mono HB.out.size)) (HA.out.next hb)
    obtain ⟨g0, g1, g2, g3, g4, g5, g6, g7, g8, g9, g10, g11⟩ := HA.out.regrown
    have gv := cell_regrown cv
    have g1' := cell_regrown hc1
    clear c0 c2 c3 c4 c5 c6 c7 c8 c9 c10 c11 g1 hc1 cv C HA
    go_enter Tryd.func33, Tryd.ntmps33
    go_wp2_with fail
    refine wp_region_quiet_below (by assumption) (by kernel_rfl) ?_
    generalize w.alloc (objO x da dn dc) = W at *
    generalize hg : w.heap.size = g at x1 g0 g1' g2 g3 g4 g5 g6 g7 g8 g9 g10 g11 ⊢
    clear hg
    repeat (go_big_quiet_step ((first | (go_at_call 54; with_reducible exact x1 _ _))))
    refine wpQuiet_nil ?_
    intro _ hw'
    obtain ⟨⟨dq, osq⟩, hw''⟩ := hw'
    subst hw''
    go_wp2
    go_ret
    exact ⟨by rw [Bool.false_or]; rfl, HB.out.trans ((below_regrown _ dq osq).mono HB.out.size)⟩
  · go_enter Tryd.func33, Tryd.ntmps33
    go_wp2_with fail
    go_quiet (fail)
    go_wp2
    go_ret
    exact ⟨rfl, below_drewN HB.out _⟩
end Go.Proofs.YtdpopdlifcjdeaaDoor

/- Hold: Check. -/
namespace Go.Proofs.YtdpopdlifcjdeaaDoor
open Go.RowKit Go.Lib
set_option linter.unusedVariables false

def cmpO (x y : OpD) : Int := St.cmpS x.1.t x.1.r y.1.t y.1.r
/-- does the one ahead stand ahead? -/
def prevB (hs : List OpD) (x : OpD) : Nat → Bool
  | 0 => true
  | j + 1 => match hs[j]? with | some y => decide (cmpO y x < 0) | none => true
theorem prevB_succ {hs : List OpD} {x y : OpD} {k : Nat} (h : hs[k]? = some y) : prevB hs x (k + 1) = decide (cmpO y x < 0) := by simp [prevB, h]
/-- does the one at k stand rightly? -/
def heldAt (v : List Int) (hs : List OpD) (k : Nat) : Bool :=
  match hs[k]? with
  | none => true
  | some x => fitsB v x && !readyB v x && !knownB v (hs.take k) x && prevB hs x k
def heldB (v : List Int) (hs : List OpD) : Bool := Hv.vecB v && decide (hs.length ≤ 16) && (List.range hs.length).all (heldAt v hs)
theorem held_iff {v : List Int} {hs : List OpD} : heldB v hs = true ↔ Hv.vecB v = true ∧ hs.length ≤ 16 ∧ ∀ k, k < hs.length → heldAt v hs k = true := by
  unfold heldB
  rw [Bool.and_eq_true, Bool.and_eq_true, decide_eq_true_eq, and_assoc, List.all_eq_true]
  simp
theorem held_no {v : List Int} {hs : List OpD} {k : Nat} (hk : k < hs.length) (h : heldAt v hs k = false) : heldB v hs = false := by
  cases hb : heldB v hs
  · rfl
  · rw [(held_iff.1 hb).2.2 k hk] at h
    cases h
theorem held_fits {v : List Int} {hs : List OpD} (h : heldB v hs = true) {x : OpD} (hx : x ∈ hs) : fitsB v x = true := by
  obtain ⟨k, hk⟩ := List.getElem?_of_mem hx
  have h1 := (held_iff.1 h).2.2 k (List.getElem?_eq_some_iff.1 hk).1
  unfold heldAt at h1
  rw [hk] at h1
  simp only [Bool.and_eq_true] at h1
  exact h1.1.1.1
theorem RowO.first {w : World} {a : Option Addr} {os : List OpD} (h : RowO w a os) (k : Nat) : RowO w a (os.take k) := fun i x hi => by
  rw [List.getElem?_take] at hi
  split at hi
  · exact h i x hi
  · cases hi
theorem size32 (w : World) : (Go.sizeOf 32).run Tryd.prog w = .ok 12 w := by
  obtain ⟨i0, hi, hz0, hz1, hz2⟩ := info_parts Tryd.info32
  simp [Go.sizeOf, typeInfo, hi, hz1]
/-- where a part of a row of operations begins -/
def partO (a : Option Addr) (l cap : Nat) : Option Addr := if cap = l then a else a.map (·.add (l * 12))
theorem RowO.rest {w : World} {a : Option Addr} {os : List OpD} (h : RowO w a os) (l cap : Nat) (hn : os.length ≤ cap) : RowO w (partO a l cap) (os.drop l) := fun i x hi => by
  rw [List.getElem?_drop] at hi
  have hlt := (List.getElem?_eq_some_iff.1 hi).1
  obtain ⟨b, off, rfl, h1⟩ := h _ x hi
  refine ⟨b, off + l * 12, ?_, ?_⟩
  · unfold partO
    rw [if_neg (by omega), Option.map_some, addr_add]
  · rw [show off + l * 12 + i * 12 = off + (l + i) * 12 by omega]
    exact h1
theorem sliceO_l (w : World) (a : Option Addr) (len cap l : Nat) (zl : Int) (el : zl = (l : Int)) (h1 : l ≤ len) :
    (Instr.slice 23 (.slice a len cap) (some (.int .i64 zl)) none none).run Tryd.prog w = .ok (.slice (partO a l cap) (len - l) (cap - l)) w := by
  subst el
  have ht' : Tryd.prog.underlying 23 = some (.slice (Tryd.prog.elem 23)) := by simp [Program.elem, Tryd.underlying23]
  have he : Tryd.prog.elem 23 = 32 := by simp [Program.elem, Tryd.underlying23]
  rw [run_slice_l w 23 _ _ _ ht' .i64 _ (by omega) (by omega), he, size32]
  simp [Result.andThen, sliced, partO]
theorem sliceO_h (w : World) (a : Option Addr) (len cap h : Nat) (zh : Int) (eh : zh = (h : Int)) (h1 : h ≤ cap) :
    (Instr.slice 23 (.slice a len cap) none (some (.int .i64 zh)) none).run Tryd.prog w = .ok (.slice a h cap) w := by
  subst eh
  have ht' : Tryd.prog.underlying 23 = some (.slice (Tryd.prog.elem 23)) := by simp [Program.elem, Tryd.underlying23]
  have he : Tryd.prog.elem 23 = 32 := by simp [Program.elem, Tryd.underlying23]
  rw [run_slice_h w 23 _ _ _ ht' .i64 _ (by omega) (by omega), he, size32]
  simp [Result.andThen, sliced]
  intro _
  cases a with
  | none => rfl
  | some p => rw [Option.map_some, Addr.add_zero']
theorem heldAt_is {v : List Int} {hs : List OpD} {k : Nat} {x : OpD} (h : hs[k]? = some x) : heldAt v hs k = (fitsB v x && !readyB v x && !knownB v (hs.take k) x && prevB hs x k) := by unfold heldAt; rw [h]
theorem heldAt_fits {v : List Int} {hs : List OpD} {k : Nat} {x : OpD} (h : hs[k]? = some x) (hf : fitsB v x = false) : heldAt v hs k = false := by rw [heldAt_is h]; simp [hf]
theorem heldAt_ready {v : List Int} {hs : List OpD} {k : Nat} {x : OpD} (h : hs[k]? = some x) (hf : readyB v x = true) : heldAt v hs k = false := by rw [heldAt_is h]; simp [hf]
theorem heldAt_known {v : List Int} {hs : List OpD} {k : Nat} {x : OpD} (h : hs[k]? = some x) (hf : knownB v (hs.take k) x = true) : heldAt v hs k = false := by rw [heldAt_is h]; simp [hf]
theorem heldAt_less {v : List Int} {hs : List OpD} {k : Nat} {x y : OpD} (h : hs[k + 1]? = some x) (h' : hs[k]? = some y) (hf : decide (cmpO y x < 0) = false) : heldAt v hs (k + 1) = false := by rw [heldAt_is h, prevB_succ h', hf, Bool.and_false]
theorem heldAt_yes0 {v : List Int} {hs : List OpD} {x : OpD} (h : hs[0]? = some x) (h1 : fitsB v x = true) (h2 : readyB v x = false) (h3 : knownB v (hs.take 0) x = false) : heldAt v hs 0 = true := by rw [heldAt_is h, h1, h2, h3]; rfl
theorem heldAt_yes {v : List Int} {hs : List OpD} {k : Nat} {x y : OpD} (h : hs[k + 1]? = some x) (h' : hs[k]? = some y) (h1 : fitsB v x = true) (h2 : readyB v x = false) (h3 : knownB v (hs.take (k + 1)) x = false) (hf : decide (cmpO y x < 0) = true) : heldAt v hs (k + 1) = true := by rw [heldAt_is h, prevB_succ h', h1, h2, h3, hf]; rfl
set_option maxHeartbeats 4000000 in
set_option maxRecDepth 100000 in
theorem hcheck_any (va : Option Addr) (v : List Int) (vn vc : Nat) (ha : Option Addr) (hs : List OpD) (n c : Nat) (w : World) (ht : Pr.Tab w) (hv : RowK .i64 w va v) (hvn : vn = v.length) (hvl : v.length ≤ 140737488355328) (hr : RowO w ha hs) (hn : n = hs.length) (hl : hs.length * 120 ≤ 140737488355328) (hc : n ≤ c) :
    Calls Tryd.prog 12 #[.slice va vn vc, .slice ha n c] w (St.IntBel w (errC (heldB v hs))) := by
  have mixed : Tryd.prog.follows .mixedOrders = true := by kernel_rfl
  have HA := Lib.hid hr
  have HN := Lib.hid hn
  have HV := Lib.hid hv
  have HVN := Lib.hid hvn
  have HT := Lib.hid ht
  have HVL := Lib.hid hvl
  have HL := Lib.hid hl
  have hnl : n * 120 ≤ 140737488355328 := by omega
  obtain ⟨fin, hfin⟩ : ∃ fin, errC (heldB v hs) = fin := ⟨_, rfl⟩
  rw [hfin]
  have HFIN := Lib.hid hfin
  clear hfin
  cases hvec : Hv.vecB v
  · have C := Lib.hid (Hv.check_no va v vn vc w hv hvn hvl hvec)
    have HF : Hid (fin = 1) := by show _ = _; rw [← HFIN.out, show heldB v hs = false by simp [heldB, hvec]]; rfl
    clear hvec hr hn hv hvn ht hvl hl
    go_enter Tryd.func12, Tryd.ntmps12
    go_wp2_with fail
    refine (C.out).mono ?_
    rintro e w1 ⟨rfl, rfl⟩
    go_wp2
    go_ret
    exact ⟨by rw [HF.out]; rfl, Below.refl _ _⟩
  · have C := Lib.hid (Hv.check_yes va v vn vc w hv hvn hvl hvec)
    have HVEC := Lib.hid hvec
    by_cases h16 : n ≤ 16
    · have h16z : ¬ (16 : Int) < (n : Int) := by omega
      clear hvec hr hn hv hvn ht hvl hl
      go_enter Tryd.func12, Tryd.ntmps12
      go_wp2_with fail
      refine (C.out).mono ?_
      rintro e w1 ⟨rfl, rfl⟩
      go_wp2
      go_loopg [5, 6, 7, 8, 19] n (fun gg _ _ _ _ s19 wr => ∃ k : Nat, s19 = .int .i64 k ∧ k ≤ n ∧ n - k ≤ gg ∧ Hid (∀ j, j < k → heldAt v hs j = true) ∧ Hid (Below w.heap.size w wr))
      case atStart => exact ⟨0, rfl, Nat.zero_le _, by omega, fun j hj => absurd hj (Nat.not_lt_zero _), Below.refl _ _⟩
      case round =>
        obtain ⟨k, rfl, hk, hg, HF, HI⟩ := hrel
        by_cases hin : k < n
        · have hinz : (k : Int) < (n : Int) := by omega
          obtain ⟨x, hx⟩ : ∃ x, hs[k]? = some x := ⟨_, List.getElem?_eq_getElem (by rw [← HN.out]; exact hin)⟩
          obtain ⟨b, off, rfl, da, dc, hat, hrow, hdm⟩ := (HA.out.below HI.out) k x hx
          have HX := Lib.hid hx
          have HBX := Lib.hid (box_bel wr (objO x da x.1.ds.length dc))
          have HBX2 := Lib.hid (HI.out.trans (HBX.out.mono HI.out.size))
          have HAX := Lib.hid (OpX.new wr x da x.1.ds.length dc)
          have HRW := Lib.hid hrow
          have HDM := Lib.hid hdm
          have HAT := Lib.hid hat
          clear hx
          obtain ⟨c0, c1, c2, c3, c4, c5, c6, c7, c8, c9, c10, c11⟩ := hat
          cases hf : fitsB v x
          · have D := Lib.hid (ready_no va v vn vc x da x.1.ds.length dc _ (HT.out.below HBX2.out HT.out.lt) (HV.out.below HBX2.out (Nat.le_refl _)) HVN.out HVL.out (HRW.out.alloc _) rfl (by have := HDM.out; omega) hf)
            have HR : Hid (fin = 1) := by show _ = _; rw [← HFIN.out, held_no (by rw [← HN.out]; exact hin) (heldAt_fits HX.out hf)]; rfl
            clear hf hrow hdm
            generalize x.1.ds.length = dn at *
            go_wp2_with fail
            refine (D.out).mono ?_
            rintro e w1 ⟨rfl, hb1⟩
            have HB1 := Lib.hid (HBX2.out.trans (hb1.mono HBX2.out.size))
            have HA1 := Lib.hid (HAX.out.next hb1)
            clear hb1 D c0 c1 c2 c3 c4 c5 c6 c7 c8 c9 c10 c11
            obtain ⟨c0, c1, c2, c3, c4, c5, c6, c7, c8, c9, c10, c11⟩ := HA1.out
            go_wp2_with fail
            go_quiet (fail)
            go_wp2
            go_ret
            exact ⟨by rw [HR.out]; rfl, below_drewN HB1.out _⟩
          · have D := Lib.hid (ready_yes va v vn vc x da x.1.ds.length dc _ (HT.out.below HBX2.out HT.out.lt) (HV.out.below HBX2.out (Nat.le_refl _)) HVN.out (HRW.out.alloc _) rfl hf)
            have HFX := Lib.hid hf
            clear hf hrow hdm
            cases hrd : readyB v x
            · rw [hrd] at D
              have HRD := Lib.hid hrd
              clear hrd
              have hsl : ∀ W, (Instr.slice 23 (.slice (some ⟨b, off, none⟩) n c) none (some (.int .i64 (k : Int))) none).run Tryd.prog W = .ok (.slice (some ⟨b, off, none⟩) k c) W := fun W => sliceO_h W _ n c k k rfl (by omega)
              have CK := Lib.hid (fun W (hb : Below w.heap.size w W) (hr : RowK .i64 W da x.1.ds) => known_any va v vn vc (some ⟨b, off, none⟩) (hs.take k) k c x da x.1.ds.length dc W (HV.out.below hb (Nat.le_refl _)) HVN.out ((HA.out.below hb).first k) (by rw [List.length_take]; have := HN.out; omega) (by rw [List.length_take]; have := HL.out; omega) HFX.out)
              obtain ⟨kb, hkb⟩ : ∃ kb, knownB v (hs.take k) x = kb := ⟨_, rfl⟩
              rw [hkb] at CK
              have HKB := Lib.hid hkb
              clear hkb
              generalize hdn : x.1.ds.length = dn at *
              have HDN := Lib.hid hdn
              clear hdn
              go_wp2_with fail
              refine (D.out).mono ?_
              rintro e w1 ⟨rfl, hb1⟩
              have HB1 := Lib.hid (HBX2.out.trans (hb1.mono HBX2.out.size))
              have HW1 := Lib.hid (HBX.out.trans (hb1.mono HBX.out.size))
              have HA1 := Lib.hid (HAX.out.next hb1)
              clear hb1 D c0 c1 c2 c3 c4 c5 c6 c7 c8 c9 c10 c11
              have x1 : St.RegrownTo w1 33 #[.slice va vn vc, .slice (some ⟨b, off, none⟩) k c, valO x da dn dc] (.bool kb) := regrown_at fun W' hb => CK.out W' (HB1.out.trans (hb.mono HB1.out.size)) (HRW.out.below (HW1.out.trans (hb.mono HW1.out.size)) (Nat.le_refl _))
              obtain ⟨g0, g1, g2, g3, g4, g5, g6, g7, g8, g9, g10, g11⟩ := HA1.out.regrown
              go_wp2_with fail
              refine wp_region_quiet_below (by assumption) (by kernel_rfl) ?_
              repeat (go_big_quiet_step ((first | (go_at_call 33; with_reducible exact x1 _ _))))
              refine wpQuiet_nil ?_
              intro _ hw'
              obtain ⟨⟨dq, osq⟩, hw''⟩ := hw'
              subst hw''
              have HB2 := Lib.hid (HB1.out.trans ((below_regrown _ dq osq).mono HB1.out.size))
              have HW2 := Lib.hid (HW1.out.trans ((below_regrown _ dq osq).mono HW1.out.size))
              have HA2 := Lib.hid (HA1.out.next (below_regrown _ dq osq))
              generalize Go.Sort.grow (redrawn w1 dq) osq = w2 at *
              clear g0 g1 g2 g3 g4 g5 g6 g7 g8 g9 g10 g11 x1 CK hsl
              cases kb
              · rcases Nat.eq_zero_or_pos k with rfl | hkp
                · have HF2 : Hid (∀ j, j < 0 + 1 → heldAt v hs j = true) := fun j hj => by
                    obtain rfl : j = 0 := by omega
                    exact heldAt_yes0 HX.out HFX.out HRD.out HKB.out
                  obtain ⟨c0, c1, c2, c3, c4, c5, c6, c7, c8, c9, c10, c11⟩ := HA2.out
                  go_wp2_with fail
                  go_quiet (fail)
                  go_wp2_with fail
                  go_roundg (n - (0 + 1))
                  case measure => omega
                  case rel => exact ⟨0 + 1, by go_num, by omega, by omega, HF2.out, below_drewN HB2.out _⟩
                · obtain ⟨k', rfl⟩ : ∃ k', k = k' + 1 := ⟨k - 1, by omega⟩
                  obtain ⟨y, hy⟩ : ∃ y, hs[k']? = some y := ⟨_, List.getElem?_eq_getElem (by have := HN.out; omega)⟩
                  obtain ⟨b', off', hbo, da', dc', hat', -, -⟩ := (HA.out.below HB2.out) k' y hy
                  obtain ⟨rfl, rfl⟩ : b' = b ∧ off' = off := by simpa using hbo.symm
                  clear hbo
                  have HY := Lib.hid hy
                  have hkz : (((k' + 1 : Nat) : Int) - 1) = (k' : Int) := by omega
                  have hkw : wrap64 ((k' + 1 : Nat) : Int) = ((k' + 1 : Nat) : Int) := IntWalk.wrap64_in _ (by omega)
                  have hkpz : (0 : Int) < ((k' + 1 : Nat) : Int) := by omega
                  generalize y.1.ds.length = dn' at hat'
                  have CL := Lib.hid (fun W => less_any y.1.t y.1.r y.2 da' dn' dc' y.1.k y.1.nt y.1.nr y.1.pt y.1.pr y.1.s y.1.p y.1.v x.1.t x.1.r x.2 da dn dc x.1.k x.1.nt x.1.nr x.1.pt x.1.pr x.1.s x.1.p x.1.v W)
                  obtain ⟨lb, hlb⟩ : ∃ lb, decide (cmpO y x < 0) = lb := ⟨_, rfl⟩
                  have HLB := Lib.hid hlb
                  unfold cmpO at hlb
                  rw [hlb] at CL
                  clear hlb hy
                  have x2 : St.RegrownTo w2 34 #[valO y da' dn' dc', valO x da dn dc] (.bool lb) := regrown_at fun W' hb => CL.out W'
                  obtain ⟨g0, g1, g2, g3, g4, g5, g6, g7, g8, g9, g10, g11⟩ := HA2.out.regrown
                  obtain ⟨f0, f1, f2, f3, f4, f5, f6, f7, f8, f9, f10, f11⟩ := hat'.regrown
                  clear hat' CL
                  go_wp2_with fail
                  refine wp_region_quiet_below (by assumption) (by kernel_rfl) ?_
                  repeat (go_big_quiet_step ((first | (go_at_call 34; with_reducible exact x2 _ _))))
                  refine wpQuiet_nil ?_
                  intro _ hw'
                  obtain ⟨⟨dq, osq⟩, hw''⟩ := hw'
                  subst hw''
                  have HB3 := Lib.hid (HB2.out.trans ((below_regrown _ dq osq).mono HB2.out.size))
                  clear g0 g1 g2 g3 g4 g5 g6 g7 g8 g9 g10 g11 f0 f1 f2 f3 f4 f5 f6 f7 f8 f9 f10 f11 x2
                  generalize Go.Sort.grow (redrawn w2 dq) osq = w3 at *
                  cases lb
                  · have HR : Hid (fin = 1) := by show _ = _; rw [← HFIN.out, held_no (by rw [← HN.out]; exact hin) (heldAt_less HX.out HY.out HLB.out)]; rfl
                    go_wp2
                    go_ret
                    exact ⟨by rw [HR.out]; rfl, HB3.out⟩
                  · have HF2 : Hid (∀ j, j < k' + 1 + 1 → heldAt v hs j = true) := fun j hj => by
                      by_cases e : j = k' + 1
                      · subst e
                        exact heldAt_yes HX.out HY.out HFX.out HRD.out HKB.out HLB.out
                      · exact HF.out j (by omega)
                    go_wp2_with fail
                    go_roundg (n - (k' + 1 + 1))
                    case measure => omega
                    case rel => exact ⟨k' + 1 + 1, by go_num, by omega, by omega, HF2.out, HB3.out⟩
              · have HR : Hid (fin = 1) := by show _ = _; rw [← HFIN.out, held_no (by rw [← HN.out]; exact hin) (heldAt_known HX.out HKB.out)]; rfl
                go_wp2
                go_ret
                exact ⟨by rw [HR.out]; rfl, HB2.out⟩
            · have HR : Hid (fin = 1) := by show _ = _; rw [← HFIN.out, held_no (by rw [← HN.out]; exact hin) (heldAt_ready HX.out hrd)]; rfl
              rw [hrd] at D
              clear hrd
              generalize x.1.ds.length = dn at *
              go_wp2_with fail
              refine (D.out).mono ?_
              rintro e w1 ⟨rfl, hb1⟩
              have HB1 := Lib.hid (HBX2.out.trans (hb1.mono HBX2.out.size))
              have HA1 := Lib.hid (HAX.out.next hb1)
              clear hb1 D c0 c1 c2 c3 c4 c5 c6 c7 c8 c9 c10 c11
              obtain ⟨c0, c1, c2, c3, c4, c5, c6, c7, c8, c9, c10, c11⟩ := HA1.out
              go_wp2_with fail
              go_quiet (fail)
              go_wp2
              go_ret
              exact ⟨by rw [HR.out]; rfl, below_drewN HB1.out _⟩
        · have hinz : ¬ (k : Int) < (n : Int) := by omega
          have HF2 : Hid (fin = 0) := by
            show _ = _
            rw [← HFIN.out, show heldB v hs = true from held_iff.2 ⟨HVEC.out, by have := HN.out; omega, fun j hj => HF.out j (by have := HN.out; omega)⟩]
            rfl
          go_wp2
          go_ret
          exact ⟨by rw [HF2.out]; rfl, HI.out⟩
    · have h16z : (16 : Int) < (n : Int) := by omega
      have HF : Hid (fin = 1) := by
        show _ = _
        rw [← HFIN.out, show heldB v hs = false by simp [heldB, hvec]; intro h; omega]
        rfl
      clear hvec hr hn hv hvn ht hvl hl
      go_enter Tryd.func12, Tryd.ntmps12
      go_wp2_with fail
      refine (C.out).mono ?_
      rintro e w1 ⟨rfl, rfl⟩
      go_wp2
      go_ret
      exact ⟨by rw [HF.out]; rfl, Below.refl _ _⟩
end Go.Proofs.YtdpopdlifcjdeaaDoor
