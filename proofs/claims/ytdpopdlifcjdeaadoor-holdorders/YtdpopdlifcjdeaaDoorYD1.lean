/- Joined: D1. -/
import Derived.Test.YtdpopdlifcjdeaaDoorYG
import Derived.Test.YtdpopdlifcjdeaaDoorZF
import Derived.Test.YtdpopdlifcjdeaaDoorZC

/- Hold: words; Ready, the page's Fits and Ready, same. -/
namespace Go.Proofs.YtdpopdlifcjdeaaDoor
open Go.RowKit Go.Lib
set_option linter.unusedVariables false

/-- an operation as a value, its Deps at a place -/
abbrev valO (x : OpD) (da : Option Addr) (dn dc : Nat) : Value := .agg #[.int .i64 x.1.t, .int .i64 x.1.r, .int .i64 x.2, .slice da dn dc, .int .i64 x.1.k, .int .i64 x.1.nt, .int .i64 x.1.nr, .int .i64 x.1.pt, .int .i64 x.1.pr, .string x.1.s, .int .i64 x.1.p, .int .i64 x.1.v]
abbrev objO (x : OpD) (da : Option Addr) (dn dc : Nat) : Obj := .cells #[.int .i64 x.1.t, .int .i64 x.1.r, .int .i64 x.2, .slice da dn dc, .int .i64 x.1.k, .int .i64 x.1.nt, .int .i64 x.1.nr, .int .i64 x.1.pt, .int .i64 x.1.pr, .string x.1.s, .int .i64 x.1.p, .int .i64 x.1.v] 32
abbrev OpX (w : World) (b o : Nat) (x : OpD) (da : Option Addr) (dn dc : Nat) : Prop := OpAt w b o x.1.t x.1.r x.2 da dn dc x.1.k x.1.nt x.1.nr x.1.pt x.1.pr x.1.s x.1.p x.1.v
theorem OpX.new (w : World) (x : OpD) (da : Option Addr) (dn dc : Nat) : OpX (w.alloc (objO x da dn dc)) w.heap.size 0 x da dn dc := OpAt.new w x.1.t x.1.r x.2 da x.1.ds dn dc x.1.k x.1.nt x.1.nr x.1.pt x.1.pr x.1.s x.1.p x.1.v
/-- the element of a vector for an operation's replica -/
def atV (v : List Int) (x : OpD) : Int := v.getD x.1.r.toNat 0
def fitsB (v : List Int) (x : OpD) : Bool := Hv.vecB v && x.ok && decide (x.1.ds.length = v.length)
def readyB (v : List Int) (x : OpD) : Bool := (atV v x == x.2 - 1) && Hv.coversB v x.1.ds
def sameB (a b : OpD) : Bool := (a.1.r == b.1.r) && (a.2 == b.2)
theorem fits_iff {v : List Int} {x : OpD} : fitsB v x = true ↔ Hv.vecB v = true ∧ x.ok = true ∧ x.1.ds.length = v.length := by
  unfold fitsB
  rw [Bool.and_eq_true, Bool.and_eq_true, decide_eq_true_eq, and_assoc]
structure OkF (x : OpD) : Prop where
  st : St.stB x.1.t x.1.r = true
  r0 : 0 ≤ x.1.r
  r1 : x.1.r < 16
  ds : Hv.vecB x.1.ds = true
  rl : x.1.r < x.1.ds.length
  q0 : 1 ≤ x.2
  q1 : x.2 ≤ 1099511627776
  qd : x.2 = x.1.ds.getD x.1.r.toNat 0 + 1
theorem ok_facts {x : OpD} (h : x.ok = true) : OkF x := by
  unfold OpD.ok OpR.ok opB cntB at h
  simp only [Bool.and_eq_true, decide_eq_true_eq] at h
  obtain ⟨⟨⟨h1, h2⟩, ⟨⟨⟨⟨h3, h4⟩, h5⟩, h6⟩, h7⟩⟩, h8⟩ := h
  exact ⟨h1, (stB_rep h1).1, (stB_rep h1).2, h3, h4, h5, h6, h7⟩
theorem fits_pair {v : List Int} {x : OpD} (h : fitsB v x = true) : Hv.pairB v x.1.ds = true := by
  obtain ⟨h1, h2, h3⟩ := fits_iff.1 h
  exact (Hv.pairB_iff _ _).2 ⟨h1, (ok_facts h2).ds, h3.symm⟩
theorem fits_lt {v : List Int} {x : OpD} (h : fitsB v x = true) : x.1.r.toNat < v.length ∧ 0 ≤ x.1.r := by
  obtain ⟨h1, h2, h3⟩ := fits_iff.1 h
  have := ok_facts h2
  have h4 := this.rl
  have h5 := this.r0
  omega
theorem fits_at {v : List Int} {x : OpD} (h : fitsB v x = true) : 0 ≤ atV v x ∧ atV v x ≤ 1099511627776 := Hv.vecB_at (fits_iff.1 h).1 (fits_lt h).1

def ReadyPost (w : World) (b : Bool) (z : Int) (e : Ending) (w' : World) : Prop := e = .returned (.tuple #[.bool b, .int .i64 z]) ∧ Below w.heap.size w w'

set_option maxHeartbeats 1000000 in
theorem ready_yes (va : Option Addr) (v : List Int) (vn vc : Nat) (x : OpD) (da : Option Addr) (dn dc : Nat) (w : World) (ht : Pr.Tab w) (hv : RowK .i64 w va v) (hvn : vn = v.length) (hr : RowK .i64 w da x.1.ds) (hn : dn = x.1.ds.length) (hf : fitsB v x = true) :
    Calls Tryd.prog 15 #[.slice va vn vc, valO x da dn dc] w (ReadyPost w (readyB v x) 0) := by
  have mixed : Tryd.prog.follows .mixedOrders = true := by kernel_rfl
  have F := ok_facts (fits_iff.1 hf).2.1
  have hvl := Hv.vecB_len (fits_iff.1 hf).1
  have hlt := fits_lt hf
  have hdl := (fits_iff.1 hf).2.2
  have HB := Lib.hid (box_bel w (objO x da dn dc))
  have HA := Lib.hid (OpX.new w x da dn dc)
  have C := Lib.hid (Hv.covers_yes va da v x.1.ds vn vc dn dc _ (hv.alloc (objO x da dn dc)) (hr.alloc (objO x da dn dc)) hvn hn (fits_pair hf))
  have D := Lib.hid (fun W (hb : Below w.heap.size w W) => opCheck_any x.1.t x.1.r x.2 da x.1.ds dn dc x.1.k x.1.nt x.1.nr x.1.pt x.1.pr x.1.s x.1.p x.1.v W (ht.below hb ht.lt) (hr.below hb (Nat.le_refl _)) hn (by omega))
  have hop : opB x.1.t x.1.r x.2 x.1.ds x.1.k x.1.nt x.1.nr x.1.pt x.1.pr x.1.s x.1.p x.1.v = true := (fits_iff.1 hf).2.1
  rw [hop] at D
  obtain ⟨rn, hrn⟩ : ∃ rn : Nat, x.1.r = rn := ⟨x.1.r.toNat, by have := F.r0; omega⟩
  have hrl : rn < vn := by omega
  have hrl2 : (rn : Int) < (vn : Int) := by omega
  have hcell := hv rn (by omega)
  obtain ⟨vb, vo, rfl, hc⟩ := hcell
  have hvb := World.block_lt_of_cell? _ _ hc
  have HZ : Hid (atV v x = v.getD rn 0) := by show _ = _; unfold atV; rw [hrn]; rfl
  have hq0 := F.q0
  have hq1 := F.q1
  have hwx : wrap64 (x.2 - 1) = x.2 - 1 := IntWalk.wrap64_in _ (by omega)
  have hw2 : IntKind.i64.wrap (x.2 - 1) = x.2 - 1 := IntWalk.i64_in _ (by omega)
  have hcc := Lib.hid (fun W (hb : Below w.heap.size w W) => (hb.cell (p := ⟨vb, vo + rn, none⟩) hvb).trans hc)
  obtain ⟨cb, hcb⟩ : ∃ cb, Hv.coversB v x.1.ds = cb := ⟨_, rfl⟩
  obtain ⟨bb, hbb⟩ : ∃ bb, (v.getD rn 0 == x.2 - 1) = bb := ⟨_, rfl⟩
  have HR : Hid (readyB v x = (bb && cb)) := by show _ = _; unfold readyB; rw [HZ.out, hcb, hbb]
  rw [hcb] at C
  rw [HR.out]
  clear hcb HR HZ hvl hlt hdl hop hc hf hv hr ht F hq0 hq1 hn hvn
  have HRN := Lib.hid hrn
  clear hrn
  generalize v.getD rn 0 = z at *
  go_enter Tryd.func15, Tryd.ntmps15
  go_wp2_with fail
  refine (C.out).mono ?_
  rintro e w1 ⟨rfl, hb1⟩
  have HA1 := Lib.hid (HA.out.next hb1)
  have HB1 := Lib.hid (HB.out.trans (hb1.mono HB.out.size))
  obtain ⟨c0, c1, c2, c3, c4, c5, c6, c7, c8, c9, c10, c11⟩ := HA1.out
  clear hb1 C HA
  go_wp2_with fail
  refine (D.out _ HB1.out).mono ?_
  rintro e w2 ⟨rfl, hb2⟩
  have HA2 := Lib.hid (HA1.out.next hb2)
  have HB2 := Lib.hid (HB1.out.trans (hb2.mono HB1.out.size))
  clear hb2 D c0 c1 c2 c3 c4 c5 c6 c7 c8 c9 c10 c11
  obtain ⟨c0, c1, c2, c3, c4, c5, c6, c7, c8, c9, c10, c11⟩ := HA2.out
  rw [HRN.out] at c1
  have cv := hcc.out _ HB2.out
  clear hcc HA1 HA2 HB HB1 HRN
  cases cb
  · go_wp2_with fail
    go_quiet (fail)
    go_wp2
    go_ret2
    exact ⟨by rw [Bool.and_false]; rfl, below_drewN HB2.out _⟩
  · go_wp2_with fail
    go_quiet (fail)
    go_wp2
    go_ret2
    exact ⟨by rw [Bool.and_true]; rfl, below_drewN HB2.out _⟩

set_option maxHeartbeats 1000000 in
theorem ready_no (va : Option Addr) (v : List Int) (vn vc : Nat) (x : OpD) (da : Option Addr) (dn dc : Nat) (w : World) (ht : Pr.Tab w) (hv : RowK .i64 w va v) (hvn : vn = v.length) (hvl : v.length ≤ 140737488355328) (hr : RowK .i64 w da x.1.ds) (hn : dn = x.1.ds.length) (hl : x.1.ds.length ≤ 140737488355328) (hf : fitsB v x = false) :
    Calls Tryd.prog 15 #[.slice va vn vc, valO x da dn dc] w (ReadyPost w false 1) := by
  have HB := Lib.hid (box_bel w (objO x da dn dc))
  have HA := Lib.hid (OpX.new w x da dn dc)
  have D := Lib.hid (fun W (hb : Below w.heap.size w W) => opCheck_any x.1.t x.1.r x.2 da x.1.ds dn dc x.1.k x.1.nt x.1.nr x.1.pt x.1.pr x.1.s x.1.p x.1.v W (ht.below hb ht.lt) (hr.below hb (Nat.le_refl _)) hn hl)
  cases hp : Hv.pairB v x.1.ds
  · have C := Lib.hid (Hv.covers_no va da v x.1.ds vn vc dn dc _ (hv.alloc (objO x da dn dc)) (hr.alloc (objO x da dn dc)) hvn hn hvl hl hp)
    clear hf hp ht hv hr hvl hl hvn hn D
    go_enter Tryd.func15, Tryd.ntmps15
    go_wp2_with fail
    refine (C.out).mono ?_
    rintro e w1 ⟨rfl, rfl⟩
    go_wp2
    go_ret2
    exact ⟨rfl, HB.out⟩
  · have C := Lib.hid (Hv.covers_yes va da v x.1.ds vn vc dn dc _ (hv.alloc (objO x da dn dc)) (hr.alloc (objO x da dn dc)) hvn hn hp)
    have hop : opB x.1.t x.1.r x.2 x.1.ds x.1.k x.1.nt x.1.nr x.1.pt x.1.pr x.1.s x.1.p x.1.v = false := by
      obtain ⟨h1, h2, h3⟩ := (Hv.pairB_iff _ _).1 hp
      cases ho : x.ok
      · exact ho
      · rw [fits_iff.2 ⟨h1, ho, h3.symm⟩] at hf
        cases hf
    rw [hop] at D
    clear hf hp ht hv hr hvl hl hvn hn hop
    generalize Hv.coversB v x.1.ds = cb at *
    go_enter Tryd.func15, Tryd.ntmps15
    go_wp2_with fail
    refine (C.out).mono ?_
    rintro e w1 ⟨rfl, hb1⟩
    have HA1 := Lib.hid (HA.out.next hb1)
    have HB1 := Lib.hid (HB.out.trans (hb1.mono HB.out.size))
    obtain ⟨c0, c1, c2, c3, c4, c5, c6, c7, c8, c9, c10, c11⟩ := HA1.out
    clear hb1 C HA
    go_wp2_with fail
    refine (D.out _ HB1.out).mono ?_
    rintro e w2 ⟨rfl, hb2⟩
    have HB2 := Lib.hid (HB1.out.trans (hb2.mono HB1.out.size))
    clear hb2 D c0 c1 c2 c3 c4 c5 c6 c7 c8 c9 c10 c11
    go_wp2
    go_ret2
    exact ⟨rfl, HB2.out⟩
end Go.Proofs.YtdpopdlifcjdeaaDoor
