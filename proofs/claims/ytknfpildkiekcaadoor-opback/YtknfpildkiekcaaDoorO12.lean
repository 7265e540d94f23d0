/- The page's Take: words. -/
import Derived.Test.YtknfpildkiekcaaDoorO11b
import Derived.Test.YtknfpildkiekcaaDoorO9
import Derived.Test.YtknfpildkiekcaaDoorO4
namespace Go.Proofs.YtknfpildkiekcaaDoor
open Go.RowKit Go.Lib
set_option linter.unusedVariables false

theorem tk_build (a : Option Addr) (n cap : Nat) (w : World) : (Instr.build 71 #[(0, .slice a n cap)]).run Tryd.prog w = .ok (.agg #[.slice a n cap, .int .i64 0, .int .i64 0]) w := run_build w 71 _ _ (by kernel_rfl)
theorem op_build1 (t r : Int) (w : World) : (Instr.build 28 #[(0, .agg #[.int .i64 t, .int .i64 r])]).run Tryd.prog w = .ok (.agg #[.int .i64 t, .int .i64 r, .int .i64 0, .slice none 0 0, .int .i64 0, .int .i64 0, .int .i64 0, .int .i64 0, .int .i64 0, .string ⟨#[]⟩, .int .i64 0, .int .i64 0]) w := run_build w 28 _ _ (by kernel_rfl)
theorem blk12_new (w : World) (t r : Int) : Blk (w.alloc (.cells #[.int .i64 t, .int .i64 r, .int .i64 0, .slice none 0 0, .int .i64 0, .int .i64 0, .int .i64 0, .int .i64 0, .int .i64 0, .string ⟨#[]⟩, .int .i64 0, .int .i64 0] 28)) w.heap.size ({ zR with t := t, r := r }.cells 0 (.slice none 0 0)) := by
  constructor
  · intro i u hi
    match i, hi with
    | 0, hi | 1, hi | 2, hi | 3, hi | 4, hi | 5, hi | 6, hi | 7, hi | 8, hi | 9, hi | 10, hi | 11, hi => simp [OpR.cells, zR] at hi; subst hi; simp
    | _ + 12, hi => simp [OpR.cells] at hi
  · intro i u hi
    match i, hi with
    | 0, hi | 1, hi | 2, hi | 3, hi | 4, hi | 5, hi | 6, hi | 7, hi | 8, hi | 9, hi | 10, hi | 11, hi => simp
    | _ + 12, hi => simp [OpR.cells] at hi
theorem blk3_new (w : World) (a : Option Addr) (n cap : Nat) : Blk (w.alloc (.cells #[.slice a n cap, .int .i64 0, .int .i64 0] 71)) w.heap.size (tkrV a n cap 0 0) := by
  constructor
  · intro i u hi
    match i, hi with
    | 0, hi | 1, hi | 2, hi => simp [tkrV] at hi; subst hi; simp
    | _ + 3, hi => simp [tkrV] at hi
  · intro i u hi
    match i, hi with
    | 0, hi | 1, hi | 2, hi => simp
    | _ + 3, hi => simp [tkrV] at hi
theorem bel_grownBy {B h : Nat} {w W W' : World} (hb : Below B w W) (hg : W.grownBy W' (some h)) (hB : B ≤ h) (hs : B ≤ W.heap.size) : Below B w W' :=
  ⟨hg.os.trans hb.os, hg.tape.trans hb.tape, hg.output.trans hb.output, Nat.le_trans hb.size hg.size, fun k hk => (hg.block k (by omega) (by intro e; cases e; omega)).trans (hb.block k hk)⟩
/-- what the page's Take keeps -/
structure PI (w W : World) (h b : Nat) (a : Option Addr) (n cap : Nat) (z x : Int) (R : OpR) (q : Int) (da : Option Addr) (dn dc : Nat) : Prop where
  rz : Blk W w.heap.size (zR.cells 0 (.slice none 0 0))
  t : Blk W h (tkrV a n cap z x)
  o : Blk W b (R.cells q (.slice da dn dc))
  d : OwnK .i64 3 W (b + 1) (.slice da dn dc) R.ds
  bel : Below w.heap.size w W
  hh : w.heap.size < h
  hb : h < b
section
variable {w W W' : World} {h b : Nat} {a : Option Addr} {n cap : Nat} {z x : Int} {R : OpR} {q : Int} {da : Option Addr} {dn dc : Nat}
theorem PI.size (p : PI w W h b a n cap z x R q da dn dc) : b < W.heap.size := p.o.lt
theorem PI.grown (p : PI w W h b a n cap z x R q da dn dc) {z' x' : Int} (hg : W.grownBy W' (some h)) (ht : Blk W' h (tkrV a n cap z' x')) : PI w W' h b a n cap z' x' R q da dn dc := by
  have h1 := p.hh
  have h2 := p.hb
  have h3 := p.rz.lt
  refine ⟨p.rz.grown hg (by intro e; cases e; omega), ht, p.o.grown hg (by intro e; cases e; omega), p.d.grown hg ?_, bel_grownBy p.bel hg (by omega) (by omega), h1, h2⟩
  by_cases hn : (Value.slice da dn dc).ownBlock = some h
  · have := (p.d.lt hn).1
    omega
  · exact .inr hn
theorem PI.next (p : PI w W h b a n cap z x R q da dn dc) (hb : Below W.heap.size W W') : PI w W' h b a n cap z x R q da dn dc :=
  ⟨p.rz.next hb, p.t.next hb, p.o.next hb, p.d.below hb, p.bel.trans (hb.mono p.bel.size), p.hh, p.hb⟩
theorem PI.drew (p : PI w W h b a n cap z x R q da dn dc) : PI w W.drew h b a n cap z x R q da dn dc := p.next (Below.refl _ W).drew
theorem PI.put (p : PI w W h b a n cap z x R q da dn dc) (i : Nat) (u : Value) {R' : OpR} {q' : Int} (hc : (R.cells q (.slice da dn dc)).set i u = R'.cells q' (.slice da dn dc)) (hd : R'.ds = R.ds) : PI w (W.setCell ⟨b, i, none⟩ u) h b a n cap z x R' q' da dn dc := by
  have h1 := p.hh
  have h2 := p.hb
  exact ⟨p.rz.other (by omega) _ _, p.t.other (by omega) _ _, hc ▸ p.o.set i u, hd ▸ p.d.far (Nat.lt_succ_self b) _ _, p.bel.setCell (p := ⟨b, i, none⟩) (by simp; omega) _, h1, h2⟩
theorem PI.put2 (p : PI w W h b a n cap z x R q da dn dc) (i j : Nat) (u v : Value) {R' : OpR} {q' : Int} (hc : ((R.cells q (.slice da dn dc)).set i u).set j v = R'.cells q' (.slice da dn dc)) (hd : R'.ds = R.ds) : PI w ((W.setCell ⟨b, i, none⟩ u).setCell ⟨b, j, none⟩ v) h b a n cap z x R' q' da dn dc := by
  have h1 := p.hh
  have h2 := p.hb
  exact ⟨(p.rz.other (by omega) _ _).other (by omega) _ _, (p.t.other (by omega) _ _).other (by omega) _ _, hc ▸ (p.o.set i u).set j v, hd ▸ (p.d.far (Nat.lt_succ_self b) _ _).far (Nat.lt_succ_self b) _ _, (p.bel.setCell (p := ⟨b, i, none⟩) (by simp; omega) _).setCell (p := ⟨b, j, none⟩) (by simp; omega) _, h1, h2⟩
theorem PI.putD (p : PI w W h b a n cap z x R q da dn dc) {da' : Option Addr} {dn' dc' : Nat} {ds' : List Int} (ho : OwnK .i64 3 W (b + 1) (.slice da' dn' dc') ds') : PI w (W.setCell ⟨b, 3, none⟩ (.slice da' dn' dc')) h b a n cap z x { R with ds := ds' } q da' dn' dc' := by
  have h1 := p.hh
  have h2 := p.hb
  exact ⟨p.rz.other (by omega) _ _, p.t.other (by omega) _ _, p.o.set 3 _, ho.far (Nat.lt_succ_self b) _ _, p.bel.setCell (p := ⟨b, 3, none⟩) (by simp; omega) _, h1, h2⟩
theorem PI.setT (p : PI w W h b a n cap z x R q da dn dc) (z' x' : Int) : PI w ((W.setCell ⟨h, 1, none⟩ (.int .i64 z')).setCell ⟨h, 2, none⟩ (.int .i64 x')) h b a n cap z' x' R q da dn dc := by
  have h1 := p.hh
  have h2 := p.hb
  exact ⟨(p.rz.other (by omega) _ _).other (by omega) _ _, (p.t.set 1 _).set 2 _, (p.o.other (by omega) _ _).other (by omega) _ _, (p.d.far (by omega) _ _).far (by omega) _ _, (p.bel.setCell (p := ⟨h, 1, none⟩) (by simp; omega) _).setCell (p := ⟨h, 2, none⟩) (by simp; omega) _, h1, h2⟩
theorem PI.setE (p : PI w W h b a n cap z x R q da dn dc) (x' : Int) : PI w (W.setCell ⟨h, 2, none⟩ (.int .i64 x')) h b a n cap z x' R q da dn dc := by
  have h1 := p.hh
  have h2 := p.hb
  exact ⟨p.rz.other (by omega) _ _, p.t.set 2 _, p.o.other (by omega) _ _, p.d.far (by omega) _ _, p.bel.setCell (p := ⟨h, 2, none⟩) (by simp; omega) _, h1, h2⟩
/-- behind the first stamp -/
theorem PI.first {t r : Int} {w1 : World} (hh : w.heap.size + 1 = h) (hbb : w1.heap.size = b) (ht : Blk w1 h (tkrV a n cap z x)) (hg : ((w.alloc (.cells #[.int .i64 0, .int .i64 0, .int .i64 0, .slice none 0 0, .int .i64 0, .int .i64 0, .int .i64 0, .int .i64 0, .int .i64 0, .string ⟨#[]⟩, .int .i64 0, .int .i64 0] 28)).alloc (.cells #[.slice a n cap, .int .i64 0, .int .i64 0] 71)).grownBy w1 (some h)) :
    PI w (w1.alloc (.cells #[.int .i64 t, .int .i64 r, .int .i64 0, .slice none 0 0, .int .i64 0, .int .i64 0, .int .i64 0, .int .i64 0, .int .i64 0, .string ⟨#[]⟩, .int .i64 0, .int .i64 0] 28)) h b a n cap z x { zR with t := t, r := r } 0 none 0 0 := by
  subst hh hbb
  have hz := ((blk_new w).next (box_bel _ (.cells #[.slice a n cap, .int .i64 0, .int .i64 0] 71))).grown hg (by intro e; simp at e)
  have hl := ht.lt
  refine ⟨hz.next (box_bel w1 _), ht.next (box_bel w1 _), blk12_new w1 t r, OwnK.nil _ _ _ _, ?_, by omega, hl⟩
  exact (bel_grownBy (St.below2 w _ _) hg (by omega) (by simp; omega)).trans ((box_bel w1 _).mono (by omega))
theorem tkr_new (w : World) (a : Option Addr) (n cap : Nat) (o : Obj) (hh : w.heap.size + 1 = h) : Blk ((w.alloc o).alloc (.cells #[.slice a n cap, .int .i64 0, .int .i64 0] 71)) h (tkrV a n cap 0 0) := by
  have := blk3_new (w.alloc o) a n cap
  rw [World.size_alloc, hh] at this
  exact this
end
theorem far12 {W : World} {g h i : Nat} {v : Value} (hne : g ≠ h) (hc : W.cell? ⟨h, i, none⟩ = some v) (u0 u1 u2 u3 u4 u5 u6 u7 u8 u9 u10 u11 : Value) : ((((((((((((W.setCell ⟨g, 0, none⟩ u0).setCell ⟨g, 1, none⟩ u1).setCell ⟨g, 2, none⟩ u2).setCell ⟨g, 3, none⟩ u3).setCell ⟨g, 4, none⟩ u4).setCell ⟨g, 5, none⟩ u5).setCell ⟨g, 6, none⟩ u6).setCell ⟨g, 7, none⟩ u7).setCell ⟨g, 8, none⟩ u8).setCell ⟨g, 9, none⟩ u9).setCell ⟨g, 10, none⟩ u10).setCell ⟨g, 11, none⟩ u11).cell? ⟨h, i, none⟩ = some v := by
  simp only [World.cell?_setCell_far _ ⟨g, _, none⟩ ⟨h, i, none⟩ _ hne]
  exact hc
theorem far12d {W : World} {g h i : Nat} {v : Value} (hne : g ≠ h) (hc : W.drew.cell? ⟨h, i, none⟩ = some v) (u0 u1 u2 u3 u4 u5 u6 u7 u8 u9 u10 u11 : Value) : ((((((((((((W.setCell ⟨g, 0, none⟩ u0).setCell ⟨g, 1, none⟩ u1).setCell ⟨g, 2, none⟩ u2).setCell ⟨g, 3, none⟩ u3).setCell ⟨g, 4, none⟩ u4).setCell ⟨g, 5, none⟩ u5).setCell ⟨g, 6, none⟩ u6).setCell ⟨g, 7, none⟩ u7).setCell ⟨g, 8, none⟩ u8).setCell ⟨g, 9, none⟩ u9).setCell ⟨g, 10, none⟩ u10).setCell ⟨g, 11, none⟩ u11).drew.cell? ⟨h, i, none⟩ = some v := by
  rw [World.cell?_drew]
  simp only [World.cell?_setCell_far _ ⟨g, _, none⟩ ⟨h, i, none⟩ _ hne]
  exact hc
theorem held13 {W : World} {g b h : Nat} {x0 x1 x2 x3 x4 x5 x6 x7 x8 x9 x10 x11 y : Value} (hgb : g ≠ b) (hgh : g ≠ h) (hS : W.drew.cell? ⟨b, 0, none⟩ = some x0 ∧ W.drew.cell? ⟨b, 1, none⟩ = some x1 ∧ W.drew.cell? ⟨b, 2, none⟩ = some x2 ∧ W.drew.cell? ⟨b, 3, none⟩ = some x3 ∧ W.drew.cell? ⟨b, 4, none⟩ = some x4 ∧ W.drew.cell? ⟨b, 5, none⟩ = some x5 ∧ W.drew.cell? ⟨b, 6, none⟩ = some x6 ∧ W.drew.cell? ⟨b, 7, none⟩ = some x7 ∧ W.drew.cell? ⟨b, 8, none⟩ = some x8 ∧ W.drew.cell? ⟨b, 9, none⟩ = some x9 ∧ W.drew.cell? ⟨b, 10, none⟩ = some x10 ∧ W.drew.cell? ⟨b, 11, none⟩ = some x11 ∧ W.drew.cell? ⟨h, 1, none⟩ = some y) (u0 u1 u2 u3 u4 u5 u6 u7 u8 u9 u10 u11 : Value) : ((((((((((((W.setCell ⟨g, 0, none⟩ u0).setCell ⟨g, 1, none⟩ u1).setCell ⟨g, 2, none⟩ u2).setCell ⟨g, 3, none⟩ u3).setCell ⟨g, 4, none⟩ u4).setCell ⟨g, 5, none⟩ u5).setCell ⟨g, 6, none⟩ u6).setCell ⟨g, 7, none⟩ u7).setCell ⟨g, 8, none⟩ u8).setCell ⟨g, 9, none⟩ u9).setCell ⟨g, 10, none⟩ u10).setCell ⟨g, 11, none⟩ u11).drew.cell? ⟨b, 0, none⟩ = some x0 ∧ ((((((((((((W.setCell ⟨g, 0, none⟩ u0).setCell ⟨g, 1, none⟩ u1).setCell ⟨g, 2, none⟩ u2).setCell ⟨g, 3, none⟩ u3).setCell ⟨g, 4, none⟩ u4).setCell ⟨g, 5, none⟩ u5).setCell ⟨g, 6, none⟩ u6).setCell ⟨g, 7, none⟩ u7).setCell ⟨g, 8, none⟩ u8).setCell ⟨g, 9, none⟩ u9).setCell ⟨g, 10, none⟩ u10).setCell ⟨g, 11, none⟩ u11).drew.cell? ⟨b, 1, none⟩ = some x1 ∧ ((((((((((((W.setCell ⟨g, 0, none⟩ u0).setCell ⟨g, 1, none⟩ u1).setCell ⟨g, 2, none⟩ u2).setCell ⟨g, 3, none⟩ u3).setCell ⟨g, 4, none⟩ u4).setCell ⟨g, 5, none⟩ u5).setCell ⟨g, 6, none⟩ u6).setCell ⟨g, 7, none⟩ u7).setCell ⟨g, 8, none⟩ u8).setCell ⟨g, 9, none⟩ u9).setCell ⟨g, 10, none⟩ u10).setCell ⟨g, 11, none⟩ u11).drew.cell? ⟨b, 2, none⟩ = some x2 ∧ ((((((((((((W.setCell ⟨g, 0, none⟩ u0).setCell ⟨g, 1, none⟩ u1).setCell ⟨g, 2, none⟩ u2).setCell ⟨g, 3, none⟩ u3).setCell ⟨g, 4, none⟩ u4).setCell ⟨g, 5, none⟩ u5).setCell ⟨g, 6, none⟩ u6).setCell ⟨g, 7, none⟩ u7).setCell ⟨g, 8, none⟩ u8).setCell ⟨g, 9, none⟩ u9).setCell ⟨g, 10, none⟩ u10).setCell ⟨g, 11, none⟩ u11).drew.cell? ⟨b, 3, none⟩ = some x3 ∧ ((((((((((((W.setCell ⟨g, 0, none⟩ u0).setCell ⟨g, 1, none⟩ u1).setCell ⟨g, 2, none⟩ u2).setCell ⟨g, 3, none⟩ u3).setCell ⟨g, 4, none⟩ u4).setCell ⟨g, 5, none⟩ u5).setCell ⟨g, 6, none⟩ u6).setCell ⟨g, 7, none⟩ u7).setCell ⟨g, 8, none⟩ u8).setCell ⟨g, 9, none⟩ u9).setCell ⟨g, 10, none⟩ u10).setCell ⟨g, 11, none⟩ u11).drew.cell? ⟨b, 4, none⟩ = some x4 ∧ ((((((((((((W.setCell ⟨g, 0, none⟩ u0).setCell ⟨g, 1, none⟩ u1).setCell ⟨g, 2, none⟩ u2).setCell ⟨g, 3, none⟩ u3).setCell ⟨g, 4, none⟩ u4).setCell ⟨g, 5, none⟩ u5).setCell ⟨g, 6, none⟩ u6).setCell ⟨g, 7, none⟩ u7).setCell ⟨g, 8, none⟩ u8).setCell ⟨g, 9, none⟩ u9).setCell ⟨g, 10, none⟩ u10).setCell ⟨g, 11, none⟩ u11).drew.cell? ⟨b, 5, none⟩ = some x5 ∧ ((((((((((((W.setCell ⟨g, 0, none⟩ u0).setCell ⟨g, 1, none⟩ u1).setCell ⟨g, 2, none⟩ u2).setCell ⟨g, 3, none⟩ u3).setCell ⟨g, 4, none⟩ u4).setCell ⟨g, 5, none⟩ u5).setCell ⟨g, 6, none⟩ u6).setCell ⟨g, 7, none⟩ u7).setCell ⟨g, 8, none⟩ u8).setCell ⟨g, 9, none⟩ u9).setCell ⟨g, 10, none⟩ u10).setCell ⟨g, 11, none⟩ u11).drew.cell? ⟨b, 6, none⟩ = some x6 ∧ ((((((((((((W.setCell ⟨g, 0, none⟩ u0).setCell ⟨g, 1, none⟩ u1).setCell ⟨g, 2, none⟩ u2).setCell ⟨g, 3, none⟩ u3).setCell ⟨g, 4, none⟩ u4).setCell ⟨g, 5, none⟩ u5).setCell ⟨g, 6, none⟩ u6).setCell ⟨g, 7, none⟩ u7).setCell ⟨g, 8, none⟩ u8).setCell ⟨g, 9, none⟩ u9).setCell ⟨g, 10, none⟩ u10).setCell ⟨g, 11, none⟩ u11).drew.cell? ⟨b, 7, none⟩ = some x7 ∧ ((((((((((((W.setCell ⟨g, 0, none⟩ u0).setCell ⟨g, 1, none⟩ u1).setCell ⟨g, 2, none⟩ u2).setCell ⟨g, 3, none⟩ u3).setCell ⟨g, 4, none⟩ u4).setCell ⟨g, 5, none⟩ u5).setCell ⟨g, 6, none⟩ u6).setCell ⟨g, 7, none⟩ u7).setCell ⟨g, 8, none⟩ u8).setCell ⟨g, 9, none⟩ u9).setCell ⟨g, 10, none⟩ u10).setCell ⟨g, 11, none⟩ u11).drew.cell? ⟨b, 8, none⟩ = some x8 ∧ ((((((((((((W.setCell ⟨g, 0, none⟩ u0).setCell ⟨g, 1, none⟩ u1).setCell ⟨g, 2, none⟩ u2).setCell ⟨g, 3, none⟩ u3).setCell ⟨g, 4, none⟩ u4).setCell ⟨g, 5, none⟩ u5).setCell ⟨g, 6, none⟩ u6).setCell ⟨g, 7, none⟩ u7).setCell ⟨g, 8, none⟩ u8).setCell ⟨g, 9, none⟩ u9).setCell ⟨g, 10, none⟩ u10).setCell ⟨g, 11, none⟩ u11).drew.cell? ⟨b, 9, none⟩ = some x9 ∧ ((((((((((((W.setCell ⟨g, 0, none⟩ u0).setCell ⟨g, 1, none⟩ u1).setCell ⟨g, 2, none⟩ u2).setCell ⟨g, 3, none⟩ u3).setCell ⟨g, 4, none⟩ u4).setCell ⟨g, 5, none⟩ u5).setCell ⟨g, 6, none⟩ u6).setCell ⟨g, 7, none⟩ u7).setCell ⟨g, 8, none⟩ u8).setCell ⟨g, 9, none⟩ u9).setCell ⟨g, 10, none⟩ u10).setCell ⟨g, 11, none⟩ u11).drew.cell? ⟨b, 10, none⟩ = some x10 ∧ ((((((((((((W.setCell ⟨g, 0, none⟩ u0).setCell ⟨g, 1, none⟩ u1).setCell ⟨g, 2, none⟩ u2).setCell ⟨g, 3, none⟩ u3).setCell ⟨g, 4, none⟩ u4).setCell ⟨g, 5, none⟩ u5).setCell ⟨g, 6, none⟩ u6).setCell ⟨g, 7, none⟩ u7).setCell ⟨g, 8, none⟩ u8).setCell ⟨g, 9, none⟩ u9).setCell ⟨g, 10, none⟩ u10).setCell ⟨g, 11, none⟩ u11).drew.cell? ⟨b, 11, none⟩ = some x11 ∧ ((((((((((((W.setCell ⟨g, 0, none⟩ u0).setCell ⟨g, 1, none⟩ u1).setCell ⟨g, 2, none⟩ u2).setCell ⟨g, 3, none⟩ u3).setCell ⟨g, 4, none⟩ u4).setCell ⟨g, 5, none⟩ u5).setCell ⟨g, 6, none⟩ u6).setCell ⟨g, 7, none⟩ u7).setCell ⟨g, 8, none⟩ u8).setCell ⟨g, 9, none⟩ u9).setCell ⟨g, 10, none⟩ u10).setCell ⟨g, 11, none⟩ u11).drew.cell? ⟨h, 1, none⟩ = some y :=
  ⟨far12d hgb hS.1 _ _ _ _ _ _ _ _ _ _ _ _, far12d hgb hS.2.1 _ _ _ _ _ _ _ _ _ _ _ _, far12d hgb hS.2.2.1 _ _ _ _ _ _ _ _ _ _ _ _, far12d hgb hS.2.2.2.1 _ _ _ _ _ _ _ _ _ _ _ _, far12d hgb hS.2.2.2.2.1 _ _ _ _ _ _ _ _ _ _ _ _, far12d hgb hS.2.2.2.2.2.1 _ _ _ _ _ _ _ _ _ _ _ _, far12d hgb hS.2.2.2.2.2.2.1 _ _ _ _ _ _ _ _ _ _ _ _, far12d hgb hS.2.2.2.2.2.2.2.1 _ _ _ _ _ _ _ _ _ _ _ _, far12d hgb hS.2.2.2.2.2.2.2.2.1 _ _ _ _ _ _ _ _ _ _ _ _, far12d hgb hS.2.2.2.2.2.2.2.2.2.1 _ _ _ _ _ _ _ _ _ _ _ _, far12d hgb hS.2.2.2.2.2.2.2.2.2.2.1 _ _ _ _ _ _ _ _ _ _ _ _, far12d hgb hS.2.2.2.2.2.2.2.2.2.2.2.1 _ _ _ _ _ _ _ _ _ _ _ _, far12d hgh hS.2.2.2.2.2.2.2.2.2.2.2.2 _ _ _ _ _ _ _ _ _ _ _ _⟩
theorem refTakeText_n (a : Option Addr) (bs : List Int) (n cap : Nat) (w : World) (hn : n = bs.length) (hr : RowK .u8 w a bs) (hb : IsB bs) (hcap : bs.length ≤ cap) (hlen : bs.length ≤ 140737488355328) {s : ByteArray} {k : Nat} {x : Int} (h : tkS bs = (s, k, x)) : Calls Tryd.prog 49 #[.slice a n cap] w fun e w' => e = .returned (.tuple #[.string s, .int .i64 (k : Int), .int .i64 x]) ∧ w = w' := by
  subst hn
  have := refTakeText_any a bs cap w hr hb hcap hlen
  unfold TextPost at this
  rw [h] at this
  exact this
theorem tstamp_zero (h : Nat) (a : Option Addr) (bs : List Int) (n cap : Nat) (w : World) (hB : Blk w h (tkrV a n cap 0 0)) (hn : n = bs.length) (hr : RowK .u8 w a bs) (hb : IsB bs) (hcap : bs.length ≤ cap) (hlen : bs.length ≤ 140737488355328) {y1 y2 : Int} {k' : Nat} {x : Int} (hs : St.tkSt bs = (y1, y2, k', x)) : Calls Tryd.prog 46 #[.pointer (some ⟨h, 0, none⟩)] w (StT h a n cap y1 y2 (k' : Int) x w) := by
  have := tstamp_on h a bs n cap 0 w hB hn hr hb hcap hlen (Nat.zero_le _) (k' := k') (x := x) hs
  rw [Nat.zero_add] at this
  exact this
theorem tstamp_is (h : Nat) (a : Option Addr) (bs : List Int) (n cap kk : Nat) (w : World) (hB : Blk w h (tkrV a n cap (kk : Int) 0)) (hn : n = bs.length) (hr : RowK .u8 w a bs) (hb : IsB bs) (hcap : bs.length ≤ cap) (hlen : bs.length ≤ 140737488355328) (hk : kk ≤ bs.length) {y1 y2 : Int} {k' m : Nat} {x : Int} (hs : St.tkSt (bs.drop kk) = (y1, y2, k', x)) (hm : kk + k' = m) : Calls Tryd.prog 46 #[.pointer (some ⟨h, 0, none⟩)] w (StT h a n cap y1 y2 (m : Int) x w) := by
  subst hm
  exact tstamp_on h a bs n cap kk w hB hn hr hb hcap hlen hk hs
theorem tnum_is (h : Nat) (a : Option Addr) (bs : List Int) (n cap kk : Nat) (w : World) (hB : Blk w h (tkrV a n cap (kk : Int) 0)) (hn : n = bs.length) (hr : RowK .u8 w a bs) (hb : IsB bs) (hcap : bs.length ≤ cap) (hlen : bs.length ≤ 140737488355328) (hk : kk ≤ bs.length) {y : Int} {k' m : Nat} {x : Int} (hs : tkN (bs.drop kk) = (y, k', x)) (hm : kk + k' = m) : Calls Tryd.prog 48 #[.pointer (some ⟨h, 0, none⟩)] w (NumT h a n cap y (m : Int) x w) := by
  subst hm
  exact tnum_on h a bs n cap kk w hB hn hr hb hcap hlen hk hs
end Go.Proofs.YtknfpildkiekcaaDoor
