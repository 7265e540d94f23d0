/- Joined: D10 D11. -/
import Derived.Test.YtdpopdlifcjdeaaDoorZI
import Derived.Test.YtdpopdlifcjdeaaDoorZG

/- Hold: what one operation sets free: what is held on the way. -/
namespace Go.Proofs.YtdpopdlifcjdeaaDoor
open Go.RowKit Go.Lib
set_option linter.unusedVariables false

theorem OwnK.formS {w : World} {base : Nat} {v : Value} {zs : List Int} (h : OwnK .i64 3 w base v zs) (h0 : 1 ≤ zs.length) : ∃ gw cw, v = .slice (some ⟨gw, 0, none⟩) zs.length cw ∧ base ≤ gw := by
  rcases h.2 with ⟨_, h1⟩ | ⟨g, cap, cur, e, hg, _⟩
  · omega
  · exact ⟨g, cap, e, hg⟩
theorem OwnK.belowB {kd : IntKind} {e : TypeId} {w w' : World} {base B : Nat} {v : Value} {zs : List Int} (h : OwnK kd e w base v zs) (hb : Below B w w') (hB : ∀ g, v.ownBlock = some g → g < B) : OwnK kd e w' base v zs := by
  refine ⟨h.1, ?_⟩
  rcases h.2 with hn | ⟨g, cap, cur, e1, h1, h2, h3⟩
  · exact .inl hn
  · exact .inr ⟨g, cap, cur, e1, h1, by rw [hb.block g (hB g (by rw [e1]; rfl))]; exact h2, h3⟩
theorem OwnO.belowB {w w' : World} {base B : Nat} {v : Value} {os : List OpD} {dl : List Value} (h : OwnO w base v os dl) (hb : Below B w w') (hB : ∀ g, v.ownBlock = some g → g < B) : OwnO w' base v os dl := by
  refine ⟨h.len, h.own.1, ?_⟩
  rcases h.own.2 with hn | ⟨g, cap, cur, e1, h1, h2, h3⟩
  · exact .inl hn
  · exact .inr ⟨g, cap, cur, e1, h1, by rw [hb.block g (hB g (by rw [e1]; rfl))]; exact h2, h3⟩

/-- what is held on the way: the vector's row, the operation's box, the vector's cell, what was taken -/
structure FrS (w W : World) (g gw cw vn : Nat) (v : List Int) (k : Nat) (ta : Option Addr) (tc : Nat) (tk : List OpD) (dl : List Value) (x : OpD) (da : Option Addr) (dc : Nat) : Prop where
  hg : w.heap.size = g
  len : v.length = vn
  own : OwnK .i64 3 W (g + 2) (.slice (some ⟨gw, 0, none⟩) vn cw) v
  box : Blk W g (x.1.cells x.2 (.slice da x.1.ds.length dc))
  cel : Blk W (g + 1) [.slice (some ⟨gw, 0, none⟩) vn cw]
  row : RowK .i64 w da x.1.ds
  kl : k = tk.length
  tak : OwnO W (g + 2) (.slice ta k tc) tk dl
  dep : DepsO W (g + 2) tk dl
  apt : ∀ d ∈ dl, d.ownBlock = none ∨ d.ownBlock ≠ some gw
  bel : Below g w W
section
variable {w W W' : World} {g gw cw vn : Nat} {v : List Int} {k : Nat} {ta : Option Addr} {tc : Nat} {tk : List OpD} {dl : List Value} {x : OpD} {da : Option Addr} {dc : Nat}
theorem FrS.lt (h : FrS w W g gw cw vn v k ta tc tk dl x da dc) : g + 2 ≤ gw ∧ gw < W.heap.size := h.own.lt rfl
theorem FrS.next (h : FrS w W g gw cw vn v k ta tc tk dl x da dc) (hb : Below W.heap.size W W') : FrS w W' g gw cw vn v k ta tc tk dl x da dc := by
  have h1 := h.lt
  exact ⟨h.hg, h.len, h.own.below hb, h.box.next hb, h.cel.next hb, h.row, h.kl, h.tak.below hb, h.dep.below hb, h.apt, h.bel.trans (hb.mono (by omega))⟩
theorem FrS.rowW (h : FrS w W g gw cw vn v k ta tc tk dl x da dc) : RowK .i64 W da x.1.ds := h.row.below h.bel (Nat.le_of_eq h.hg)
theorem FrS.vec (h : FrS w W g gw cw vn v k ta tc tk dl x da dc) : RowK .i64 W (some ⟨gw, 0, none⟩) v := by
  obtain ⟨a, cap, e, hr, _⟩ := h.own.form
  injection e with e1
  rw [e1]
  exact hr
theorem FrS.write (h : FrS w W g gw cw vn v k ta tc tk dl x da dc) : FrS w (W.setCell ⟨gw, x.1.r.toNat, none⟩ (.int .i64 x.2)) g gw cw vn (setV v x) k ta tc tk dl x da dc := by
  have h1 := h.lt
  have hgr := grown_setCell W ⟨gw, x.1.r.toNat, none⟩ (.int .i64 x.2)
  have hne : (Value.slice ta k tc).ownBlock = none ∨ (Value.slice ta k tc).ownBlock ≠ some gw := by
    rcases apart_types h.own h.tak with e | e
    · cases e
    · exact .inr fun e2 => e (e2.symm ▸ rfl)
  refine ⟨h.hg, by rw [setV_len]; exact h.len, OwnK.stored h.len h.own _ _, h.box.other (by omega) _ _, h.cel.other (by omega) _ _, h.row, h.kl, h.tak.grown hgr hne, ⟨fun i y d hi hd => ?_, h.dep.apart⟩, h.apt, h.bel.setCell (p := ⟨gw, x.1.r.toNat, none⟩) (by show g ≤ gw; omega) _⟩
  have := h.dep.own i y d hi hd
  exact ⟨this.1.grown hgr (h.apt d (List.mem_of_getElem? hd)), this.2⟩
theorem FrS.push {W2 W3 : World} {d tv : Value} (h0 : FrS w W g gw cw vn v k ta tc tk dl x da dc) (hb : Below W.heap.size W W2) (hd : OwnK .i64 3 W2 W.heap.size d x.1.ds) (hl : x.1.ds.length ≤ 17592186044416) (hg2 : GrewO (g + 2) W2 (.slice ta k tc) tk dl x d tv W3) :
    ∃ ta' tc', tv = .slice ta' (k + 1) tc' ∧ FrS w W3 g gw cw vn v (k + 1) ta' tc' (tk ++ [x]) (dl ++ [d]) x da dc := by
  have h := h0.next hb
  have h1 := h0.lt
  have hs := hb.size
  obtain ⟨a, n, cap, e1, e2, -⟩ := hg2.own.form
  have hk := h.kl
  obtain rfl : n = k + 1 := by rw [e2, List.length_append, List.length_singleton, hk]
  subst e1
  have hB := hg2.bel (Below.refl (g + 2) W2) (Nat.le_refl _) (by omega)
  refine ⟨a, cap, rfl, h.hg, h.len, hg2.row h.own, h.box.below hB (by omega), h.cel.below hB (by omega), h.row, by rw [List.length_append, List.length_singleton, hk], hg2.own, ?_, ?_, h.bel.trans (hB.mono (by omega))⟩
  · exact DepsO.push (w0 := W) h0.dep h0.tak.len (hg2.deps h.dep) (hg2.row (hd.mono (by omega))) hl (fun g' hgg => (hd.lt hgg).1)
  · intro d' hd'
    rcases List.mem_append.1 hd' with hd' | hd'
    · exact h.apt d' hd'
    · rw [List.mem_singleton] at hd'
      subst hd'
      cases hdb : d'.ownBlock with
      | none => exact .inl rfl
      | some g' =>
        have := (hd.lt hdb).1
        exact .inr fun e => by injection e with e; omega
theorem FrS.rebox (h : FrS w W g gw cw vn v k ta tc tk dl x da dc) {y : OpD} {da2 : Option Addr} {dc2 : Nat} (hr : RowK .i64 w da2 y.1.ds) : FrS w ((((((((((((W.setCell ⟨g, 0, none⟩ (.int .i64 y.1.t)).setCell ⟨g, 1, none⟩ (.int .i64 y.1.r)).setCell ⟨g, 2, none⟩ (.int .i64 y.2)).setCell ⟨g, 3, none⟩ (.slice da2 y.1.ds.length dc2)).setCell ⟨g, 4, none⟩ (.int .i64 y.1.k)).setCell ⟨g, 5, none⟩ (.int .i64 y.1.nt)).setCell ⟨g, 6, none⟩ (.int .i64 y.1.nr)).setCell ⟨g, 7, none⟩ (.int .i64 y.1.pt)).setCell ⟨g, 8, none⟩ (.int .i64 y.1.pr)).setCell ⟨g, 9, none⟩ (.string y.1.s)).setCell ⟨g, 10, none⟩ (.int .i64 y.1.p)).setCell ⟨g, 11, none⟩ (.int .i64 y.1.v)) g gw cw vn v k ta tc tk dl y da2 dc2 := by
  have h1 := h.lt
  refine ⟨h.hg, h.len, ((((((((((((h.own).far (show g < g + 2 by omega) 0 (.int .i64 y.1.t)).far (show g < g + 2 by omega) 1 (.int .i64 y.1.r)).far (show g < g + 2 by omega) 2 (.int .i64 y.2)).far (show g < g + 2 by omega) 3 (.slice da2 y.1.ds.length dc2)).far (show g < g + 2 by omega) 4 (.int .i64 y.1.k)).far (show g < g + 2 by omega) 5 (.int .i64 y.1.nt)).far (show g < g + 2 by omega) 6 (.int .i64 y.1.nr)).far (show g < g + 2 by omega) 7 (.int .i64 y.1.pt)).far (show g < g + 2 by omega) 8 (.int .i64 y.1.pr)).far (show g < g + 2 by omega) 9 (.string y.1.s)).far (show g < g + 2 by omega) 10 (.int .i64 y.1.p)).far (show g < g + 2 by omega) 11 (.int .i64 y.1.v), ((((((((((((h.box).set 0 (.int .i64 y.1.t)).set 1 (.int .i64 y.1.r)).set 2 (.int .i64 y.2)).set 3 (.slice da2 y.1.ds.length dc2)).set 4 (.int .i64 y.1.k)).set 5 (.int .i64 y.1.nt)).set 6 (.int .i64 y.1.nr)).set 7 (.int .i64 y.1.pt)).set 8 (.int .i64 y.1.pr)).set 9 (.string y.1.s)).set 10 (.int .i64 y.1.p)).set 11 (.int .i64 y.1.v), ((((((((((((h.cel).other (b := g) (by omega) 0 (.int .i64 y.1.t)).other (b := g) (by omega) 1 (.int .i64 y.1.r)).other (b := g) (by omega) 2 (.int .i64 y.2)).other (b := g) (by omega) 3 (.slice da2 y.1.ds.length dc2)).other (b := g) (by omega) 4 (.int .i64 y.1.k)).other (b := g) (by omega) 5 (.int .i64 y.1.nt)).other (b := g) (by omega) 6 (.int .i64 y.1.nr)).other (b := g) (by omega) 7 (.int .i64 y.1.pt)).other (b := g) (by omega) 8 (.int .i64 y.1.pr)).other (b := g) (by omega) 9 (.string y.1.s)).other (b := g) (by omega) 10 (.int .i64 y.1.p)).other (b := g) (by omega) 11 (.int .i64 y.1.v), hr, h.kl, ((((((((((((h.tak).far (show g < g + 2 by omega) 0 (.int .i64 y.1.t)).far (show g < g + 2 by omega) 1 (.int .i64 y.1.r)).far (show g < g + 2 by omega) 2 (.int .i64 y.2)).far (show g < g + 2 by omega) 3 (.slice da2 y.1.ds.length dc2)).far (show g < g + 2 by omega) 4 (.int .i64 y.1.k)).far (show g < g + 2 by omega) 5 (.int .i64 y.1.nt)).far (show g < g + 2 by omega) 6 (.int .i64 y.1.nr)).far (show g < g + 2 by omega) 7 (.int .i64 y.1.pt)).far (show g < g + 2 by omega) 8 (.int .i64 y.1.pr)).far (show g < g + 2 by omega) 9 (.string y.1.s)).far (show g < g + 2 by omega) 10 (.int .i64 y.1.p)).far (show g < g + 2 by omega) 11 (.int .i64 y.1.v), ((((((((((((h.dep).far (show g < g + 2 by omega) 0 (.int .i64 y.1.t)).far (show g < g + 2 by omega) 1 (.int .i64 y.1.r)).far (show g < g + 2 by omega) 2 (.int .i64 y.2)).far (show g < g + 2 by omega) 3 (.slice da2 y.1.ds.length dc2)).far (show g < g + 2 by omega) 4 (.int .i64 y.1.k)).far (show g < g + 2 by omega) 5 (.int .i64 y.1.nt)).far (show g < g + 2 by omega) 6 (.int .i64 y.1.nr)).far (show g < g + 2 by omega) 7 (.int .i64 y.1.pt)).far (show g < g + 2 by omega) 8 (.int .i64 y.1.pr)).far (show g < g + 2 by omega) 9 (.string y.1.s)).far (show g < g + 2 by omega) 10 (.int .i64 y.1.p)).far (show g < g + 2 by omega) 11 (.int .i64 y.1.v), h.apt, ((((((((((((h.bel).setCell (p := ⟨g, 0, none⟩) (Nat.le_refl _) (.int .i64 y.1.t)).setCell (p := ⟨g, 1, none⟩) (Nat.le_refl _) (.int .i64 y.1.r)).setCell (p := ⟨g, 2, none⟩) (Nat.le_refl _) (.int .i64 y.2)).setCell (p := ⟨g, 3, none⟩) (Nat.le_refl _) (.slice da2 y.1.ds.length dc2)).setCell (p := ⟨g, 4, none⟩) (Nat.le_refl _) (.int .i64 y.1.k)).setCell (p := ⟨g, 5, none⟩) (Nat.le_refl _) (.int .i64 y.1.nt)).setCell (p := ⟨g, 6, none⟩) (Nat.le_refl _) (.int .i64 y.1.nr)).setCell (p := ⟨g, 7, none⟩) (Nat.le_refl _) (.int .i64 y.1.pt)).setCell (p := ⟨g, 8, none⟩) (Nat.le_refl _) (.int .i64 y.1.pr)).setCell (p := ⟨g, 9, none⟩) (Nat.le_refl _) (.string y.1.s)).setCell (p := ⟨g, 10, none⟩) (Nat.le_refl _) (.int .i64 y.1.p)).setCell (p := ⟨g, 11, none⟩) (Nat.le_refl _) (.int .i64 y.1.v)⟩
end
theorem FrS.start {w w1 : World} {g : Nat} (x : OpD) (da : Option Addr) (dc : Nat) (v : List Int) (wv : Value) (hg : w.heap.size = g) (h1 : 1 ≤ v.length) (hr : RowK .i64 w da x.1.ds)
    (hb : Below ((w.alloc (objO x da x.1.ds.length dc)).alloc (.cells #[.slice none 0 0] 22)).heap.size ((w.alloc (objO x da x.1.ds.length dc)).alloc (.cells #[.slice none 0 0] 22)) w1) (ho : OwnK .i64 3 w1 ((w.alloc (objO x da x.1.ds.length dc)).alloc (.cells #[.slice none 0 0] 22)).heap.size wv v) :
    ∃ gw cw, wv = .slice (some ⟨gw, 0, none⟩) v.length cw ∧ FrS w (w1.setCell ⟨g + 1, 0, none⟩ wv) g gw cw v.length v 0 none 0 [] [] x da dc := by
  have hsz : ((w.alloc (objO x da x.1.ds.length dc)).alloc (.cells #[.slice none 0 0] 22)).heap.size = g + 2 := by simp [hg]
  have hB0 : Below w.heap.size w w1 := (St.below2 w _ _).trans (hb.mono (by omega))
  have hX : Blk w1 g (x.1.cells x.2 (.slice da x.1.ds.length dc)) := by
    have a := ((blkX_new w x da x.1.ds.length dc).next (box_bel _ (.cells #[.slice none 0 0] 22))).next hb
    rw [hg] at a
    exact a
  have hC : Blk w1 (g + 1) [.slice none 0 0] := by
    have a : Blk ((w.alloc (objO x da x.1.ds.length dc)).alloc (.cells #[.slice none 0 0] 22)) (w.alloc (objO x da x.1.ds.length dc)).heap.size [.slice none 0 0] :=
      ⟨fun i u hi => by
        match i, hi with
        | 0, hi => simp only [List.getElem?_cons_zero, Option.some.injEq] at hi; subst hi; simp
        | i + 1, hi => simp at hi, fun i u hi => World.frozen?_alloc_at (w := w.alloc (objO x da x.1.ds.length dc)) _ _ _ _ rfl⟩
    have b := a.next hb
    rw [World.size_alloc, hg] at b
    exact b
  rw [hsz] at ho
  obtain ⟨gw, cw, rfl, hgw⟩ := ho.formS h1
  refine ⟨gw, cw, rfl, hg, rfl, ho.far (show g + 1 < g + 2 by omega) 0 _, hX.other (by omega) _ _, ?_, hr, rfl, (OwnO.nil _ _), DepsO.nil _ _, fun d hd => by simp at hd, ?_⟩
  · have := hC.set 0 (.slice (some ⟨gw, 0, none⟩) v.length cw)
    exact this
  · rw [hg] at hB0
    exact hB0.setCell (p := ⟨g + 1, 0, none⟩) (by show g ≤ g + 1; omega) _
end Go.Proofs.YtdpopdlifcjdeaaDoor

/- Hold: what one operation sets free: goto. -/
namespace Go.Proofs.YtdpopdlifcjdeaaDoor
open Go.RowKit Go.Lib
set_option linter.unusedVariables false

def FreeJ (va : Option Addr) (vn vc : Nat) (ha : Option Addr) (n c : Nat) (o : OpD) (oa : Option Addr) (oc : Nat) (w : World) (g : Nat) (hs : List OpD) (fin : List Int × List OpD) (act : Act) (W : World) : Prop :=
  ∃ (gw cw : Nat) (v : List Int) (k : Nat) (ta : Option Addr) (tc : Nat) (tk : List OpD) (dl : List Value) (x : OpD) (da : Option Addr) (dc : Nat) (u3 u4 u8 u9 u10 u11 u12 u13 u14 u15 u16 u17 u18 u19 u20 u21 u22 u23 u24 u25 u26 u27 u28 u29 u30 u31 u32 u33 : Value), act = { tmps := #[.slice va vn vc, .slice ha n c, valO o oa o.1.ds.length oc, u3, u4, .pointer (some ⟨g, 0, none⟩), .pointer (some ⟨g + 1, 0, none⟩), .slice ta k tc, u8, u9, u10, u11, u12, u13, u14, u15, u16, u17, u18, u19, u20, u21, u22, u23, u24, u25, u26, u27, u28, u29, u30, u31, u32, u33], defers := [] } ∧ FrM hs fin v tk x ∧ FrS w W g gw cw vn v k ta tc tk dl x da dc
def FreePost (fin : List Int × List OpD) (w : World) (e : Ending) (w' : World) : Prop := ∃ gw cw n tv dl, e = .returned (.tuple #[.slice (some ⟨gw, 0, none⟩) n cw, tv]) ∧ n = fin.1.length ∧ OwnK .i64 3 w' w.heap.size (.slice (some ⟨gw, 0, none⟩) n cw) fin.1 ∧ OwnO w' w.heap.size tv fin.2 dl ∧ DepsO w' w.heap.size fin.2 dl ∧ (∀ d ∈ dl, d.ownBlock = none ∨ d.ownBlock ≠ some gw) ∧ Below w.heap.size w w'
theorem free_end {w W : World} {g gw cw vn : Nat} {v : List Int} {k : Nat} {ta : Option Addr} {tc : Nat} {tk : List OpD} {dl : List Value} {x : OpD} {da : Option Addr} {dc : Nat} {fin : List Int × List OpD} (h : FrS w W g gw cw vn v k ta tc tk dl x da dc) (hf : fin = (v, tk)) : FreePost fin w (.returned (.tuple #[.slice (some ⟨gw, 0, none⟩) vn cw, .slice ta k tc])) W := by
  subst hf
  have := h.hg
  exact ⟨gw, cw, vn, _, dl, rfl, h.len.symm, h.own.mono (by omega), h.tak.mono (by omega), h.dep.mono (by omega), h.apt, by rw [this]; exact h.bel⟩

theorem FrS.recel {w W : World} {g gw cw vn : Nat} {v : List Int} {k : Nat} {ta : Option Addr} {tc : Nat} {tk : List OpD} {dl : List Value} {x : OpD} {da : Option Addr} {dc : Nat} (h : FrS w W g gw cw vn v k ta tc tk dl x da dc) : FrS w (W.setCell ⟨g + 1, 0, none⟩ (.slice (some ⟨gw, 0, none⟩) vn cw)) g gw cw vn v k ta tc tk dl x da dc := by
  have h1 := h.lt
  refine ⟨h.hg, h.len, h.own.far (show g + 1 < g + 2 by omega) 0 _, h.box.other (by omega) _ _, ?_, h.row, h.kl, h.tak.far (show g + 1 < g + 2 by omega) 0 _, h.dep.far (show g + 1 < g + 2 by omega) 0 _, h.apt, h.bel.setCell (p := ⟨g + 1, 0, none⟩) (by show g ≤ g + 1; omega) _⟩
  exact h.cel.set 0 (.slice (some ⟨gw, 0, none⟩) vn cw)

set_option maxHeartbeats 8000000 in
set_option maxRecDepth 100000 in
theorem free_any (va : Option Addr) (v0 : List Int) (vn vc : Nat) (ha : Option Addr) (hs : List OpD) (n c : Nat) (o : OpD) (oa : Option Addr) (oc : Nat) (w : World) (ht : Pr.Tab w) (hv : RowK .i64 w va v0) (hvn : vn = v0.length) (hr : RowO w ha hs) (hn : n = hs.length) (hl : n ≤ 16) (hro : RowK .i64 w oa o.1.ds) (hfo : fitsB v0 o = true) (hfh : ∀ y ∈ hs, fitsB v0 y = true) :
    Calls Tryd.prog 42 #[.slice va vn vc, .slice ha n c, valO o oa o.1.ds.length oc] w (FreePost (freeG hs hs.length (setV v0 o) [o]) w) := by
  have mixed : Tryd.prog.follows .mixedOrders = true := by kernel_rfl
  obtain ⟨g, hg⟩ : ∃ g, w.heap.size = g := ⟨_, rfl⟩
  have HA := Lib.hid hr
  have HN := Lib.hid hn
  have HT := Lib.hid ht
  have hv1 := Hv.vecB_len (fits_iff.1 hfo).1
  have HM0 := Lib.hid (FrM.start hfo hfh)
  obtain ⟨fin, hfin⟩ : ∃ fin, freeG hs hs.length (setV v0 o) [o] = fin := ⟨_, rfl⟩
  rw [hfin] at HM0 ⊢
  have HG := Lib.hid hg
  have C := Lib.hid (clone_any va v0 vn vc ((w.alloc (objO o oa o.1.ds.length oc)).alloc (.cells #[.slice none 0 0] 22)) (hv.below (St.below2 w _ _) (Nat.le_refl _)) hvn hv1.1 (by omega))
  have HS0 := Lib.hid (fun w1 wv hb ho => FrS.start (w1 := w1) o oa oc v0 wv hg hv1.1 hro hb ho)
  have HVN := Lib.hid hvn
  have hC1 : ∀ w1, Below ((w.alloc (objO o oa o.1.ds.length oc)).alloc (.cells #[.slice none 0 0] 22)).heap.size ((w.alloc (objO o oa o.1.ds.length oc)).alloc (.cells #[.slice none 0 0] 22)) w1 → w1.cell? ⟨g + 1, 0, none⟩ = some (.slice none 0 0) ∧ w1.frozen? ⟨g + 1, 0, none⟩ = false := fun w1 hb => by
    have e : ((w.alloc (objO o oa o.1.ds.length oc)).alloc (.cells #[.slice none 0 0] 22)).heap.size = g + 2 := by simp [hg]
    rw [e] at hb
    refine ⟨(hb.cell (p := ⟨g + 1, 0, none⟩) (by show g + 1 < g + 2; omega)).trans (by rw [← hg]; simp), (hb.frozen (p := ⟨g + 1, 0, none⟩) (by show g + 1 < g + 2; omega)).trans ?_⟩
    exact World.frozen?_alloc_at (w := w.alloc (objO o oa o.1.ds.length oc)) _ _ _ _ (by rw [World.size_alloc, hg])
  have HC1 := Lib.hid hC1
  clear hr hn ht hv hvn hro hfo hfh hfin hv1 hC1
  go_enter Tryd.func42, Tryd.ntmps42
  go_wp2
  refine wp_scope_jumps 0 (FreeJ va vn vc ha n c o oa oc w g hs fin) (fun a' _ => n + 1 - Hv.lenOfS (a'.tmps.getD 7 undef)) rfl ?_ ?_
  · go_wp2_with fail
    refine (C.out).mono ?_
    rintro e w1 ⟨wv, rfl, ho, hb⟩
    obtain ⟨gw, cw, rfl, hs0⟩ := HS0.out w1 wv hb ho
    obtain ⟨e1, e2⟩ := HC1.out w1 hb
    have HS := Lib.hid hs0
    have HM := HM0
    clear ho hb HS0 HC1 C hs0 HM0
    rw [← HVN.out] at HS ⊢
    go_wp2_with fail
    go_step3
    clear e1 e2
    generalize w1.setCell ⟨g + 1, 0, none⟩ (.slice (some ⟨gw, 0, none⟩) vn cw) = W at *
    have hok := (fits_iff.1 HM.out.fx).2.1
    have F := ok_facts hok
    have hlt := fits_lt HM.out.fx
    have hlen := HS.out.len
    obtain ⟨rn, hrn⟩ : ∃ rn : Nat, o.1.r = rn := ⟨o.1.r.toNat, by have := F.r0; omega⟩
    have hrl : rn < vn := by omega
    have hrl2 : (rn : Int) < (vn : Int) := by omega
    obtain ⟨gc, gf, -, -⟩ := OwnK.cellAt HS.out.len HS.out.own rn hrl
    have HW : Hid (FrS w (W.setCell ⟨gw, rn, none⟩ (.int .i64 o.2)) g gw cw vn (setV v0 o) 0 none 0 ([] : List OpD) ([] : List Value) o oa oc) := by
      have h := HS.out.write
      rw [show o.1.r.toNat = rn by omega] at h
      exact h
    have bx1 : W.cell? ⟨g, 1, none⟩ = some (.int .i64 (rn : Int)) := by
      have h := HS.out.box.cell 1 _ rfl
      rw [hrn] at h
      exact h
    have bx2 : W.cell? ⟨g, 2, none⟩ = some (.int .i64 o.2) := HS.out.box.cell 2 _ rfl
    have cl0 : W.cell? ⟨g + 1, 0, none⟩ = some (.slice (some ⟨gw, 0, none⟩) vn cw) := HS.out.cel.cell 0 _ rfl
    have d0 : (W.setCell ⟨gw, rn, none⟩ (.int .i64 o.2)).cell? ⟨g, 0, none⟩ = some (.int .i64 o.1.t) := HW.out.box.cell 0 _ rfl
    have d1 : (W.setCell ⟨gw, rn, none⟩ (.int .i64 o.2)).cell? ⟨g, 1, none⟩ = some (.int .i64 o.1.r) := HW.out.box.cell 1 _ rfl
    have d2 : (W.setCell ⟨gw, rn, none⟩ (.int .i64 o.2)).cell? ⟨g, 2, none⟩ = some (.int .i64 o.2) := HW.out.box.cell 2 _ rfl
    have d3 : (W.setCell ⟨gw, rn, none⟩ (.int .i64 o.2)).cell? ⟨g, 3, none⟩ = some (.slice oa o.1.ds.length oc) := HW.out.box.cell 3 _ rfl
    have d4 : (W.setCell ⟨gw, rn, none⟩ (.int .i64 o.2)).cell? ⟨g, 4, none⟩ = some (.int .i64 o.1.k) := HW.out.box.cell 4 _ rfl
    have d5 : (W.setCell ⟨gw, rn, none⟩ (.int .i64 o.2)).cell? ⟨g, 5, none⟩ = some (.int .i64 o.1.nt) := HW.out.box.cell 5 _ rfl
    have d6 : (W.setCell ⟨gw, rn, none⟩ (.int .i64 o.2)).cell? ⟨g, 6, none⟩ = some (.int .i64 o.1.nr) := HW.out.box.cell 6 _ rfl
    have d7 : (W.setCell ⟨gw, rn, none⟩ (.int .i64 o.2)).cell? ⟨g, 7, none⟩ = some (.int .i64 o.1.pt) := HW.out.box.cell 7 _ rfl
    have d8 : (W.setCell ⟨gw, rn, none⟩ (.int .i64 o.2)).cell? ⟨g, 8, none⟩ = some (.int .i64 o.1.pr) := HW.out.box.cell 8 _ rfl
    have d9 : (W.setCell ⟨gw, rn, none⟩ (.int .i64 o.2)).cell? ⟨g, 9, none⟩ = some (.string o.1.s) := HW.out.box.cell 9 _ rfl
    have d10 : (W.setCell ⟨gw, rn, none⟩ (.int .i64 o.2)).cell? ⟨g, 10, none⟩ = some (.int .i64 o.1.p) := HW.out.box.cell 10 _ rfl
    have d11 : (W.setCell ⟨gw, rn, none⟩ (.int .i64 o.2)).cell? ⟨g, 11, none⟩ = some (.int .i64 o.1.v) := HW.out.box.cell 11 _ rfl
    have CP := Lib.hid (copied_any o oa oc (W.setCell ⟨gw, rn, none⟩ (.int .i64 o.2)) HW.out.rowW hok)
    have HDM : Hid (o.1.ds.length ≤ 17592186044416) := by have := ok_len hok; show _ ≤ _; omega
    have HKN : Hid (([] : List OpD).length ≤ 16) := by have h1 := HM.out.ct; have h2 := HN.out; show _ ≤ _; omega
    have IX : Hid (∀ W2 k2 ta2 tc2 tk2 dl2, FrS w W2 g gw cw vn (setV v0 o) k2 ta2 tc2 tk2 dl2 o oa oc → Calls Tryd.prog 63 #[.slice ha n c, .func (.func 64) #[] #[.pointer (some ⟨g + 1, 0, none⟩)]] W2 (IdxPost W2 hs (readyB (setV v0 o)))) := fun W2 k2 ta2 tc2 tk2 dl2 h2 => by
      have hbw : Below w.heap.size w W2 := by rw [HG.out]; exact h2.bel
      exact idx_any 64 _ (readyB (setV v0 o)) eg64 ha hs n c W2 (HA.out.below hbw) HN.out (by have := HN.out; omega) (fun W3 y da2 dc2 hy hb3 hrow hdm => free1_any (some ⟨gw, 0, none⟩) (setV v0 o) vn cw y da2 y.1.ds.length dc2 (g + 1) W3 (HT.out.below (hbw.trans (hb3.mono hbw.size)) HT.out.lt) ((h2.next hb3).cel.cell 0 _ rfl) (h2.next hb3).vec h2.len.symm hrow rfl (fits_set HM.out.fx (HM.out.fh y hy)))
    have hsz : g + 2 ≤ W.heap.size := by have := HS.out.lt; omega
    clear hok F hlt hlen hrn
    go_wp2_with fail
    refine (CP.out).mono ?_
    rintro e w2 ⟨da1, dc1, rfl, ho1, hb1⟩
    have HB1 := Lib.hid hb1
    have HO1 := Lib.hid ho1
    clear hb1 ho1 CP bx1 bx2 cl0 gc gf d0 d1 d2 d3 d4 d5 d6 d7 d8 d9 d10 d11
    go_wp2_with (at_builtin
                 refine wpO_one rfl _ _ rfl (g + 2) w2 (.slice none 0 0) ([] : List OpD) ([] : List Value) o.1.t o.1.r o.2 da1 o.1.ds o.1.ds.length dc1 o.1.k o.1.nt o.1.nr o.1.pt o.1.pr o.1.s o.1.p o.1.v rfl (HW.out.tak.below HB1.out) _ rfl rfl (by have := HKN.out; omega) (by have h1 := HB1.out.size; rw [World.size_setCell] at h1; omega) ?_
                 intro v6 w6 hp6
                 obtain ⟨ta2, tc2, rfl, hs2⟩ := FrS.push HW.out HB1.out HO1.out HDM.out hp6
                 have HS3 := Lib.hid hs2
                 clear hp6 hs2)
    refine (IX.out _ _ _ _ _ _ HS3.out).mono ?_
    rintro e w7 ⟨z, rfl, hz, hb7⟩
    have HS4 := Lib.hid (HS3.out.next hb7)
    clear hb7 IX
    rcases hz with ⟨rfl, hnone⟩ | ⟨k2, y, rfl, hk2, hsome⟩
    · have HE := Lib.hid (HM.out.done hnone)
      have z0 : w7.cell? ⟨g + 1, 0, none⟩ = some (.slice (some ⟨gw, 0, none⟩) vn cw) := HS4.out.cel.cell 0 _ rfl
      have zf : w7.frozen? ⟨g + 1, 0, none⟩ = false := HS4.out.cel.free 0 _ rfl
      have z1 : (w7.setCell ⟨g + 1, 0, none⟩ (.slice (some ⟨gw, 0, none⟩) vn cw)).cell? ⟨g + 1, 0, none⟩ = some (.slice (some ⟨gw, 0, none⟩) vn cw) := HS4.out.recel.cel.cell 0 _ rfl
      clear hnone
      go_wp2_with fail
      simp only [Exit.jump]
      refine bodyPost_ret (v := .tuple #[.slice (some ⟨gw, 0, none⟩) vn cw, .slice ta2 (0 + 1) tc2]) (by simp [results, Tryd.results42, go_sem, z1]) rfl ?_
      exact free_end HS4.out.recel HE.out
    · have HK2 := Lib.hid hk2
      have HM2 := Lib.hid (HM.out.next hsome)
      have hk2n : k2 < n := by have h1 := (List.getElem?_eq_some_iff.1 hk2).1; have h2 := HN.out; omega
      have hk2z : (k2 : Int) < (n : Int) := by omega
      have hk0 : (0 : Int) ≤ (k2 : Int) := by omega
      obtain ⟨b, off, rfl, da2, dc2, hat, hrow, hdm⟩ := HA.out k2 y hk2
      have HRW := Lib.hid hrow
      obtain ⟨c0, c1, c2, c3, c4, c5, c6, c7, c8, c9, c10, c11⟩ := hat.below HS4.out.bel (by have := hat.lt; have := HG.out; omega)
      have b0 := HS4.out.box.cell 0 _ rfl
      have f0 := HS4.out.box.free 0 _ rfl
      have b1 := HS4.out.box.cell 1 _ rfl
      have f1 := HS4.out.box.free 1 _ rfl
      have b2 := HS4.out.box.cell 2 _ rfl
      have f2 := HS4.out.box.free 2 _ rfl
      have b3 := HS4.out.box.cell 3 _ rfl
      have f3 := HS4.out.box.free 3 _ rfl
      have b4 := HS4.out.box.cell 4 _ rfl
      have f4 := HS4.out.box.free 4 _ rfl
      have b5 := HS4.out.box.cell 5 _ rfl
      have f5 := HS4.out.box.free 5 _ rfl
      have b6 := HS4.out.box.cell 6 _ rfl
      have f6 := HS4.out.box.free 6 _ rfl
      have b7 := HS4.out.box.cell 7 _ rfl
      have f7 := HS4.out.box.free 7 _ rfl
      have b8 := HS4.out.box.cell 8 _ rfl
      have f8 := HS4.out.box.free 8 _ rfl
      have b9 := HS4.out.box.cell 9 _ rfl
      have f9 := HS4.out.box.free 9 _ rfl
      have b10 := HS4.out.box.cell 10 _ rfl
      have f10 := HS4.out.box.free 10 _ rfl
      have b11 := HS4.out.box.cell 11 _ rfl
      have f11 := HS4.out.box.free 11 _ rfl
      have HS5 := Lib.hid (HS4.out.rebox (y := y) (da2 := da2) (dc2 := dc2) HRW.out)
      clear hk2 hsome hat hrow hdm
      go_wp2_with fail
      go_step3
      exact ⟨rfl, _, _, _, _, _, _, _, _, _, _, _, _, _, _, _, _, _, _, _, _, _, _, _, _, _, _, _, _, _, _, _, _, _, _, _, _, _, _, _, rfl, HM2.out.1, HS5.out⟩
  · rintro a' W ⟨gw, cw, v, k, ta, tc, tk, dl, x, da, dc, u3, u4, u8, u9, u10, u11, u12, u13, u14, u15, u16, u17, u18, u19, u20, u21, u22, u23, u24, u25, u26, u27, u28, u29, u30, u31, u32, u33, rfl, hM, hS⟩
    have HM := Lib.hid hM
    have HS := Lib.hid hS
    clear hM hS HM0 HS0 HC1 C
    have hok := (fits_iff.1 HM.out.fx).2.1
    have F := ok_facts hok
    have hlt := fits_lt HM.out.fx
    have hlen := HS.out.len
    obtain ⟨rn, hrn⟩ : ∃ rn : Nat, x.1.r = rn := ⟨x.1.r.toNat, by have := F.r0; omega⟩
    have hrl : rn < vn := by omega
    have hrl2 : (rn : Int) < (vn : Int) := by omega
    obtain ⟨gc, gf, -, -⟩ := OwnK.cellAt HS.out.len HS.out.own rn hrl
    have HW : Hid (FrS w (W.setCell ⟨gw, rn, none⟩ (.int .i64 x.2)) g gw cw vn (setV v x) k ta tc tk dl x da dc) := by
      have h := HS.out.write
      rw [show x.1.r.toNat = rn by omega] at h
      exact h
    have bx1 : W.cell? ⟨g, 1, none⟩ = some (.int .i64 (rn : Int)) := by
      have h := HS.out.box.cell 1 _ rfl
      rw [hrn] at h
      exact h
    have bx2 : W.cell? ⟨g, 2, none⟩ = some (.int .i64 x.2) := HS.out.box.cell 2 _ rfl
    have cl0 : W.cell? ⟨g + 1, 0, none⟩ = some (.slice (some ⟨gw, 0, none⟩) vn cw) := HS.out.cel.cell 0 _ rfl
    have d0 : (W.setCell ⟨gw, rn, none⟩ (.int .i64 x.2)).cell? ⟨g, 0, none⟩ = some (.int .i64 x.1.t) := HW.out.box.cell 0 _ rfl
    have d1 : (W.setCell ⟨gw, rn, none⟩ (.int .i64 x.2)).cell? ⟨g, 1, none⟩ = some (.int .i64 x.1.r) := HW.out.box.cell 1 _ rfl
    have d2 : (W.setCell ⟨gw, rn, none⟩ (.int .i64 x.2)).cell? ⟨g, 2, none⟩ = some (.int .i64 x.2) := HW.out.box.cell 2 _ rfl
    have d3 : (W.setCell ⟨gw, rn, none⟩ (.int .i64 x.2)).cell? ⟨g, 3, none⟩ = some (.slice da x.1.ds.length dc) := HW.out.box.cell 3 _ rfl
    have d4 : (W.setCell ⟨gw, rn, none⟩ (.int .i64 x.2)).cell? ⟨g, 4, none⟩ = some (.int .i64 x.1.k) := HW.out.box.cell 4 _ rfl
    have d5 : (W.setCell ⟨gw, rn, none⟩ (.int .i64 x.2)).cell? ⟨g, 5, none⟩ = some (.int .i64 x.1.nt) := HW.out.box.cell 5 _ rfl
    have d6 : (W.setCell ⟨gw, rn, none⟩ (.int .i64 x.2)).cell? ⟨g, 6, none⟩ = some (.int .i64 x.1.nr) := HW.out.box.cell 6 _ rfl
    have d7 : (W.setCell ⟨gw, rn, none⟩ (.int .i64 x.2)).cell? ⟨g, 7, none⟩ = some (.int .i64 x.1.pt) := HW.out.box.cell 7 _ rfl
    have d8 : (W.setCell ⟨gw, rn, none⟩ (.int .i64 x.2)).cell? ⟨g, 8, none⟩ = some (.int .i64 x.1.pr) := HW.out.box.cell 8 _ rfl
    have d9 : (W.setCell ⟨gw, rn, none⟩ (.int .i64 x.2)).cell? ⟨g, 9, none⟩ = some (.string x.1.s) := HW.out.box.cell 9 _ rfl
    have d10 : (W.setCell ⟨gw, rn, none⟩ (.int .i64 x.2)).cell? ⟨g, 10, none⟩ = some (.int .i64 x.1.p) := HW.out.box.cell 10 _ rfl
    have d11 : (W.setCell ⟨gw, rn, none⟩ (.int .i64 x.2)).cell? ⟨g, 11, none⟩ = some (.int .i64 x.1.v) := HW.out.box.cell 11 _ rfl
    have CP := Lib.hid (copied_any x da dc (W.setCell ⟨gw, rn, none⟩ (.int .i64 x.2)) HW.out.rowW hok)
    have HDM : Hid (x.1.ds.length ≤ 17592186044416) := by have := ok_len hok; show _ ≤ _; omega
    have HKN : Hid (tk.length ≤ 16) := by have h1 := HM.out.ct; have h2 := HN.out; show _ ≤ _; omega
    have IX : Hid (∀ W2 k2 ta2 tc2 tk2 dl2, FrS w W2 g gw cw vn (setV v x) k2 ta2 tc2 tk2 dl2 x da dc → Calls Tryd.prog 63 #[.slice ha n c, .func (.func 64) #[] #[.pointer (some ⟨g + 1, 0, none⟩)]] W2 (IdxPost W2 hs (readyB (setV v x)))) := fun W2 k2 ta2 tc2 tk2 dl2 h2 => by
      have hbw : Below w.heap.size w W2 := by rw [HG.out]; exact h2.bel
      exact idx_any 64 _ (readyB (setV v x)) eg64 ha hs n c W2 (HA.out.below hbw) HN.out (by have := HN.out; omega) (fun W3 y da2 dc2 hy hb3 hrow hdm => free1_any (some ⟨gw, 0, none⟩) (setV v x) vn cw y da2 y.1.ds.length dc2 (g + 1) W3 (HT.out.below (hbw.trans (hb3.mono hbw.size)) HT.out.lt) ((h2.next hb3).cel.cell 0 _ rfl) (h2.next hb3).vec h2.len.symm hrow rfl (fits_set HM.out.fx (HM.out.fh y hy)))
    have hsz : g + 2 ≤ W.heap.size := by have := HS.out.lt; omega
    clear hok F hlt hlen hrn
    go_wp2_with fail
    refine (CP.out).mono ?_
    rintro e w2 ⟨da1, dc1, rfl, ho1, hb1⟩
    have HB1 := Lib.hid hb1
    have HO1 := Lib.hid ho1
    clear hb1 ho1 CP bx1 bx2 cl0 gc gf d0 d1 d2 d3 d4 d5 d6 d7 d8 d9 d10 d11
    go_wp2_with (at_builtin
                 refine wpO_one rfl _ _ rfl (g + 2) w2 (.slice ta k tc) tk dl x.1.t x.1.r x.2 da1 x.1.ds x.1.ds.length dc1 x.1.k x.1.nt x.1.nr x.1.pt x.1.pr x.1.s x.1.p x.1.v rfl (HW.out.tak.below HB1.out) _ rfl rfl (by have := HKN.out; omega) (by have h1 := HB1.out.size; rw [World.size_setCell] at h1; omega) ?_
                 intro v6 w6 hp6
                 obtain ⟨ta2, tc2, rfl, hs2⟩ := FrS.push HW.out HB1.out HO1.out HDM.out hp6
                 have HS3 := Lib.hid hs2
                 clear hp6 hs2)
    refine (IX.out _ _ _ _ _ _ HS3.out).mono ?_
    rintro e w7 ⟨z, rfl, hz, hb7⟩
    have HS4 := Lib.hid (HS3.out.next hb7)
    clear hb7 IX
    rcases hz with ⟨rfl, hnone⟩ | ⟨k2, y, rfl, hk2, hsome⟩
    · have HE := Lib.hid (HM.out.done hnone)
      have z0 : w7.cell? ⟨g + 1, 0, none⟩ = some (.slice (some ⟨gw, 0, none⟩) vn cw) := HS4.out.cel.cell 0 _ rfl
      have zf : w7.frozen? ⟨g + 1, 0, none⟩ = false := HS4.out.cel.free 0 _ rfl
      have z1 : (w7.setCell ⟨g + 1, 0, none⟩ (.slice (some ⟨gw, 0, none⟩) vn cw)).cell? ⟨g + 1, 0, none⟩ = some (.slice (some ⟨gw, 0, none⟩) vn cw) := HS4.out.recel.cel.cell 0 _ rfl
      clear hnone
      go_wp2_with fail
      simp only [Exit.jump]
      refine bodyPost_ret (v := .tuple #[.slice (some ⟨gw, 0, none⟩) vn cw, .slice ta2 (k + 1) tc2]) (by simp [results, Tryd.results42, go_sem, z1]) rfl ?_
      exact free_end HS4.out.recel HE.out
    · have HK2 := Lib.hid hk2
      have HM2 := Lib.hid (HM.out.next hsome)
      have hk2n : k2 < n := by have h1 := (List.getElem?_eq_some_iff.1 hk2).1; have h2 := HN.out; omega
      have hk2z : (k2 : Int) < (n : Int) := by omega
      have hk0 : (0 : Int) ≤ (k2 : Int) := by omega
      obtain ⟨b, off, rfl, da2, dc2, hat, hrow, hdm⟩ := HA.out k2 y hk2
      have HRW := Lib.hid hrow
      obtain ⟨c0, c1, c2, c3, c4, c5, c6, c7, c8, c9, c10, c11⟩ := hat.below HS4.out.bel (by have := hat.lt; have := HG.out; omega)
      have b0 := HS4.out.box.cell 0 _ rfl
      have f0 := HS4.out.box.free 0 _ rfl
      have b1 := HS4.out.box.cell 1 _ rfl
      have f1 := HS4.out.box.free 1 _ rfl
      have b2 := HS4.out.box.cell 2 _ rfl
      have f2 := HS4.out.box.free 2 _ rfl
      have b3 := HS4.out.box.cell 3 _ rfl
      have f3 := HS4.out.box.free 3 _ rfl
      have b4 := HS4.out.box.cell 4 _ rfl
      have f4 := HS4.out.box.free 4 _ rfl
      have b5 := HS4.out.box.cell 5 _ rfl
      have f5 := HS4.out.box.free 5 _ rfl
      have b6 := HS4.out.box.cell 6 _ rfl
      have f6 := HS4.out.box.free 6 _ rfl
      have b7 := HS4.out.box.cell 7 _ rfl
      have f7 := HS4.out.box.free 7 _ rfl
      have b8 := HS4.out.box.cell 8 _ rfl
      have f8 := HS4.out.box.free 8 _ rfl
      have b9 := HS4.out.box.cell 9 _ rfl
      have f9 := HS4.out.box.free 9 _ rfl
      have b10 := HS4.out.box.cell 10 _ rfl
      have f10 := HS4.out.box.free 10 _ rfl
      have b11 := HS4.out.box.cell 11 _ rfl
      have f11 := HS4.out.box.free 11 _ rfl
      have HS5 := Lib.hid (HS4.out.rebox (y := y) (da2 := da2) (dc2 := dc2) HRW.out)
      clear hk2 hsome hat hrow hdm
      go_wp2_with fail
      go_step3
      refine ⟨rfl, ⟨_, _, _, _, _, _, _, _, _, _, _, _, _, _, _, _, _, _, _, _, _, _, _, _, _, _, _, _, _, _, _, _, _, _, _, _, _, _, _, rfl, HM2.out.1, HS5.out⟩, ?_⟩
      have h1 := HM2.out.2
      have h2 := HN.out
      have h3 := HS.out.kl
      simp [Hv.lenOfS]
      omega
end Go.Proofs.YtdpopdlifcjdeaaDoor
