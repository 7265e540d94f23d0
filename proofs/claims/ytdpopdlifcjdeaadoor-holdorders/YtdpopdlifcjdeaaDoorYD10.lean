/- Joined: D10. -/
import Derived.Test.YtdpopdlifcjdeaaDoorYD9
import Derived.Test.YtdpopdlifcjdeaaDoorYH

/- Hold: what one operation sets free: what is held on the way. -/
namespace Go.Proofs.YtdpopdlifcjdeaaDoor
open Go.RowKit Go.Lib
set_option linter.unusedVariables false

theorem OwnK.formS {w : World} {base : Nat} {v : Value} {zs : List Int} (h : OwnK .i64 3 w base v zs) (h0 : 1 ≤ zs.length) : ∃ gw cw, v = .slice (some ⟨gw, 0, none⟩) zs.length cw ∧ base ≤ gw := by
  rcases h.2 with ⟨_, h1⟩ | ⟨g, cap, cur, e, hg, _⟩
  · omega
  · exact ⟨g, cap, e, hg⟩
theorem OwnK.belowB {kd : IntKind} {e : TypeId} {w w' : World} {base B : Nat} {v : Value} {zs : List Int} (h : OwnK kd e w base v zs) (hb : Below B w w') (hB : ∀ g, v.ownBlock = some g → g < B) : OwnK kd e w' base v zs := by
  refine ⟨h.1, ?_⟩
  rcases h.2 with hn | ⟨g, cap, cur, e1, h1, h2, h3⟩
  · exact .inl hn
  · exact .inr ⟨g, cap, cur, e1, h1, by rw [hb.block g (hB g (by rw [e1]; rfl))]; exact h2, h3⟩
theorem OwnO.belowB {w w' : World} {base B : Nat} {v : Value} {os : List OpD} {dl : List Value} (h : OwnO w base v os dl) (hb : Below B w w') (hB : ∀ g, v.ownBlock = some g → g < B) : OwnO w' base v os dl := by
  refine ⟨h.len, h.own.1, ?_⟩
  rcases h.own.2 with hn | ⟨g, cap, cur, e1, h1, h2, h3⟩
  · exact .inl hn
  · exact .inr ⟨g, cap, cur, e1, h1, by rw [hb.block g (hB g (by rw [e1]; rfl))]; exact h2, h3⟩

/-- what is held on the way: the vector's row, the operation's box, the vector's cell, what was taken -/
structure FrS (w W : World) (g gw cw vn : Nat) (v : List Int) (k : Nat) (ta : Option Addr) (tc : Nat) (tk : List OpD) (dl : List Value) (x : OpD) (da : Option Addr) (dc : Nat) : Prop where
  hg : w.heap.size = g
  len : v.length = vn
  own : OwnK .i64 3 W (g + 2) (.slice (some ⟨gw, 0, none⟩) vn cw) v
  box : Blk W g (x.1.cells x.2 (.slice da x.1.ds.length dc))
  cel : Blk W (g + 1) [.slice (some ⟨gw, 0, none⟩) vn cw]
  row : RowK .i64 w da x.1.ds
  kl : k = tk.length
  tak : OwnO W (g + 2) (.slice ta k tc) tk dl
  dep : DepsO W (g + 2) tk dl
  apt : ∀ d ∈ dl, d.ownBlock = none ∨ d.ownBlock ≠ some gw
  bel : Below g w W
section
variable {w W W' : World} {g gw cw vn : Nat} {v : List Int} {k : Nat} {ta : Option Addr} {tc : Nat} {tk : List OpD} {dl : List Value} {x : OpD} {da : Option Addr} {dc : Nat}
theorem FrS.lt (h : FrS w W g gw cw vn v k ta tc tk dl x da dc) : g + 2 ≤ gw ∧ gw < W.heap.size := h.own.lt rfl
theorem FrS.next (h : FrS w W g gw cw vn v k ta tc tk dl x da dc) (hb : Below W.heap.size W W') : FrS w W' g gw cw vn v k ta tc tk dl x da dc := by
  have h1 := h.lt
  exact ⟨h.hg, h.len, h.own.below hb, h.box.next hb, h.cel.next hb, h.row, h.kl, h.tak.below hb, h.dep.below hb, h.apt, h.bel.trans (hb.mono (by omega))⟩
theorem FrS.rowW (h : FrS w W g gw cw vn v k ta tc tk dl x da dc) : RowK .i64 W da x.1.ds := h.row.below h.bel (Nat.le_of_eq h.hg)
theorem FrS.vec (h : FrS w W g gw cw vn v k ta tc tk dl x da dc) : RowK .i64 W (some ⟨gw, 0, none⟩) v := by
  obtain ⟨a, cap, e, hr, _⟩ := h.own.form
  injection e with e1
  rw [e1]
  exact hr
theorem FrS.write (h : FrS w W g gw cw vn v k ta tc tk dl x da dc) : FrS w (W.setCell ⟨gw, x.1.r.toNat, none⟩ (.int .i64 x.2)) g gw cw vn (setV v x) k ta tc tk dl x da dc := by
  have h1 := h.lt
  have hgr := grown_setCell W ⟨gw, x.1.r.toNat, none⟩ (.int .i64 x.2)
  have hne : (Value.slice ta k tc).ownBlock = none ∨ (Value.slice ta k tc).ownBlock ≠ some gw := by
    rcases apart_types h.own h.tak with e | e
    · cases e
    · exact .inr fun e2 => e (e2.symm ▸ rfl)
  refine ⟨h.hg, by rw [setV_len]; exact h.len, OwnK.stored h.len h.own _ _, h.box.other (by omega) _ _, h.cel.other (by omega) _ _, h.row, h.kl, h.tak.grown hgr hne, ⟨fun i y d hi hd => ?_, h.dep.apart⟩, h.apt, h.bel.setCell (p := ⟨gw, x.1.r.toNat, none⟩) (by show g ≤ gw; omega) _⟩
  have := h.dep.own i y d hi hd
  exact ⟨this.1.grown hgr (h.apt d (List.mem_of_getElem? hd)), this.2⟩
theorem FrS.push {W2 W3 : World} {d tv : Value} (h0 : FrS w W g gw cw vn v k ta tc tk dl x da dc) (hb : Below W.heap.size W W2) (hd : OwnK .i64 3 W2 W.heap.size d x.1.ds) (hl : x.1.ds.length ≤ 17592186044416) (hg2 : GrewO (g + 2) W2 (.slice ta k tc) tk dl x d tv W3) :
    ∃ ta' tc', tv = .slice ta' (k + 1) tc' ∧ FrS w W3 g gw cw vn v (k + 1) ta' tc' (tk ++ [x]) (dl ++ [d]) x da dc := by
  have h := h0.next hb
  have h1 := h0.lt
  have hs := hb.size
  obtain ⟨a, n, cap, e1, e2, -⟩ := hg2.own.form
  have hk := h.kl
  obtain rfl : n = k + 1 := by rw [e2, List.length_append, List.length_singleton, hk]
  subst e1
  have hB := hg2.bel (Below.refl (g + 2) W2) (Nat.le_refl _) (by omega)
  refine ⟨a, cap, rfl, h.hg, h.len, hg2.row h.own, h.box.below hB (by omega), h.cel.below hB (by omega), h.row, by rw [List.length_append, List.length_singleton, hk], hg2.own, ?_, ?_, h.bel.trans (hB.mono (by omega))⟩
  · exact DepsO.push (w0 := W) h0.dep h0.tak.len (hg2.deps h.dep) (hg2.row (hd.mono (by omega))) hl (fun g' hgg => (hd.lt hgg).1)
  · intro d' hd'
    rcases List.mem_append.1 hd' with hd' | hd'
    · exact h.apt d' hd'
    · rw [List.mem_singleton] at hd'
      subst hd'
      cases hdb : d'.ownBlock with
      | none => exact .inl rfl
      | some g' =>
        have := (hd.lt hdb).1
        exact .inr fun e => by injection e with e; omega
theorem FrS.rebox (h : FrS w W g gw cw vn v k ta tc tk dl x da dc) {y : OpD} {da2 : Option Addr} {dc2 : Nat} (hr : RowK .i64 w da2 y.1.ds) : FrS w ((((((((((((W.setCell ⟨g, 0, none⟩ (.int .i64 y.1.t)).setCell ⟨g, 1, none⟩ (.int .i64 y.1.r)).setCell ⟨g, 2, none⟩ (.int .i64 y.2)).setCell ⟨g, 3, none⟩ (.slice da2 y.1.ds.length dc2)).setCell ⟨g, 4, none⟩ (.int .i64 y.1.k)).setCell ⟨g, 5, none⟩ (.int .i64 y.1.nt)).setCell ⟨g, 6, none⟩ (.int .i64 y.1.nr)).setCell ⟨g, 7, none⟩ (.int .i64 y.1.pt)).setCell ⟨g, 8, none⟩ (.int .i64 y.1.pr)).setCell ⟨g, 9, none⟩ (.string y.1.s)).setCell ⟨g, 10, none⟩ (.int .i64 y.1.p)).setCell ⟨g, 11, none⟩ (.int .i64 y.1.v)) g gw cw vn v k ta tc tk dl y da2 dc2 := by
  have h1 := h.lt
  refine ⟨h.hg, h.len, ((((((((((((h.own).far (show g < g + 2 by omega) 0 (.int .i64 y.1.t)).far (show g < g + 2 by omega) 1 (.int .i64 y.1.r)).far (show g < g + 2 by omega) 2 (.int .i64 y.2)).far (show g < g + 2 by omega) 3 (.slice da2 y.1.ds.length dc2)).far (show g < g + 2 by omega) 4 (.int .i64 y.1.k)).far (show g < g + 2 by omega) 5 (.int .i64 y.1.nt)).far (show g < g + 2 by omega) 6 (.int .i64 y.1.nr)).far (show g < g + 2 by omega) 7 (.int .i64 y.1.pt)).far (show g < g + 2 by omega) 8 (.int .i64 y.1.pr)).far (show g < g + 2 by omega) 9 (.string y.1.s)).far (show g < g + 2 by omega) 10 (.int .i64 y.1.p)).far (show g < g + 2 by omega) 11 (.int .i64 y.1.v), ((((((((((((h.box).set 0 (.int .i64 y.1.t)).set 1 (.int .i64 y.1.r)).set 2 (.int .i64 y.2)).set 3 (.slice da2 y.1.ds.length dc2)).set 4 (.int .i64 y.1.k)).set 5 (.int .i64 y.1.nt)).set 6 (.int .i64 y.1.nr)).set 7 (.int .i64 y.1.pt)).set 8 (.int .i64 y.1.pr)).set 9 (.string y.1.s)).set 10 (.int .i64 y.1.p)).set 11 (.int .i64 y.1.v), ((((((((((((h.cel).other (b := g) (by omega) 0 (.int .i64 y.1.t)).other (b := g) (by omega) 1 (.int .i64 y.1.r)).other (b := g) (by omega) 2 (.int .i64 y.2)).other (b := g) (by omega) 3 (.slice da2 y.1.ds.length dc2)).other (b := g) (by omega) 4 (.int .i64 y.1.k)).other (b := g) (by omega) 5 (.int .i64 y.1.nt)).other (b := g) (by omega) 6 (.int .i64 y.1.nr)).other (b := g) (by omega) 7 (.int .i64 y.1.pt)).other (b := g) (by omega) 8 (.int .i64 y.1.pr)).other (b := g) (by omega) 9 (.string y.1.s)).other (b := g) (by omega) 10 (.int .i64 y.1.p)).other (b := g) (by omega) 11 (.int .i64 y.1.v), hr, h.kl, ((((((((((((h.tak).far (show g < g + 2 by omega) 0 (.int .i64 y.1.t)).far (show g < g + 2 by omega) 1 (.int .i64 y.1.r)).far (show g < g + 2 by omega) 2 (.int .i64 y.2)).far (show g < g + 2 by omega) 3 (.slice da2 y.1.ds.length dc2)).far (show g < g + 2 by omega) 4 (.int .i64 y.1.k)).far (show g < g + 2 by omega) 5 (.int .i64 y.1.nt)).far (show g < g + 2 by omega) 6 (.int .i64 y.1.nr)).far (show g < g + 2 by omega) 7 (.int .i64 y.1.pt)).far (show g < g + 2 by omega) 8 (.int .i64 y.1.pr)).far (show g < g + 2 by omega) 9 (.string y.1.s)).far (show g < g + 2 by omega) 10 (.int .i64 y.1.p)).far (show g < g + 2 by omega) 11 (.int .i64 y.1.v), ((((((((((((h.dep).far (show g < g + 2 by omega) 0 (.int .i64 y.1.t)).far (show g < g + 2 by omega) 1 (.int .i64 y.1.r)).far (show g < g + 2 by omega) 2 (.int .i64 y.2)).far (show g < g + 2 by omega) 3 (.slice da2 y.1.ds.length dc2)).far (show g < g + 2 by omega) 4 (.int .i64 y.1.k)).far (show g < g + 2 by omega) 5 (.int .i64 y.1.nt)).far (show g < g + 2 by omega) 6 (.int .i64 y.1.nr)).far (show g < g + 2 by omega) 7 (.int .i64 y.1.pt)).far (show g < g + 2 by omega) 8 (.int .i64 y.1.pr)).far (show g < g + 2 by omega) 9 (.string y.1.s)).far (show g < g + 2 by omega) 10 (.int .i64 y.1.p)).far (show g < g + 2 by omega) 11 (.int .i64 y.1.v), h.apt, ((((((((((((h.bel).setCell (p := ⟨g, 0, none⟩) (Nat.le_refl _) (.int .i64 y.1.t)).setCell (p := ⟨g, 1, none⟩) (Nat.le_refl _) (.int .i64 y.1.r)).setCell (p := ⟨g, 2, none⟩) (Nat.le_refl _) (.int .i64 y.2)).setCell (p := ⟨g, 3, none⟩) (Nat.le_refl _) (.slice da2 y.1.ds.length dc2)).setCell (p := ⟨g, 4, none⟩) (Nat.le_refl _) (.int .i64 y.1.k)).setCell (p := ⟨g, 5, none⟩) (Nat.le_refl _) (.int .i64 y.1.nt)).setCell (p := ⟨g, 6, none⟩) (Nat.le_refl _) (.int .i64 y.1.nr)).setCell (p := ⟨g, 7, none⟩) (Nat.le_refl _) (.int .i64 y.1.pt)).setCell (p := ⟨g, 8, none⟩) (Nat.le_refl _) (.int .i64 y.1.pr)).setCell (p := ⟨g, 9, none⟩) (Nat.le_refl _) (.string y.1.s)).setCell (p := ⟨g, 10, none⟩) (Nat.le_refl _) (.int .i64 y.1.p)).setCell (p := ⟨g, 11, none⟩) (Nat.le_refl _) (.int .i64 y.1.v)⟩
end
theorem FrS.start {w w1 : World} {g : Nat} (x : OpD) (da : Option Addr) (dc : Nat) (v : List Int) (wv : Value) (hg : w.heap.size = g) (h1 : 1 ≤ v.length) (hr : RowK .i64 w da x.1.ds)
    (hb : Below ((w.alloc (objO x da x.1.ds.length dc)).alloc (.cells #[.slice none 0 0] 22)).heap.size ((w.alloc (objO x da x.1.ds.length dc)).alloc (.cells #[.slice none 0 0] 22)) w1) (ho : OwnK .i64 3 w1 ((w.alloc (objO x da x.1.ds.length dc)).alloc (.cells #[.slice none 0 0] 22)).heap.size wv v) :
    ∃ gw cw, wv = .slice (some ⟨gw, 0, none⟩) v.length cw ∧ FrS w (w1.setCell ⟨g + 1, 0, none⟩ wv) g gw cw v.length v 0 none 0 [] [] x da dc := by
  have hsz : ((w.alloc (objO x da x.1.ds.length dc)).alloc (.cells #[.slice none 0 0] 22)).heap.size = g + 2 := by simp [hg]
  have hB0 : Below w.heap.size w w1 := (St.below2 w _ _).trans (hb.mono (by omega))
  have hX : Blk w1 g (x.1.cells x.2 (.slice da x.1.ds.length dc)) := by
    have a := ((blkX_new w x da x.1.ds.length dc).next (box_bel _ (.cells #[.slice none 0 0] 22))).next hb
    rw [hg] at a
    exact a
  have hC : Blk w1 (g + 1) [.slice none 0 0] := by
    have a : Blk ((w.alloc (objO x da x.1.ds.length dc)).alloc (.cells #[.slice none 0 0] 22)) (w.alloc (objO x da x.1.ds.length dc)).heap.size [.slice none 0 0] :=
      ⟨fun i u hi => by
        match i, hi with
        | 0, hi => simp only [List.getElem?_cons_zero, Option.some.injEq] at hi; subst hi; simp
        | i + 1, hi => simp at hi, fun i u hi => World.frozen?_alloc_at (w := w.alloc (objO x da x.1.ds.length dc)) _ _ _ _ rfl⟩
    have b := a.next hb
    rw [World.size_alloc, hg] at b
    exact b
  rw [hsz] at ho
  obtain ⟨gw, cw, rfl, hgw⟩ := ho.formS h1
  refine ⟨gw, cw, rfl, hg, rfl, ho.far (show g + 1 < g + 2 by omega) 0 _, hX.other (by omega) _ _, ?_, hr, rfl, (OwnO.nil _ _), DepsO.nil _ _, fun d hd => by simp at hd, ?_⟩
  · have := hC.set 0 (.slice (some ⟨gw, 0, none⟩) v.length cw)
    exact this
  · rw [hg] at hB0
    exact hB0.setCell (p := ⟨g + 1, 0, none⟩) (by show g ≤ g + 1; omega) _
end Go.Proofs.YtdpopdlifcjdeaaDoor
