/- Joined: TC3 TE9. -/
import Derived.Test.YtjlbpmmckgjajaaDoorYH
import Derived.Test.YtjlbpmmckgjajaaDoorYM
import Derived.Deep.RegionLaw

/- Trees: a node in memory of its own. -/
namespace Go.Proofs.YtjlbpmmckgjajaaDoor
open Go.RowKit Go.Lib Go.Maps
set_option linter.unusedVariables false

abbrev objN (x : ND) : Obj := .cells #[.int .i64 x.id.1, .int .i64 x.id.2, .int .i64 x.par.1, .int .i64 x.par.2, .string x.key] 44
theorem objN_new (w : World) (x : ND) : Blk (w.alloc (objN x)) w.heap.size x.enc := by
  constructor
  · intro i u hi
    match i, hi with
    | 0, hi | 1, hi | 2, hi | 3, hi | 4, hi => simp [ND.enc] at hi; subst hi; simp
    | _ + 5, hi => simp [ND.enc] at hi
  · intro i u hi
    exact World.frozen?_alloc_at (w := w) _ _ _ _ rfl
def zND : ND := ⟨(0, 0), (0, 0), ⟨#[]⟩⟩
theorem setsL_nd (x y : ND) : setsL y.enc 0 x.enc 0 = x.enc := by simp [setsL, ND.enc]
def ApartPost (x : ND) (w : World) (e : Ending) (w' : World) : Prop := e = .returned (valN x) ∧ Below w.heap.size w w'
set_option maxHeartbeats 2000000 in
set_option maxRecDepth 100000 in
theorem apart_any (x : ND) (w : World) (hk : x.key.size ≤ 65536) : Calls Tryd.prog 41 #[valN x] w (ApartPost x w) := by
  obtain ⟨g, hg⟩ : ∃ g, w.heap.size = g := ⟨_, rfl⟩
  obtain ⟨W, hW⟩ : ∃ W, (w.alloc (objN x)).alloc (.cells #[.int .i64 0, .int .i64 0, .int .i64 0, .int .i64 0, .string ⟨#[]⟩] 44) = W := ⟨_, rfl⟩
  have HB0 : Hid (Below w.heap.size w W) := by show Below _ _ _; rw [← hW]; exact St.below2 w _ _
  have HX : Hid (Blk W g x.enc) := by
    have h1 := (objN_new w x).next (box_bel _ (.cells #[.int .i64 0, .int .i64 0, .int .i64 0, .int .i64 0, .string ⟨#[]⟩] 44))
    rw [hW, hg] at h1
    exact h1
  have HR : Hid (Blk W (g + 1) zND.enc) := by
    have h1 := objN_new (w.alloc (objN x)) zND
    rw [World.size_alloc, hg] at h1
    rw [← hW]
    exact h1
  have HG := Lib.hid hg
  have D := Lib.hid (fun W2 => strClone_any x.key W2 hk)
  have x4 := HX.out.cell 4 _ rfl
  clear hk
  go_enter Tryd.func41, Tryd.ntmps41
  go_wp2_with fail
  clear hW hg x4
  refine (D.out _).mono ?_
  rintro e w2 ⟨rfl, hb2⟩
  have HX2 := Lib.hid (HX.out.next hb2)
  have HR2 := Lib.hid (HR.out.next hb2)
  have HB2 := Lib.hid (HB0.out.trans (hb2.mono HB0.out.size))
  clear hb2 HX HR HB0
  have y4 := HX2.out.cell 4 _ rfl
  have f4 := HX2.out.free 4 _ rfl
  go_upto_region 2 with fail
  clear y4 f4
  obtain ⟨w3, hw3⟩ : ∃ w3, w2.setCell ⟨g, 4, none⟩ (.string x.key) = w3 := ⟨_, rfl⟩
  have HX3 : Hid (Blk w3 g x.enc) := by
    have h1 := HX2.out.set 4 (.string x.key)
    rw [hw3] at h1
    exact h1
  have HR3 : Hid (Blk w3 (g + 1) zND.enc) := by
    have h1 := HR2.out.other (b := g) (by omega) 4 (.string x.key)
    rw [hw3] at h1
    exact h1
  have HB3 : Hid (Below w.heap.size w w3) := by
    have h1 := HB2.out.setCell (p := ⟨g, 4, none⟩) (by have := HG.out; show w.heap.size ≤ g; omega) (.string x.key)
    rw [hw3] at h1
    exact h1
  rw [hw3]
  clear hw3 HX2 HR2 HB2
  have hld := loadVar_is aggND sizeND rfl (HX3.out.cells)
  have hst := storeVar_is (T := 44) (g := g + 1) (o := 0) (cs := x.enc) sizeND rfl (flatN.one x) (fun j hj => by rw [Nat.zero_add, HR3.out.cell j _ (List.getElem?_eq_getElem (show j < 5 from hj))]; rfl) (fun j hj => by rw [Nat.zero_add]; exact HR3.out.free j _ (List.getElem?_eq_getElem (show j < 5 from hj)))
  have HZ4 : Hid (Blk (setsF w3 (g + 1) 0 x.enc 0) (g + 1) x.enc) := by
    have h := HR3.out.sets x.enc 0
    rw [setsL_nd] at h
    exact h
  have HB4 : Hid (Below w.heap.size w (setsF w3 (g + 1) 0 x.enc 0)) := by
    have hgr := setsF_grown (g + 1) 0 x.enc 0 w3
    have hg1 := HG.out
    have hb := HB3.out
    exact ⟨hgr.os.trans hb.os, hgr.tape.trans hb.tape, hgr.output.trans hb.output, Nat.le_trans hb.size hgr.size, fun k hk => (hgr.block k (Nat.lt_of_lt_of_le hk hb.size) (fun e => by injection e with e; omega)).trans (hb.block k hk)⟩
  generalize setsF w3 (g + 1) 0 x.enc 0 = w4 at hst HZ4 HB4
  have hrs := loadVar_is aggND sizeND rfl (HZ4.out.cells)
  refine wp_region_list ?_
  refine wpList_loadS rfl _ 44 rfl g 0 rfl _ hld ?_
  refine wpList_storeS rfl _ _ 44 rfl (g + 1) 0 rfl _ rfl hst ?_
  refine wpList_nil ?_
  clear hld hst
  go_wp2
  refine bodyPost_ret (results_cell Tryd.results41 _ ⟨g + 1, 0, none⟩ rfl hrs) rfl ?_
  exact ⟨rfl, HB4.out⟩
end Go.Proofs.YtjlbpmmckgjajaaDoor

/- Trees: the tree of the nodes as they are: words; its statement that copies a move. -/
namespace Go.Proofs.YtjlbpmmckgjajaaDoor
open Go.RowKit Go.Lib Go.Maps
set_option linter.unusedVariables false

section
variable {α : Type} {e st : TypeId} {k bytes : Nat} {enc : α → List Value}
set_option maxHeartbeats 400000 in
theorem stepF_row (F : Flat e st k bytes enc) {ops : Array Oper} {o : Oper} {a : Act} {K : Act → World → Prop} {Q : Exit → Act → World → Prop} {E : Prop} (hgd : o.guard = none) (s x : Operand)
    (ho : o.op = .call { callee := .builtin .append, args := #[s, x], argTypes := #[st, st] }) (base : Nat) (W W1 : World) (hB : W.grownBy W1 none) (v : Value) (xs ys : List α) (b : Option Addr) (n c : Nat) (hs : a.eval s = v) (hown : OwnF e k enc W base v xs)
    (hx : a.eval x = .slice b n c) (hn : n = ys.length) (hrow : RowF k enc W1 b ys) (hlen : (xs.length + ys.length) * bytes ≤ 140737488355328) (hbase : base ≤ W.heap.size)
    (h : ∀ v' w', GrewF e k enc base W v xs ys v' w' → K (a.put o.dst v') w') : if Region.wanted o (yielded ops a.tmps) = true then Oper.wp Tryd.prog o a W1 K Q else E := by
  have hw : Region.wanted o (yielded ops a.tmps) = true := by simp [Region.wanted, hgd]
  rw [if_pos hw]
  obtain ⟨v', w', hr, hg⟩ := runF_row F (ty := o.type) base W W1 v xs ys b n c hB hn hown hrow hlen hbase
  unfold Oper.wp execOp
  simp only [ho, resolve, invoke, builtin, Sem.run_bind, Sem.run_pure, Result.andThen_ok, List.map_toArray, List.map_cons, List.map_nil, hs, hx, hr]
  exact h v' w' hg
/-- one more of a list told, behind those that were -/
theorem GrewF.take {base : Nat} {W w' : World} {v v' : Value} {xs : List α} {i : Nat} {x : α} (h : GrewF e k enc base W v (xs.take i) [x] v' w') (hx : xs[i]? = some x) : OwnF e k enc w' base v' (xs.take (i + 1)) := by
  rw [take_snoc hx]
  exact h.own
end
theorem Blk.grown {w w' : World} {g : Nat} {c : Value} {cs : List Value} {row : Option Nat} (h : Blk w g (c :: cs)) (hg : w.grownBy w' row) (hne : some g ≠ row) : Blk w' g (c :: cs) := h.keep (hg.block g h.lt hne)
/-- while the nodes are copied -/
structure Tr1 (W : World) (g : Nat) (vN : Value) (ns : List ND) (w : World) (k : Nat) (s : Value) : Prop where
  own : OwnF 44 5 ND.enc w (g + 2) s (ns.take k)
  c5 : Blk w (g + 1) [s, .slice none 0 0]
  c4 : Blk w g [.slice none 0 0, .slice none 0 0]
  nw : OwnF 44 5 ND.enc w (g + 2) vN ns
  ap : vN.ownBlock = none ∨ vN.ownBlock ≠ s.ownBlock
  bl : Below g W w
  sz : g + 2 ≤ w.heap.size
theorem Tr1.step {W : World} {g : Nat} {vN : Value} {ns : List ND} {w w8 w9 : World} {k : Nat} {s s' : Value} {n : ND} (h : Tr1 W g vN ns w k s) (hg : W.heap.size = g) (hn : ns[k]? = some n) (hb : Below w.heap.size w w8) (hp : GrewF 44 5 ND.enc (g + 2) w8 s (ns.take k) [n] s' w9) : Tr1 W g vN ns (w9.setCell ⟨g + 1, 0, none⟩ s') (k + 1) s' := by
  have hs8 := hb.size
  have hs9 := hp.gr.size
  have h2 := h.sz
  have gset := grown_setCell w9 ⟨g + 1, 0, none⟩ s'
  have hsl : ∀ b, s.ownBlock = some b → g + 2 ≤ b ∧ b < w.heap.size := fun b e => h.own.lt e
  have hn1 : some (g + 1) ≠ s.ownBlock := fun e => by have := (hsl _ e.symm).1; omega
  have hn0 : some g ≠ s.ownBlock := fun e => by have := (hsl _ e.symm).1; omega
  have hs' : ∀ b, s'.ownBlock = some b → g + 2 ≤ b := fun b e => by
    rcases hp.lies with e2 | ⟨b2, e2, hb2⟩
    · exact (hsl b (by rw [← e2]; exact e)).1
    · rw [e2] at e; injection e with e; omega
  have b5 := ((h.c5.next hb).grown hp.gr hn1).set 0 s'
  have b4 := ((h.c4.next hb).grown hp.gr hn0).other (b := g + 1) (by omega) 0 s'
  have hne1 : ∀ v : Value, (∀ b, v.ownBlock = some b → g + 2 ≤ b) → v.ownBlock = none ∨ v.ownBlock ≠ some (g + 1) := fun v hv => by
    cases e : v.ownBlock with
    | none => exact .inl rfl
    | some b => exact .inr fun e2 => by injection e2 with e2; have := hv b e; omega
  have nw8 := h.nw.below hb
  have nw9 := nw8.grown hp.gr h.ap
  have hnl : ∀ b, vN.ownBlock = some b → g + 2 ≤ b ∧ b < w.heap.size := fun b e => h.nw.lt e
  refine ⟨(hp.take hn).grown gset (hne1 s' hs'), b5, b4, nw9.grown gset (hne1 vN fun b e => (hnl b e).1), ?_, ?_, by simp; omega⟩
  · rcases h.ap with e | e
    · exact .inl e
    · rcases hp.lies with e2 | ⟨b2, e2, hb2⟩
      · rw [e2]; exact .inr e
      · rw [e2]
        refine .inr fun e3 => ?_
        have := (hnl b2 e3).2
        omega
  · have k1 : Below g W w9 := hp.bel (h.bl.trans (hb.mono (by omega))) (by omega) (by omega)
    exact k1.setCell (p := ⟨g + 1, 0, none⟩) (by show g ≤ g + 1; omega) s'
/-- copies of entries, their Deps in memory of their own -/
def DepsF (w : World) (base : Nat) (zs : List EV) : Prop := ∀ y ∈ zs, y.2.n = y.1.op.1.ds.length ∧ OwnK .i64 3 w base (.slice y.2.a y.2.n y.2.c) y.1.op.1.ds ∧ y.1.op.1.ds.length ≤ 17592186044416
theorem DepsF.read {w : World} {base : Nat} {zs : List EV} (h : DepsF w base zs) : DepsK w zs := fun y hy => by
  obtain ⟨h1, h2, h3⟩ := h y hy
  obtain ⟨a, c, e, hr, -⟩ := h2.form
  injection e with e1 e2 e3
  subst e1
  exact ⟨h1, hr, h3⟩
theorem apart3 {w : World} {b b' : Nat} {d v : Value} {zs : List Int} {es : List EV} (h : OwnK .i64 3 w b d zs) (k : OwnF 54 17 EV.enc w b' v es) : d.ownBlock = none ∨ d.ownBlock ≠ v.ownBlock := by
  rcases h.2 with ⟨rfl, _⟩ | ⟨g, cap, cur, rfl, _, hh, _⟩
  · exact .inl rfl
  · right
    rcases k.2 with ⟨rfl, _⟩ | ⟨g', cap', cur', rfl, _, hh', _⟩
    · simp [Value.ownBlock]
    · intro e
      simp only [Value.ownBlock, Option.some.injEq] at e
      subst e
      rw [hh] at hh'
      injection hh' with hh'
      injection hh' with _ h2
      exact absurd h2 (by decide)
/-- while the moves are copied -/
structure Tr2 (W : World) (g : Nat) (s : Value) (ns : List ND) (es : List ED) (w : World) (k : Nat) (v : Value) (zs : List EV) : Prop where
  ns : OwnF 44 5 ND.enc w (g + 2) s ns
  own : OwnF 54 17 EV.enc w (g + 2) v zs
  es : entsY zs = es.take k
  dp : DepsF w (g + 2) zs
  c5 : Blk w (g + 1) [s, v]
  c4 : Blk w g [.slice none 0 0, .slice none 0 0]
  bl : Below g W w
  sz : g + 2 ≤ w.heap.size
  ap : s.ownBlock = none ∨ s.ownBlock ≠ v.ownBlock
theorem OwnK.bel {w w' : World} {base : Nat} {v : Value} {zs : List Int} (h : OwnK .i64 3 w base v zs) (hb : Below w.heap.size w w') : OwnK .i64 3 w' base v zs := h.below hb
theorem Tr2.step {W : World} {g : Nat} {s : Value} {ns : List ND} {es : List ED} {w w8 w9 : World} {k : Nat} {v v' : Value} {zs : List EV} {e : ED} {d : DV} (h : Tr2 W g s ns es w k v zs) (hg : W.heap.size = g) (he : es[k]? = some e) (hb : Below w.heap.size w w8) (hd : d.n = e.op.1.ds.length ∧ OwnK .i64 3 w8 (g + 2) (.slice d.a d.n d.c) e.op.1.ds ∧ e.op.1.ds.length ≤ 17592186044416)
    (hp : GrewF 54 17 EV.enc (g + 2) w8 v zs [(e, d)] v' w9) : Tr2 W g s ns es (w9.setCell ⟨g + 1, 1, none⟩ v') (k + 1) v' (zs ++ [(e, d)]) := by
  have hs8 := hb.size
  have hs9 := hp.gr.size
  have h2 := h.sz
  have gset := grown_setCell w9 ⟨g + 1, 1, none⟩ v'
  have hvl : ∀ b, v.ownBlock = some b → g + 2 ≤ b ∧ b < w.heap.size := fun b e => h.own.lt e
  have hn1 : some (g + 1) ≠ v.ownBlock := fun e => by have := (hvl _ e.symm).1; omega
  have hn0 : some g ≠ v.ownBlock := fun e => by have := (hvl _ e.symm).1; omega
  have hv' : ∀ b, v'.ownBlock = some b → g + 2 ≤ b := fun b e => by
    rcases hp.lies with e2 | ⟨b2, e2, hb2⟩
    · exact (hvl b (by rw [← e2]; exact e)).1
    · rw [e2] at e; injection e with e; omega
  have hne1 : ∀ v : Value, (∀ b, v.ownBlock = some b → g + 2 ≤ b) → v.ownBlock = none ∨ v.ownBlock ≠ some (g + 1) := fun v hv => by
    cases e : v.ownBlock with
    | none => exact .inl rfl
    | some b => exact .inr fun e2 => by injection e2 with e2; have := hv b e; omega
  have b5 := ((h.c5.next hb).grown hp.gr hn1).set 1 v'
  have b4 := ((h.c4.next hb).grown hp.gr hn0).other (b := g + 1) (by omega) 1 v'
  have ns9 := (h.ns.below hb).grown hp.gr h.ap
  have hsl : ∀ b, s.ownBlock = some b → g + 2 ≤ b ∧ b < w.heap.size := fun b e => h.ns.lt e
  refine ⟨ns9.grown gset (hne1 s fun b e => (hsl b e).1), hp.own.grown gset (hne1 v' hv'), by rw [entsY_app, h.es, take_snoc he]; rfl, fun y hy => ?_, b5, b4, ?_, by simp; omega, ?_⟩
  · have step : ∀ (x : OpD) (f : DV), OwnK .i64 3 w8 (g + 2) (.slice f.a f.n f.c) x.1.ds → OwnK .i64 3 (w9.setCell ⟨g + 1, 1, none⟩ v') (g + 2) (.slice f.a f.n f.c) x.1.ds := fun x f ho =>
      (ho.grown hp.gr (apart3 ho hp.old)).grown gset (hne1 _ fun b e => (ho.lt e).1)
    rcases List.mem_append.1 hy with hy | hy
    · obtain ⟨h3, h4, h5⟩ := h.dp y hy
      exact ⟨h3, step y.1.op y.2 (h4.bel hb), h5⟩
    · rw [List.mem_singleton] at hy
      subst hy
      exact ⟨hd.1, step e.op d hd.2.1, hd.2.2⟩
  · have k1 : Below g W w9 := hp.bel (h.bl.trans (hb.mono (by omega))) (by omega) (by omega)
    exact k1.setCell (p := ⟨g + 1, 1, none⟩) (by show g ≤ g + 1; omega) v'
  · rcases h.ap with e | e
    · exact .inl e
    · rcases hp.lies with e2 | ⟨b2, e2, hb2⟩
      · rw [e2]; exact .inr e
      · rw [e2]
        refine .inr fun e3 => ?_
        have := (hsl b2 e3).2
        omega
end Go.Proofs.YtjlbpmmckgjajaaDoor
