/- Joined: TF5. -/
import Derived.Test.YtjlbpmmckgjajaaDoorYA
import Derived.Test.YtjlbpmmckgjajaaDoorZF
import Derived.BigRegion
import Derived.Deep.RegionHeld3
import Derived.Deep.CutRange

/- The forest: a move done. -/
namespace Go.Proofs.YtjlbpmmckgjajaaDoor
open Go.RowKit Go.Lib Go.Maps
set_option linter.unusedVariables false

abbrev valO (x : OpD) (da : Option Addr) (dn dc : Nat) : Value := .agg #[.int .i64 x.1.t, .int .i64 x.1.r, .int .i64 x.2, .slice da dn dc, .int .i64 x.1.k, .int .i64 x.1.nt, .int .i64 x.1.nr, .int .i64 x.1.pt, .int .i64 x.1.pr, .string x.1.s, .int .i64 x.1.p, .int .i64 x.1.v]
abbrev objO (x : OpD) (da : Option Addr) (dn dc : Nat) : Obj := .cells #[.int .i64 x.1.t, .int .i64 x.1.r, .int .i64 x.2, .slice da dn dc, .int .i64 x.1.k, .int .i64 x.1.nt, .int .i64 x.1.nr, .int .i64 x.1.pt, .int .i64 x.1.pr, .string x.1.s, .int .i64 x.1.p, .int .i64 x.1.v] 39
abbrev OpX (w : World) (b o : Nat) (x : OpD) (da : Option Addr) (dn dc : Nat) : Prop := OpAt w b o x.1.t x.1.r x.2 da dn dc x.1.k x.1.nt x.1.nr x.1.pt x.1.pr x.1.s x.1.p x.1.v
theorem OpX.new (w : World) (x : OpD) (da : Option Addr) (dn dc : Nat) : OpX (w.alloc (objO x da dn dc)) w.heap.size 0 x da dn dc := OpAt.new w x.1.t x.1.r x.2 da x.1.ds dn dc x.1.k x.1.nt x.1.nr x.1.pt x.1.pr x.1.s x.1.p x.1.v
/-- an entry as a value, its operation's Deps at a place -/
abbrev valE (x : ED) (da : Option Addr) (dn dc : Nat) : Value := .agg #[.int .i64 x.op.1.t, .int .i64 x.op.1.r, .int .i64 x.op.2, .slice da dn dc, .int .i64 x.op.1.k, .int .i64 x.op.1.nt, .int .i64 x.op.1.nr, .int .i64 x.op.1.pt, .int .i64 x.op.1.pr, .string x.op.1.s, .int .i64 x.op.1.p, .int .i64 x.op.1.v, .bool x.was, .int .i64 x.par.1, .int .i64 x.par.2, .string x.key, .bool x.idle]
theorem KeptF.cell {w w' : World} {fp bm : Nat} {v v' : Value} (h : KeptF w w' fp bm v v') {p : Addr} (h1 : p.block < w.heap.size) (n1 : p.block ≠ fp) (n2 : p.block ≠ bm) (n3 : v.ownBlock ≠ some p.block) : w'.cell? p = w.cell? p := by
  unfold World.cell?
  rw [h.blk p.block h1 n1 n2 n3]
theorem KeptF.opx {w w' : World} {fp bm g : Nat} {v v' : Value} (h : KeptF w w' fp bm v v') {x : OpD} {da : Option Addr} {dn dc : Nat} (n1 : g ≠ fp) (n2 : g ≠ bm) (n3 : v.ownBlock ≠ some g) (ho : OpX w g 0 x da dn dc) : OpX w' g 0 x da dn dc := by
  have hl := ho.lt
  have key : ∀ j, w'.cell? ⟨g, j, none⟩ = w.cell? ⟨g, j, none⟩ := fun j => h.cell (p := ⟨g, j, none⟩) hl n1 n2 n3
  exact ⟨(key _).trans ho.c0, (key _).trans ho.c1, (key _).trans ho.c2, (key _).trans ho.c3, (key _).trans ho.c4, (key _).trans ho.c5, (key _).trans ho.c6, (key _).trans ho.c7, (key _).trans ho.c8, (key _).trans ho.c9, (key _).trans ho.c10, (key _).trans ho.c11⟩
def DoPost (W : World) (base fp bm : Nat) (sv : Value) (ps : List Pl) (ns : List ND) (o : OpD) (da : Option Addr) (dn dc : Nat) (e : Ending) (w' : World) : Prop :=
  ∃ (sv' : Value) (ps' : List Pl) (sp' : List SpD), e = .returned (valE (entG ns o) da dn dc) ∧ FoR w' base fp bm sv' ps' sp' ∧ FoM ps' sp' (doneG ns o) ∧ KeptF W w' fp bm sv sv' ∧ ps'.length ≤ ps.length + 2
def zEv : List Value := [.int .i64 0, .int .i64 0, .int .i64 0, .slice none 0 0, .int .i64 0, .int .i64 0, .int .i64 0, .int .i64 0, .int .i64 0, .string ⟨#[]⟩, .int .i64 0, .int .i64 0, .bool false, .int .i64 0, .int .i64 0, .string ⟨#[]⟩, .bool false]
abbrev zEnt : Obj := .cells #[.int .i64 0, .int .i64 0, .int .i64 0, .slice none 0 0, .int .i64 0, .int .i64 0, .int .i64 0, .int .i64 0, .int .i64 0, .string ⟨#[]⟩, .int .i64 0, .int .i64 0, .bool false, .int .i64 0, .int .i64 0, .string ⟨#[]⟩, .bool false] 54
theorem zEnt_new (w : World) : Blk (w.alloc zEnt) w.heap.size zEv := by
  constructor
  · intro i u hi
    match i, hi with
    | 0, hi | 1, hi | 2, hi | 3, hi | 4, hi | 5, hi | 6, hi | 7, hi | 8, hi | 9, hi | 10, hi | 11, hi | 12, hi | 13, hi | 14, hi | 15, hi | 16, hi => simp [zEv] at hi; subst hi; simp
    | _ + 17, hi => simp [zEv] at hi
  · intro i u hi
    exact World.frozen?_alloc_at (w := w) _ _ _ _ rfl
abbrev objS (x : SpD) : Obj := .cells #[.bool x.th, .int .i64 x.n.id.1, .int .i64 x.n.id.2, .int .i64 x.n.par.1, .int .i64 x.n.par.2, .string x.n.key, .int .i64 (x.ab : Int)] 72
theorem objS_new (w : World) (x : SpD) : Blk (w.alloc (objS x)) w.heap.size x.enc := by
  constructor
  · intro i u hi
    match i, hi with
    | 0, hi | 1, hi | 2, hi | 3, hi | 4, hi | 5, hi | 6, hi => simp [SpD.enc] at hi; subst hi; simp
    | _ + 7, hi => simp [SpD.enc] at hi
  · intro i u hi
    exact World.frozen?_alloc_at (w := w) _ _ _ _ rfl
theorem ent_is {ps : List Pl} {sp : List SpD} {ns : List ND} {o : OpD} {i : Nat} {x : SpD} (h : FoM ps sp ns) (hi : ps[i]? = some (nodeO o)) (hx : sp[i]? = some x) : entG ns o = ⟨o, x.th, x.n.par, x.n.key, idleG ns o⟩ := by
  unfold entG
  cases ht : x.th
  · obtain ⟨e, g2⟩ := h.no i _ x hi hx ht
    rw [g2, e]; rfl
  · obtain ⟨g1, g2, g3⟩ := h.th i _ x hi hx ht
    rw [g2]
def cellsE (x : ED) (da : Option Addr) (dn dc : Nat) : List Value := [.int .i64 x.op.1.t, .int .i64 x.op.1.r, .int .i64 x.op.2, .slice da dn dc, .int .i64 x.op.1.k, .int .i64 x.op.1.nt, .int .i64 x.op.1.nr, .int .i64 x.op.1.pt, .int .i64 x.op.1.pr, .string x.op.1.s, .int .i64 x.op.1.p, .int .i64 x.op.1.v, .bool x.was, .int .i64 x.par.1, .int .i64 x.par.2, .string x.key, .bool x.idle]
abbrev objE (x : ED) (da : Option Addr) (dn dc : Nat) : Obj := .cells #[.int .i64 x.op.1.t, .int .i64 x.op.1.r, .int .i64 x.op.2, .slice da dn dc, .int .i64 x.op.1.k, .int .i64 x.op.1.nt, .int .i64 x.op.1.nr, .int .i64 x.op.1.pt, .int .i64 x.op.1.pr, .string x.op.1.s, .int .i64 x.op.1.p, .int .i64 x.op.1.v, .bool x.was, .int .i64 x.par.1, .int .i64 x.par.2, .string x.key, .bool x.idle] 54
theorem objE_new (w : World) (x : ED) (da : Option Addr) (dn dc : Nat) : Blk (w.alloc (objE x da dn dc)) w.heap.size (cellsE x da dn dc) := by
  constructor
  · intro i u hi
    match i, hi with
    | 0, hi | 1, hi | 2, hi | 3, hi | 4, hi | 5, hi | 6, hi | 7, hi | 8, hi | 9, hi | 10, hi | 11, hi | 12, hi | 13, hi | 14, hi | 15, hi | 16, hi => simp [cellsE] at hi; subst hi; simp
    | _ + 17, hi => simp [cellsE] at hi
  · intro i u hi
    exact World.frozen?_alloc_at (w := w) _ _ _ _ rfl
structure ExE (w5 w6 : World) (ge : Nat) (x : ED) (da : Option Addr) (dn dc : Nat) : Prop where
  bel : Below w5.heap.size w5 w6
  gl : w5.heap.size ≤ ge
  bx : Blk w6 ge (cellsE x da dn dc)
theorem setsF_grown (g o : Nat) : ∀ (r : List Value) (j : Nat) (w : World), w.grownBy (setsF w g o r j) (some g)
  | [], j, w => World.grownBy.refl _ _
  | u :: r, j, w => (grown_setCell w ⟨g, o + j, none⟩ u).trans (setsF_grown g o r (j + 1) _)
theorem Blk.sets {g : Nat} : ∀ (r : List Value) (j : Nat) {w : World} {vs : List Value}, Blk w g vs → Blk (setsF w g 0 r j) g (setsL vs 0 r j)
  | [], j, w, vs, h => h
  | u :: r, j, w, vs, h => Blk.sets r (j + 1) (h.set (0 + j) u)
theorem FoR.keep {W W' : World} {base fp bm : Nat} {sv : Value} {ps : List Pl} {sp : List SpD} (h : FoR W base fp bm sv ps sp) (hk : ∀ k, (k = fp ∨ k = bm ∨ sv.ownBlock = some k) → W'.heap[k]? = W.heap[k]?) : FoR W' base fp bm sv ps sp := by
  refine ⟨h.blk.keep (hk fp (.inl rfl)), ?_, ?_, h.ln, h.wf, h.nd, h.b1, h.b2, h.ne, h.nv, h.sm⟩
  · obtain ⟨es, clock, hb, r⟩ := h.map
    exact ⟨es, clock, (hk bm (.inr (.inl rfl))).trans hb, r⟩
  · refine ⟨h.own.1, ?_⟩
    rcases h.own.2 with hn | ⟨g, cap, cur, e1, h1, h2, h3⟩
    · exact .inl hn
    · exact .inr ⟨g, cap, cur, e1, h1, (hk g (.inr (.inr (by rw [e1]; rfl)))).trans h2, h3⟩
theorem FoR.put {W : World} {base fp bm b n c : Nat} {ps : List Pl} {sp : List SpD} (h : FoR W base fp bm (.slice (some ⟨b, 0, none⟩) n c) ps sp) (hn : n = sp.length) {i : Nat} (hi : i < sp.length) (y : SpD) :
    FoR (setsF W b (i * 7) y.enc 0) base fp bm (.slice (some ⟨b, 0, none⟩) n c) ps (sp.set i y) ∧ KeptF W (setsF W b (i * 7) y.enc 0) fp bm (.slice (some ⟨b, 0, none⟩) n c) (.slice (some ⟨b, 0, none⟩) n c) := by
  obtain ⟨h1, h2⟩ := h.own.put flatSp hn y hi
  have hlt := h.lt
  have n1 : fp ≠ b := fun e => h.nv.1 (by rw [e]; rfl)
  have n2 : bm ≠ b := fun e => h.nv.2 (by rw [e]; rfl)
  refine ⟨⟨h.blk.keep (h2.block fp hlt.1 (fun e => n1 (by injection e))), h.map.kept h2 (fun e => n2 (by injection e)), h1, by rw [List.length_set]; exact h.ln, h.wf, h.nd, h.b1, h.b2, h.ne, h.nv, h.sm⟩, KeptF.of_grown h2 (fun k _ _ n3 e => n3 e.symm) (.inl rfl)⟩
theorem KeptF.more {W w7 w8 : World} {fp bm q : Nat} {v v' : Value} (h : KeptF W w7 fp bm v v') (hg : w7.grownBy w8 (some q)) (hq : W.heap.size ≤ q) : KeptF W w8 fp bm v v' := by
  have hs := h.bl.size
  refine ⟨h.bl.trans ⟨hg.os, hg.tape, hg.output, hg.size, fun k hk => absurd hk (Nat.not_lt_zero _)⟩, fun k hk n1 n2 n3 => ?_, h.lies⟩
  rw [hg.block k (by omega) (fun e => by injection e with e; omega)]
  exact h.blk k hk n1 n2 n3
theorem FoR.spot {W : World} {base fp bm b n c : Nat} {ps : List Pl} {sp : List SpD} (h : FoR W base fp bm (.slice (some ⟨b, 0, none⟩) n c) ps sp) {i : Nat} {x : SpD} (hx : sp[i]? = some x) (j : Nat) (u : Value) (hu : x.enc[j]? = some u) : W.cell? ⟨b, i * 7 + j, none⟩ = some u := by
  have hc := World.ownsRow.cells h.own (g := b) rfl (i * 7 + j) u (flat_at flatSp i hx j u hu)
  rw [addr_add, Nat.zero_add] at hc
  exact hc
theorem nd_build (a b c d : Int) (s : ByteArray) (w : World) : (Instr.build 44 #[(0, .agg #[.int .i64 a, .int .i64 b]), (1, .agg #[.int .i64 c, .int .i64 d]), (2, .string s)]).run Tryd.prog w = .ok (.agg #[.int .i64 a, .int .i64 b, .int .i64 c, .int .i64 d, .string s]) w := run_build w 44 _ _ (by kernel_rfl)
theorem sp_build (a b c d z : Int) (s : ByteArray) (w : World) : (Instr.build 72 #[(0, .bool true), (1, .agg #[.int .i64 a, .int .i64 b, .int .i64 c, .int .i64 d, .string s]), (2, .int .i64 z)]).run Tryd.prog w = .ok (.agg #[.bool true, .int .i64 a, .int .i64 b, .int .i64 c, .int .i64 d, .string s, .int .i64 z]) w := run_build w 72 _ _ (by kernel_rfl)
/-- behind the two numbers -/
structure DoM (W w4 : World) (base fp bm g : Nat) (sv : Value) (ps : List Pl) (ns : List ND) (o : OpD) (da : Option Addr) (dn dc i1 i2 : Nat) (sv2 : Value) (ps2 : List Pl) (sp2 : List SpD) : Prop where
  fr : FoR w4 base fp bm sv2 ps2 sp2
  fm : FoM ps2 sp2 ns
  h1 : ps2[i1]? = some (nodeO o)
  h2 : ps2[i2]? = some (parO o)
  kp : KeptF W w4 fp bm sv sv2
  ln : ps2.length ≤ ps.length + 2
  ox : OpX w4 g 0 o da dn dc
  bk : Blk w4 (g + 1) zEv
  lt : g + 1 < w4.heap.size
  bn : ∀ k, sv2.ownBlock = some k → k ≠ g ∧ k ≠ g + 1
  gn : g + 1 ≠ fp ∧ g + 1 ≠ bm ∧ W.heap.size ≤ g
theorem DoM.mk' {W W2 w3 w4 : World} {base fp bm g : Nat} {sv : Value} {ps : List Pl} {sp : List SpD} {ns : List ND} {o : OpD} {da : Option Addr} {dn dc i1 i2 : Nat} {sv1 sv2 : Value} {ps1 ps2 : List Pl} {sp1 sp2 : List SpD}
    (hB : Below W.heap.size W W2) (hM : FoM ps sp ns) (hx : OpX W2 g 0 o da dn dc) (hz : Blk W2 (g + 1) zEv) (hs : W2.heap.size = g + 2) (hv : g ≠ fp ∧ g ≠ bm ∧ g + 1 ≠ fp ∧ g + 1 ≠ bm) (ho : ∀ k, sv.ownBlock = some k → k < g) (hw : W.heap.size = g)
    (n1 : NumIs ps sp (nodeO o) ps1 sp1 i1) (k1 : KeptF W2 w3 fp bm sv sv1) (n2 : NumIs ps1 sp1 (parO o) ps2 sp2 i2) (f2 : FoR w4 base fp bm sv2 ps2 sp2) (k2 : KeptF w3 w4 fp bm sv1 sv2) : DoM W w4 base fp bm g sv ps ns o da dn dc i1 i2 sv2 ps2 sp2 := by
  obtain ⟨m1, a1, a2, a3⟩ := hM.num n1
  obtain ⟨m2, b1, b2, b3⟩ := m1.num n2
  have k12 := k1.trans k2
  have q : ∀ k, (k = g ∨ k = g + 1) → sv.ownBlock ≠ some k := fun k hk e => by have := ho k e; omega
  refine ⟨f2, m2, b2 _ _ a1, b1, (KeptF.of_below hB).trans k12, by omega, k12.opx hv.1 hv.2.1 (q g (.inl rfl)) hx, hz.keep (k12.blk (g + 1) (by omega) hv.2.2.1 hv.2.2.2 (q _ (.inr rfl))), ?_, fun k hk => ?_, hv.2.2.1, hv.2.2.2, Nat.le_of_eq hw⟩
  · have := k12.bl.size
    omega
  · rcases k12.lies with e | ⟨g', e, hg'⟩
    · have := ho k (by rw [← e]; exact hk)
      omega
    · rw [e] at hk
      injection hk with hk
      omega
theorem setsL_ent (x : ED) (da : Option Addr) (dn dc : Nat) : setsL zEv 0 (cellsE x da dn dc) 0 = cellsE x da dn dc := by simp [setsL, zEv, cellsE]
theorem aggE (w : World) : (isAgg 54).run Tryd.prog w = .ok true w := by
  simp [isAgg, run_underlying Tryd.underlying54, Sem.run_bind, Result.andThen]
theorem sizeE (w : World) : (Go.sizeOf 54).run Tryd.prog w = .ok 17 w := by
  have h : (Tryd.prog.info? 54).map (fun i => (i.zero, i.size, i.bytes)) = some (some (.agg #[.int .i64 0, .int .i64 0, .int .i64 0, .slice none 0 0, .int .i64 0, .int .i64 0, .int .i64 0, .int .i64 0, .int .i64 0, .string ⟨#[]⟩, .int .i64 0, .int .i64 0, .bool false, .int .i64 0, .int .i64 0, .string ⟨#[]⟩, .bool false]), 17, 168) := by kernel_rfl
  obtain ⟨i0, hi, hz0, hz1, hz2⟩ := info_parts h
  simp [Go.sizeOf, typeInfo, hi, hz1]
theorem cellsE_one (x : ED) (da : Option Addr) (dn dc : Nat) : ∀ v ∈ cellsE x da dn dc, v.oneCell' = true := by
  intro u hu
  simp only [cellsE, List.mem_cons, List.not_mem_nil, or_false] at hu
  rcases hu with rfl | rfl | rfl | rfl | rfl | rfl | rfl | rfl | rfl | rfl | rfl | rfl | rfl | rfl | rfl | rfl | rfl <;> rfl
theorem Blk.cells {w : World} {g : Nat} {vs : List Value} (h : Blk w g vs) : CellsAt w g 0 vs := fun j u hu => by rw [Nat.zero_add]; exact h.cell j u hu
/-- an entry copied into a block of one's own -/
theorem ent_copy {w : World} {g : Nat} {zs : List Value} (h : Blk w g zs) (hz : zs.length = 17) (x : ED) (da : Option Addr) (dn dc : Nat) : (storeVar 54 ⟨g, 0, none⟩ (.agg (cellsE x da dn dc).toArray)).run Tryd.prog w = .ok () (setsF w g 0 (cellsE x da dn dc) 0) := by
  refine storeVar_is sizeE rfl (cellsE_one x da dn dc) (fun j hj => ?_) (fun j hj => ?_)
  · rw [Nat.zero_add, h.cell j _ (List.getElem?_eq_getElem (by omega))]; rfl
  · rw [Nat.zero_add]; exact h.free j _ (List.getElem?_eq_getElem (by omega))
/-- the answer told -/
theorem do_end {W w4 w7 : World} {base fp bm g : Nat} {sv : Value} {ps : List Pl} {ns : List ND} {o : OpD} {da : Option Addr} {dn dc i1 i2 : Nat} {sv2 : Value} {ps2 : List Pl} {sp2 sp7 : List SpD} {x : SpD} {res : Bool}
    (h : DoM W w4 base fp bm g sv ps ns o da dn dc i1 i2 sv2 ps2 sp2) (he : entG ns o = ⟨o, x.th, x.n.par, x.n.key, idleG ns o⟩) (hr : idleG ns o = res) (hf : FoR w7 base fp bm sv2 ps2 sp7) (hm : FoM ps2 sp7 (doneG ns o)) (hk : KeptF W w7 fp bm sv sv2) :
    DoPost W base fp bm sv ps ns o da dn dc (.returned (valE ⟨o, x.th, x.n.par, x.n.key, res⟩ da dn dc)) (setsF w7 (g + 1) 0 (cellsE ⟨o, x.th, x.n.par, x.n.key, res⟩ da dn dc) 0) := by
  have hg := setsF_grown (g + 1) 0 (cellsE ⟨o, x.th, x.n.par, x.n.key, res⟩ da dn dc) 0 w7
  have hlt := hf.lt
  refine ⟨sv2, ps2, sp7, by rw [he, hr], hf.keep (fun k hk2 => ?_), hm, hk.more hg (by have := h.gn.2.2; omega), h.ln⟩
  rcases hk2 with rfl | rfl | hk2
  · exact hg.block _ hlt.1 (fun e => h.gn.1 (by injection e with e; exact e.symm))
  · exact hg.block _ hlt.2 (fun e => h.gn.2.1 (by injection e with e; exact e.symm))
  · exact hg.block k ((hf.own.lt hk2).2) (fun e => (h.bn k hk2).2 (by injection e))
set_option maxHeartbeats 8000000 in
set_option maxRecDepth 100000 in
theorem do_any (W : World) (base fp bm : Nat) (sv : Value) (ps : List Pl) (sp : List SpD) (ns : List ND) (o : OpD) (da : Option Addr) (dn dc : Nat) (h : FoR W base fp bm sv ps sp) (hM : FoM ps sp ns) (hA : Acyc ns) (hn : wfP (nodeO o)) (hp : wfP (parO o)) (hl : ps.length + 2 ≤ 1000) (hb : base ≤ W.heap.size) :
    Calls Tryd.prog 46 #[.pointer (some ⟨fp, 0, none⟩), valO o da dn dc] W (DoPost W base fp bm sv ps ns o da dn dc) := by
  have mixed : Tryd.prog.follows .mixedOrders = true := by kernel_rfl
  obtain ⟨g, hg⟩ : ∃ g, W.heap.size = g := ⟨_, rfl⟩
  obtain ⟨W2, hW2⟩ : ∃ W2, (W.alloc (objO o da dn dc)).alloc zEnt = W2 := ⟨_, rfl⟩
  have HB2 : Hid (Below W.heap.size W W2) := by show Below _ _ _; rw [← hW2]; exact St.below2 W _ _
  have HX2 : Hid (OpX W2 g 0 o da dn dc) := by
    have h1 := (OpX.new W o da dn dc).next (box_bel _ zEnt)
    rw [hW2, hg] at h1
    exact h1
  have HF2 := Lib.hid (h.next HB2.out)
  have HZ2 : Hid (Blk W2 (g + 1) zEv) := by
    have h1 := zEnt_new (W.alloc (objO o da dn dc))
    rw [hW2, World.size_alloc, hg] at h1
    exact h1
  have HS2 : Hid (W2.heap.size = g + 2) := by show _ = _; rw [← hW2]; simp [hg]
  have hlt := h.lt
  have HV : Hid (g ≠ fp ∧ g ≠ bm ∧ g + 1 ≠ fp ∧ g + 1 ≠ bm) := ⟨by omega, by omega, by omega, by omega⟩
  have C1 := Lib.hid (number_any W2.drew base fp bm sv ps sp o.1.nt o.1.nr (HF2.out.next (Below.refl _ _).drew) hn (by omega) (Nat.le_trans hb HB2.out.size))
  have HG := Lib.hid hg
  have HM := Lib.hid hM
  have HAC := Lib.hid hA
  have HP := Lib.hid hp
  have HL := Lib.hid hl
  have HBA := Lib.hid hb
  have HOW : Hid (∀ k, sv.ownBlock = some k → k < g) := fun k hk => by have := (h.own.lt hk).2; omega
  clear h hM hA hn hp hl hb hlt
  go_enter Tryd.func46, Tryd.ntmps46
  go_upto_region 1 with fail
  clear hW2 hg
  obtain ⟨c0, c1, c2, c3, c4, c5, c6, c7, c8, c9, c10, c11⟩ := HX2.out.below (Below.refl W2.heap.size W2).drew HX2.out.lt
  go_cut [5, 6] from 9 to 56 (fun v5 v6 wc => ∃ (i1 i2 : Nat) (sv2 : Value) (ps2 : List Pl) (sp2 : List SpD), v5 = .int .i64 (i1 : Int) ∧ v6 = .int .i64 (i2 : Int) ∧ Hid (DoM W wc base fp bm g sv ps ns o da dn dc i1 i2 sv2 ps2 sp2))
  case first =>
    go_wp2_with fail
    go_region_with (first
      | (go_at_call 65
         (with_reducible refine (C1.out).mono ?_)
         rintro e w3 ⟨i1, sv1, ps1, sp1, rfl, hn1, hf1, hk1⟩
         have HN1 := Lib.hid hn1
         have HF1 := Lib.hid hf1
         have HK1 := Lib.hid hk1
         have HX1 : Hid (OpX w3 g 0 o da dn dc) := HK1.out.opx HV.out.1 HV.out.2.1 (fun e => Nat.lt_irrefl _ (HOW.out g e)) (HX2.out.below (Below.refl W2.heap.size W2).drew HX2.out.lt)
         obtain ⟨b0, b1, b2, b3, b4, b5, b6, b7, b8, b9, b10, b11⟩ := HX1.out
         have C2 := Lib.hid (number_any w3 base fp bm sv1 ps1 sp1 o.1.pt o.1.pr HF1.out HP.out (by have := (HM.out.num HN1.out).2.2.2; have := HL.out; omega) (Nat.le_trans HBA.out (Nat.le_trans HB2.out.size HK1.out.bl.size)))
         clear hn1 hf1 hk1)
      | (go_at_call 65
         (with_reducible refine (C2.out).mono ?_)
         rintro e w4 ⟨i2, sv2, ps2, sp2, rfl, hn2, hf2, hk2⟩
         have HN2 := Lib.hid hn2
         have HF4 := Lib.hid hf2
         have HK2 := Lib.hid hk2
         clear hn2 hf2 hk2))
    all_goals
      have HD := Lib.hid (DoM.mk' (HB2.out.drew) HM.out (HX2.out.below (Below.refl W2.heap.size W2).drew HX2.out.lt) (HZ2.out.drew) HS2.out HV.out HOW.out HG.out HN1.out HK1.out HN2.out HF4.out HK2.out)
      go_wp2_with fail
      go_meet
      case rel =>
        refine ⟨i1, i2, sv2, ps2, sp2, rfl, rfl, ?_⟩
        exact HD.out
  case rest =>
    obtain ⟨i1, i2, sv2, ps2, sp2, rfl, rfl, HD⟩ := hcut
    rename World => w4
    obtain ⟨x, hx⟩ : ∃ x, sp2[i1]? = some x := ⟨_, List.getElem?_eq_getElem (by rw [HD.out.fr.ln]; exact (List.getElem?_eq_some_iff.1 HD.out.h1).1)⟩
    obtain ⟨sa, sn, sc, rfl, hsn, hsc, hrow, hsg⟩ := HD.out.fr.own.form flatSp
    have hi1 : i1 < sn := by rw [hsn]; exact (List.getElem?_eq_some_iff.1 hx).1
    obtain ⟨b, rfl⟩ := hsg (by omega)
    obtain ⟨b', off, hab, hat⟩ := hrow i1 x hx
    injection hab with hab
    injection hab with hb1 hb2
    subst hb1 hb2
    rw [Nat.zero_add] at hat
    have hi1z : (i1 : Int) < (sn : Int) := by omega
    have e0 : w4.cell? ⟨b, i1 * 7, none⟩ = some (.bool x.th) := hat 0 _ rfl
    have e1 : w4.cell? ⟨b, i1 * 7 + 1, none⟩ = some (.int .i64 x.n.id.1) := hat 1 _ rfl
    have e2 : w4.cell? ⟨b, i1 * 7 + 2, none⟩ = some (.int .i64 x.n.id.2) := hat 2 _ rfl
    have e3 : w4.cell? ⟨b, i1 * 7 + 3, none⟩ = some (.int .i64 x.n.par.1) := hat 3 _ rfl
    have e4 : w4.cell? ⟨b, i1 * 7 + 4, none⟩ = some (.int .i64 x.n.par.2) := hat 4 _ rfl
    have e5 : w4.cell? ⟨b, i1 * 7 + 5, none⟩ = some (.string x.n.key) := hat 5 _ rfl
    have e6 : w4.cell? ⟨b, i1 * 7 + 6, none⟩ = some (.int .i64 (x.ab : Int)) := hat 6 _ rfl
    have d1 : w4.cell? ⟨fp, 1, none⟩ = some (.slice (some ⟨b, 0, none⟩) sn sc) := HD.out.fr.blk.cell 1 _ rfl
    have HXX := Lib.hid hx
    have HEN := Lib.hid (ent_is HD.out.fm HD.out.h1 hx)
    have HSN := Lib.hid hsn
    clear hx hsn hsc hrow hsg hat
    go_upto_region 3 with fail
    clear e0 e1 e2 e3 e4 e5 e6 d1
    obtain ⟨w5, hw5⟩ : ∃ w5, w4.alloc (objS x) = w5 := ⟨_, rfl⟩
    have HB5 : Hid (Below w4.heap.size w4 w5) := by show Below _ _ _; rw [← hw5]; exact box_bel w4 _
    have HS5 : Hid (Blk w5 w4.heap.size x.enc) := by show Blk _ _ _; rw [← hw5]; exact objS_new w4 x
    have HZ5 : Hid (w5.heap.size = w4.heap.size + 1) := by show _ = _; rw [← hw5]; simp
    rw [hw5]
    clear hw5
    obtain ⟨gs, hgs⟩ : ∃ gs, w4.heap.size = gs := ⟨_, rfl⟩
    rw [hgs] at HS5 HZ5 ⊢
    obtain ⟨res, hres⟩ : ∃ res, idleG ns o = res := ⟨_, rfl⟩
    have HRES := Lib.hid hres
    have HX5 := Lib.hid (HD.out.ox.next HB5.out)
    have HCX : Hid (∀ W, Below w5.heap.size w5 W → W.cell? ⟨g, 0, none⟩ = some (.int .i64 o.1.t) ∧ W.cell? ⟨g, 0 + 1, none⟩ = some (.int .i64 o.1.r) ∧ W.cell? ⟨g, 0 + 2, none⟩ = some (.int .i64 o.2) ∧ W.cell? ⟨g, 0 + 3, none⟩ = some (.slice da dn dc) ∧ W.cell? ⟨g, 0 + 4, none⟩ = some (.int .i64 o.1.k) ∧ W.cell? ⟨g, 0 + 5, none⟩ = some (.int .i64 o.1.nt) ∧ W.cell? ⟨g, 0 + 6, none⟩ = some (.int .i64 o.1.nr) ∧ W.cell? ⟨g, 0 + 7, none⟩ = some (.int .i64 o.1.pt) ∧ W.cell? ⟨g, 0 + 8, none⟩ = some (.int .i64 o.1.pr) ∧ W.cell? ⟨g, 0 + 9, none⟩ = some (.string o.1.s) ∧ W.cell? ⟨g, 0 + 10, none⟩ = some (.int .i64 o.1.p) ∧ W.cell? ⟨g, 0 + 11, none⟩ = some (.int .i64 o.1.v) ∧ W.cell? ⟨gs, 0, none⟩ = some (.bool x.th) ∧ W.cell? ⟨gs, 3, none⟩ = some (.int .i64 x.n.par.1) ∧ W.cell? ⟨gs, 4, none⟩ = some (.int .i64 x.n.par.2) ∧ W.cell? ⟨gs, 5, none⟩ = some (.string x.n.key) ∧ Hid (Below w5.heap.size w5 W)) := fun W hb => by
      obtain ⟨c0, c1, c2, c3, c4, c5, c6, c7, c8, c9, c10, c11⟩ := HX5.out.next hb
      have hz := HZ5.out
      have key : ∀ j u, x.enc[j]? = some u → W.cell? ⟨gs, j, none⟩ = some u := fun j u hu => (hb.cell (p := ⟨gs, j, none⟩) (by show gs < w5.heap.size; omega)).trans (HS5.out.cell j u hu)
      refine ⟨?_, ?_, ?_, ?_, ?_, ?_, ?_, ?_, ?_, ?_, ?_, ?_, key 0 _ rfl, key 3 _ rfl, key 4 _ rfl, key 5 _ rfl, hb⟩
      all_goals first | exact c0 | exact c1 | exact c2 | exact c3 | exact c4 | exact c5 | exact c6 | exact c7 | exact c8 | exact c9 | exact c10 | exact c11
    have CAb := Lib.hid (fun W' (hb : Below w5.heap.size w5 W') => isAbove_any W' base fp bm _ ps2 sp2 ns (HD.out.fr.next (HB5.out.trans (hb.mono HB5.out.size))) HD.out.fm HAC.out i1 i2 (nodeO o) (parO o) HD.out.h1 HD.out.h2)
    have HRR : Hid (overG ns (nodeO o) (ns.length + 1) (parO o) = res) := hres
    rw [HRR.out] at CAb
    clear hres
    go_cut [8] from 9 to 56 (fun v8 wc => ∃ ge : Nat, v8 = .pointer (some ⟨ge, 0, none⟩) ∧ Hid (ExE w5 wc ge ⟨o, x.th, x.n.par, x.n.key, res⟩ da dn dc))
    case first =>
      have hS0 := HCX.out _ (Below.refl w5.heap.size w5).drew
      have hS0z := HCX.out (w5.alloc zEnt).drew ((Below.refl w5.heap.size w5).alloc (Nat.le_refl _) _).drew
      have hSs := HCX.out (w5.alloc (objE ⟨o, x.th, x.n.par, x.n.key, res⟩ da dn dc)).drew ((Below.refl w5.heap.size w5).alloc (Nat.le_refl _) _).drew
      go_wp2_with fail
      go_region_held3 (fun W => W.cell? ⟨g, 0, none⟩ = some (.int .i64 o.1.t) ∧ W.cell? ⟨g, 0 + 1, none⟩ = some (.int .i64 o.1.r) ∧ W.cell? ⟨g, 0 + 2, none⟩ = some (.int .i64 o.2) ∧ W.cell? ⟨g, 0 + 3, none⟩ = some (.slice da dn dc) ∧ W.cell? ⟨g, 0 + 4, none⟩ = some (.int .i64 o.1.k) ∧ W.cell? ⟨g, 0 + 5, none⟩ = some (.int .i64 o.1.nt) ∧ W.cell? ⟨g, 0 + 6, none⟩ = some (.int .i64 o.1.nr) ∧ W.cell? ⟨g, 0 + 7, none⟩ = some (.int .i64 o.1.pt) ∧ W.cell? ⟨g, 0 + 8, none⟩ = some (.int .i64 o.1.pr) ∧ W.cell? ⟨g, 0 + 9, none⟩ = some (.string o.1.s) ∧ W.cell? ⟨g, 0 + 10, none⟩ = some (.int .i64 o.1.p) ∧ W.cell? ⟨g, 0 + 11, none⟩ = some (.int .i64 o.1.v) ∧ W.cell? ⟨gs, 0, none⟩ = some (.bool x.th) ∧ W.cell? ⟨gs, 3, none⟩ = some (.int .i64 x.n.par.1) ∧ W.cell? ⟨gs, 4, none⟩ = some (.int .i64 x.n.par.2) ∧ W.cell? ⟨gs, 5, none⟩ = some (.string x.n.key) ∧ Hid (Below w5.heap.size w5 W)) (with_reducible assumption) (
        (go_at_call 66
         (first
          | (with_reducible refine (CAb.out _ (Below.refl w5.heap.size w5).drew).mono ?_)
          | (with_reducible refine (CAb.out _ ((Below.refl w5.heap.size w5).alloc (Nat.le_refl _) zEnt).drew).mono ?_))
         rintro e w17 ⟨rfl, rfl⟩))
      all_goals
        have HQ : Hid (ExE w5 (w5.alloc (objE ⟨o, x.th, x.n.par, x.n.key, res⟩ da dn dc)).drew w5.heap.size ⟨o, x.th, x.n.par, x.n.key, res⟩ da dn dc) := ⟨((Below.refl w5.heap.size w5).alloc (Nat.le_refl _) _).drew, Nat.le_refl _, (objE_new w5 _ da dn dc).drew⟩
        go_wp2_with fail
        go_meet
        case rel =>
          refine ⟨w5.heap.size, rfl, ?_⟩
          exact HQ.out
    case rest =>
      obtain ⟨ge, rfl, HE⟩ := hcut
      rename World => w6
      have HB6 : Hid (Below w4.heap.size w4 w6) := HB5.out.trans (HE.out.bel.mono HB5.out.size)
      have HF6 := Lib.hid (HD.out.fr.next HB6.out)
      have HX6 := Lib.hid (HD.out.ox.next HB6.out)
      have HK6 := Lib.hid (HD.out.kp.trans (KeptF.of_below HB6.out))
      have HZ6 := Lib.hid (HD.out.bk.below HB6.out HD.out.lt)
      have k16 : w6.cell? ⟨ge, 16, none⟩ = some (.bool res) := HE.out.bx.cell 16 _ rfl
      cases res
      · obtain ⟨c0, c1, c2, c3, c4, c5, c6, c7, c8, c9, c10, c11⟩ := HX6.out
        have d1 : w6.cell? ⟨fp, 1, none⟩ = some (.slice (some ⟨b, 0, none⟩) sn sc) := HF6.out.blk.cell 1 _ rfl
        have e0 : w6.cell? ⟨b, i1 * 7, none⟩ = some (.bool x.th) := HF6.out.spot HXX.out 0 _ rfl
        have e1 : w6.cell? ⟨b, i1 * 7 + 1, none⟩ = some (.int .i64 x.n.id.1) := HF6.out.spot HXX.out 1 _ rfl
        have e2 : w6.cell? ⟨b, i1 * 7 + 2, none⟩ = some (.int .i64 x.n.id.2) := HF6.out.spot HXX.out 2 _ rfl
        have e3 : w6.cell? ⟨b, i1 * 7 + 3, none⟩ = some (.int .i64 x.n.par.1) := HF6.out.spot HXX.out 3 _ rfl
        have e4 : w6.cell? ⟨b, i1 * 7 + 4, none⟩ = some (.int .i64 x.n.par.2) := HF6.out.spot HXX.out 4 _ rfl
        have e5 : w6.cell? ⟨b, i1 * 7 + 5, none⟩ = some (.string x.n.key) := HF6.out.spot HXX.out 5 _ rfl
        have e6 : w6.cell? ⟨b, i1 * 7 + 6, none⟩ = some (.int .i64 (x.ab : Int)) := HF6.out.spot HXX.out 6 _ rfl
        have hfr := fun j => OwnF.free HF6.out.own HSN.out j
        have f0 := hfr (i1 * 7)
        have f1 := hfr (i1 * 7 + 1)
        have f2 := hfr (i1 * 7 + 2)
        have f3 := hfr (i1 * 7 + 3)
        have f4 := hfr (i1 * 7 + 4)
        have f5 := hfr (i1 * 7 + 5)
        have f6 := hfr (i1 * 7 + 6)
        have hb1 := nd_build
        have hb2 := sp_build
        clear hfr
        go_upto_region 5 with fail
        go_wp2_with fail
        go_region
        have hi1 : i1 < sp2.length := (List.getElem?_eq_some_iff.1 HXX.out).1
        have hP7 := HF6.out.put HSN.out hi1 ⟨true, ⟨nodeO o, parO o, o.1.s⟩, i2⟩
        have HF7 := Lib.hid (hP7.1.next (Below.refl _ _).drew)
        have HK7 := Lib.hid ((HK6.out.trans hP7.2).trans (KeptF.of_below (Below.refl _ _).drew))
        have hgb := (HF6.out.own.put flatSp HSN.out ⟨true, ⟨nodeO o, parO o, o.1.s⟩, i2⟩ hi1).2
        have hg1 := HD.out.bn b rfl
        have hbl : b < w4.heap.size := (HD.out.fr.own.lt (g := b) rfl).2
        have hb64 := HB6.out.size
        have HE7 : Hid (Blk (setsF w6 b (i1 * 7) (SpD.enc ⟨true, ⟨nodeO o, parO o, o.1.s⟩, i2⟩) 0).drew ge (cellsE ⟨o, x.th, x.n.par, x.n.key, false⟩ da dn dc)) := (HE.out.bx.keep (hgb.block ge (World.block_lt_of_cell? _ _ k16) (fun e => by injection e with e; have h1 := HE.out.gl; have h2 := HB5.out.size; omega))).drew
        have HZ7 : Hid (Blk (setsF w6 b (i1 * 7) (SpD.enc ⟨true, ⟨nodeO o, parO o, o.1.s⟩, i2⟩) 0).drew (g + 1) zEv) := (HZ6.out.keep (hgb.block (g + 1) (by have := HD.out.lt; omega) (fun e => hg1.2 (by injection e with e; exact e.symm)))).drew
        have HM7 : Hid (FoM ps2 (sp2.set i1 ⟨true, ⟨nodeO o, parO o, o.1.s⟩, i2⟩) (doneG ns o)) := by
          have h1 := HD.out.fm.put o.1.s HD.out.h1 HD.out.h2
          have h2 : doneG ns o = putN ns ⟨nodeO o, parO o, o.1.s⟩ := by
            unfold doneG
            rw [HRES.out]
            rfl
          show FoM _ _ _
          rw [h2]
          exact h1
        obtain ⟨w7, hw7⟩ : ∃ w7, (setsF w6 b (i1 * 7) (SpD.enc ⟨true, ⟨nodeO o, parO o, o.1.s⟩, i2⟩) 0).drew = w7 := ⟨_, rfl⟩
        rw [hw7] at HF7 HK7 HE7 HZ7
        simp only [setsF, SpD.enc, Nat.add_zero, Nat.reduceAdd, Nat.zero_add] at hw7
        rw [hw7]
        clear hw7 hP7 hgb hg1 hbl hb64 c0 c1 c2 c3 c4 c5 c6 c7 c8 c9 c10 c11 d1 e0 e1 e2 e3 e4 e5 e6 f0 f1 f2 f3 f4 f5 f6 hb1 hb2 k16
        have hld := loadVar_is aggE sizeE rfl (HE7.out.cells)
        have hst := ent_copy HZ7.out rfl ⟨o, x.th, x.n.par, x.n.key, false⟩ da dn dc
        have HZ8 : Hid (Blk (setsF w7 (g + 1) 0 (cellsE ⟨o, x.th, x.n.par, x.n.key, false⟩ da dn dc) 0) (g + 1) (cellsE ⟨o, x.th, x.n.par, x.n.key, false⟩ da dn dc)) := by
          have h := HZ7.out.sets (cellsE ⟨o, x.th, x.n.par, x.n.key, false⟩ da dn dc) 0
          rw [setsL_ent] at h
          exact h
        have HDE := Lib.hid (do_end HD.out HEN.out HRES.out HF7.out HM7.out HK7.out)
        generalize setsF w7 (g + 1) 0 (cellsE ⟨o, x.th, x.n.par, x.n.key, false⟩ da dn dc) 0 = w8 at hst HZ8 HDE
        have hrs := loadVar_is aggE sizeE rfl (HZ8.out.cells)
        go_upto_region 6 with fail
        refine wp_region_list ?_
        refine wpList_loadS rfl _ 54 rfl ge 0 rfl _ hld ?_
        refine wpList_storeS rfl _ _ 54 rfl (g + 1) 0 rfl _ rfl hst ?_
        refine wpList_nil ?_
        clear hld hst
        go_wp2
        refine bodyPost_ret (results_cell Tryd.results46 _ ⟨g + 1, 0, none⟩ rfl hrs) rfl ?_
        exact HDE.out
      · have HF7 := HF6
        have HK7 := HK6
        have HE7 : Hid (Blk w6 ge (cellsE ⟨o, x.th, x.n.par, x.n.key, true⟩ da dn dc)) := HE.out.bx
        have HZ7 := HZ6
        have HM7 : Hid (FoM ps2 sp2 (doneG ns o)) := by
          have h2 : doneG ns o = ns := by
            unfold doneG
            rw [HRES.out]
            rfl
          show FoM _ _ _
          rw [h2]
          exact HD.out.fm
        clear HF6 HK6 HZ6
        have hw67 : ∃ w7, w6 = w7 := ⟨_, rfl⟩
        clear hw67
        have hld := loadVar_is aggE sizeE rfl (HE7.out.cells)
        have hst := ent_copy HZ7.out rfl ⟨o, x.th, x.n.par, x.n.key, true⟩ da dn dc
        have HZ8 : Hid (Blk (setsF w6 (g + 1) 0 (cellsE ⟨o, x.th, x.n.par, x.n.key, true⟩ da dn dc) 0) (g + 1) (cellsE ⟨o, x.th, x.n.par, x.n.key, true⟩ da dn dc)) := by
          have h := HZ7.out.sets (cellsE ⟨o, x.th, x.n.par, x.n.key, true⟩ da dn dc) 0
          rw [setsL_ent] at h
          exact h
        have HDE := Lib.hid (do_end HD.out HEN.out HRES.out HF7.out HM7.out HK7.out)
        generalize setsF w6 (g + 1) 0 (cellsE ⟨o, x.th, x.n.par, x.n.key, true⟩ da dn dc) 0 = w8 at hst HZ8 HDE
        have hrs := loadVar_is aggE sizeE rfl (HZ8.out.cells)
        go_upto_region 6 with fail
        refine wp_region_list ?_
        refine wpList_loadS rfl _ 54 rfl ge 0 rfl _ hld ?_
        refine wpList_storeS rfl _ _ 54 rfl (g + 1) 0 rfl _ rfl hst ?_
        refine wpList_nil ?_
        clear hld hst
        go_wp2
        refine bodyPost_ret (results_cell Tryd.results46 _ ⟨g + 1, 0, none⟩ rfl hrs) rfl ?_
        exact HDE.out
end Go.Proofs.YtjlbpmmckgjajaaDoor
