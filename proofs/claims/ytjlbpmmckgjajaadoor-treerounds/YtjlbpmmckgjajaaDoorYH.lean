/- Joined: TE4 TC1 TC2 TQ0. -/
import Derived.Test.YtjlbpmmckgjajaaDoorYE
import Derived.Test.YtjlbpmmckgjajaaDoorYF
import Derived.BigRegion
import Derived.BigQuiet
import Derived.Deep.CutRange
import Derived.Lib.Strings
import Derived.Lib.UnsafeStr
import Derived.Laws.MakeOwn
import Derived.Lib.BufferWrite
import Derived.Lib.LazyBuf
import Derived.Lib.QuietBelow

/- Trees: a tree's moves done one by one: words, the ends of it. -/
namespace Go.Proofs.YtjlbpmmckgjajaaDoor
open Go.RowKit Go.Lib Go.Maps
set_option linter.unusedVariables false

abbrev valT (na : Option Addr) (nn nc : Nat) (ma : Option Addr) (mn mc : Nat) : Value := .agg #[.slice na nn nc, .slice ma mn mc]
abbrev objT (na : Option Addr) (nn nc : Nat) (ma : Option Addr) (mn mc : Nat) : Obj := .cells #[.slice na nn nc, .slice ma mn mc] 25
abbrev objF (g : Nat) : Obj := .cells #[.map (some g), .slice none 0 0] 77
def entsY (ys : List EV) : List ED := ys.map (·.1)
theorem entsY_at {ys : List EV} {i : Nat} {y : EV} (h : ys[i]? = some y) : (entsY ys)[i]? = some y.1 := by
  unfold entsY
  rw [List.getElem?_map, h]
  rfl
theorem entsY_len (ys : List EV) : (entsY ys).length = ys.length := by simp [entsY]
/-- a tree in memory: its two rows -/
structure TrR (w : World) (na : Option Addr) (ns : List ND) (nn : Nat) (ma : Option Addr) (ys : List EV) (mn : Nat) : Prop where
  nr : RowF 5 ND.enc w na ns
  nl : nn = ns.length
  nm : ns.length ≤ 4398046511104
  mr : RowM w ma ys
  ml : mn = ys.length
theorem TrR.next {w w' : World} {na : Option Addr} {ns : List ND} {nn : Nat} {ma : Option Addr} {ys : List EV} {mn : Nat} (h : TrR w na ns nn ma ys mn) (hb : Below w.heap.size w w') : TrR w' na ns nn ma ys mn := ⟨h.nr.next flatN hb, h.nl, h.nm, h.mr.next hb, h.ml⟩
theorem FoR.mono {W : World} {base base' fp bm : Nat} {sv : Value} {ps : List Pl} {sp : List SpD} (h : FoR W base fp bm sv ps sp) (hb : base' ≤ base) : FoR W base' fp bm sv ps sp := ⟨h.blk, h.map, h.own.mono hb, h.ln, h.wf, h.nd, Nat.le_trans hb h.b1, Nat.le_trans hb h.b2, h.ne, h.nv, h.sm⟩
theorem objF_new (w : World) (g : Nat) : Blk (w.alloc (objF g)) w.heap.size [.map (some g), .slice none 0 0] := by
  constructor
  · intro i u hi
    match i, hi with
    | 0, hi | 1, hi => simp at hi; subst hi; simp
    | _ + 2, hi => simp at hi
  · intro i u hi
    exact World.frozen?_alloc_at (w := w) _ _ _ _ rfl
theorem objT_new (w : World) (na : Option Addr) (nn nc : Nat) (ma : Option Addr) (mn mc : Nat) : Blk (w.alloc (objT na nn nc ma mn mc)) w.heap.size [.slice na nn nc, .slice ma mn mc] := by
  constructor
  · intro i u hi
    match i, hi with
    | 0, hi | 1, hi => simp at hi; subst hi; simp
    | _ + 2, hi => simp at hi
  · intro i u hi
    exact World.frozen?_alloc_at (w := w) _ _ _ _ rfl
theorem FoR.start (w : World) (g : Nat) (hg : w.heap.size = g) (b : Nat) (hb : b ≤ g) : FoR ((w.alloc (.map #[] 0)).alloc (objF g)) b (g + 1) g (.slice none 0 0) [] [] := by
  subst hg
  have h1 := World.ownsMap_made (H := Unit) w Tryd.prog 36 (plainElem Tryd.prog 3)
  have h2 := objF_new (w.alloc (.map #[] 0)) w.heap.size
  rw [World.size_alloc] at h2
  exact ⟨h2, h1.alloc _, OwnF.nil _ _, rfl, fun s hs => by simp at hs, List.Pairwise.nil, by omega, hb, by omega, ⟨by simp [Value.ownBlock], by simp [Value.ownBlock]⟩, by simp⟩
/-- ahead of the move with a number -/
structure GrI (g : Nat) (W : World) (es : List ED) (T0 T1 : Value) (wr : World) (k : Nat) (sv : Value) (ps : List Pl) (sp : List SpD) : Prop where
  fr : FoR wr (g + 1) (g + 2) (g + 1) sv ps sp
  fm : FoM ps sp (nodesG (opsE (es.take k)))
  up : UpTo es k
  ln : ps.length ≤ 2 * k
  bl : Below g W wr
  c0 : wr.cell? ⟨g, 0, none⟩ = some T0
  c1 : wr.cell? ⟨g, 1, none⟩ = some T1
theorem GrI.next {g : Nat} {W : World} {es : List ED} {T0 T1 : Value} {wr w' : World} {k : Nat} {sv : Value} {ps : List Pl} {sp : List SpD} (h : GrI g W es T0 T1 wr k sv ps sp) (hg : W.heap.size = g) (hb : Below wr.heap.size wr w') : GrI g W es T0 T1 w' k sv ps sp := by
  have h1 := World.block_lt_of_cell? _ _ h.c0
  have h2 := h.bl.size
  exact ⟨h.fr.next hb, h.fm, h.up, h.ln, h.bl.trans (hb.mono (by omega)), (hb.cell (p := ⟨g, 0, none⟩) h1).trans h.c0, (hb.cell (p := ⟨g, 1, none⟩) h1).trans h.c1⟩
/-- a move done: what its entry says is what it did -/
theorem GrI.step {g : Nat} {W : World} {es : List ED} {T0 T1 : Value} {wr w' : World} {k : Nat} {sv sv' : Value} {ps ps' : List Pl} {sp sp' : List SpD} {e : ED} (h : GrI g W es T0 T1 wr k sv ps sp) (hg : W.heap.size = g) (he : es[k]? = some e) (hm : moveB e.op = true) (hp : ∀ k' p, k = k' + 1 → es[k']? = some p → ltP (stO p.op) (stO e.op) = true) (hs : sameE (entG (nodesG (opsE (es.take k))) e.op) e = true)
    (hf : FoR w' (g + 1) (g + 2) (g + 1) sv' ps' sp') (hM : FoM ps' sp' (doneG (nodesG (opsE (es.take k))) e.op)) (hk : KeptF wr w' (g + 2) (g + 1) sv sv') (hl : ps'.length ≤ ps.length + 2) : GrI g W es T0 T1 w' (k + 1) sv' ps' sp' := by
  have h1 := World.block_lt_of_cell? _ _ h.c0
  have h2 := h.bl.size
  have hv : sv.ownBlock ≠ some g := fun e => by have := (h.fr.own.lt e).1; omega
  refine ⟨hf, by rw [nodes_step he]; exact hM, h.up.step he hm hp hs, by have := h.ln; omega, h.bl.trans (hk.below (by omega) (by omega) (by omega) fun b hb => by have := (h.fr.own.lt hb).1; omega), ?_, ?_⟩
  · rw [hk.cell (p := ⟨g, 0, none⟩) h1 (by simp only; omega) (by simp only; omega) hv]; exact h.c0
  · rw [hk.cell (p := ⟨g, 1, none⟩) h1 (by simp only; omega) (by simp only; omega) hv]; exact h.c1
def GrownPost (W : World) (ns : List ND) (es : List ED) (e : Ending) (w' : World) : Prop :=
  Below W.heap.size W w' ∧ ((TreeP ns es ∧ ∃ fp bm sv ps sp, e = .returned (.tuple #[.pointer (some ⟨fp, 0, none⟩), .int .i64 0]) ∧ FoR w' W.heap.size fp bm sv ps sp ∧ FoM ps sp ns ∧ ps.length ≤ 2 * es.length) ∨ (¬ TreeP ns es ∧ e = .returned (.tuple #[.pointer none, .int .i64 1])))
end Go.Proofs.YtjlbpmmckgjajaaDoor

/- Trees: a row of numbers, a text copied. -/
namespace Go.Proofs.YtjlbpmmckgjajaaDoor
open Go.RowKit Go.Lib
set_option linter.unusedVariables false

theorem ownK_empty (w : World) : OwnK .i64 3 (w.alloc (.cells #[] 3)) w.heap.size (.slice (some ⟨w.heap.size, 0, none⟩) 0 0) [] :=
  ⟨rfl, .inr ⟨w.heap.size, 0, #[], rfl, Nat.le_refl _, heap_alloc_new w _, Nat.le_refl _, by simp [maxLen], rfl, rfl⟩⟩
theorem below_grew {w W w' : World} {v v' : Value} {zs ys : List Int} (hb : Below w.heap.size w W) (hg : Grew .i64 3 w.heap.size W v zs ys v' w') : Below w.heap.size w w' := hg.bel _ _ hb (Nat.le_refl _) hb.size
set_option maxHeartbeats 400000 in
theorem wpI_row {ops : Array Oper} {rest : List Oper} {o : Oper} {a : Act} {Q : Exit → Act → World → Prop} (hgd : o.guard = none) (s x : Operand)
    (ho : o.op = .call { callee := .builtin .append, args := #[s, x], argTypes := #[37, 37] }) (base : Nat) (W : World) (v : Value) (zs ys : List Int) (ax : Option Addr) (n c : Nat) (hn : n = ys.length) (hs : a.eval s = v) (hown : OwnK .i64 3 W base v zs)
    (hx : a.eval x = .slice ax n c) (hrow : RowK .i64 W ax ys) (hlen : (zs.length + ys.length) * 8 ≤ 140737488355328) (hbase : base ≤ W.heap.size)
    (h : ∀ v' w', Grew .i64 3 base W v zs ys v' w' → wpList Tryd.prog ops Q rest (a.put o.dst v') w') : wpList Tryd.prog ops Q (o :: rest) a W := by
  obtain ⟨v', w', hr, hg⟩ := run_row (t := 37) (ty := o.type) (bytes := 8) (fun _ => rfl) Tryd.underlying37 Tryd.info3 base W W v zs ys ax n c (Below.refl W.heap.size W) hn hown hrow hlen (by omega) hbase
  refine wpList_plain hgd fun _ hK => ?_
  unfold Oper.wp execOp
  simp only [ho, resolve, invoke, builtin, Sem.run_bind, Sem.run_pure, Result.andThen_ok, List.map_toArray, List.map_cons, List.map_nil, hs, hx, hr]
  exact hK _ _ (h v' w' hg)
def ClonePost (zs : List Int) (w : World) (e : Ending) (w' : World) : Prop := ∃ v, e = .returned v ∧ OwnK .i64 3 w' w.heap.size v zs ∧ Below w.heap.size w w'
set_option maxHeartbeats 1000000 in
set_option maxRecDepth 100000 in
theorem clone_any (a : Option Addr) (zs : List Int) (n c : Nat) (w : World) (hr : RowK .i64 w a zs) (hn : n = zs.length) (h1 : 1 ≤ zs.length) (hl : zs.length * 8 ≤ 140737488355328) : Calls Tryd.prog 73 #[.slice a n c] w (ClonePost zs w) := by
  obtain ⟨b, off, rfl, _⟩ := hr 0 (by omega)
  have HR := Lib.hid (hr.alloc (.cells #[] 3))
  have HN := Lib.hid hn
  have HO := Lib.hid (ownK_empty w)
  have HB := Lib.hid (box_bel w (.cells #[] 3))
  have hnil : ∀ W, (binOp .eql 37 (.slice (some ⟨b, off, none⟩) n c) (.slice none 0 0)).run Tryd.prog W = .ok (.bool false) W := fun W => run_eql_slice_nil W 37 3 (some ⟨b, off, none⟩) n c Tryd.underlying37
  clear hr hn
  go_enter Tryd.func73, Tryd.ntmps73
  go_wp2_with (at_builtin
               refine wpI_row rfl _ _ rfl w.heap.size _ (.slice (some ⟨w.heap.size, 0, none⟩) 0 0) [] zs (some ⟨b, off, none⟩) n c HN.out rfl HO.out rfl HR.out (by simp; omega) HB.out.size ?_
               intro v1 w1 hg1
               have HG := Lib.hid hg1
               clear hg1)
  go_ret
  exact ⟨_, rfl, by have := HG.out.own; rw [List.nil_append] at this; exact this, below_grew HB.out HG.out⟩

theorem Tryd.info5' : (Tryd.prog.info? 5).map (·.size) = some 1 := by kernel_rfl
set_option maxHeartbeats 4000000 in
set_option maxRecDepth 100000 in
theorem strClone0_any (s : ByteArray) (w : World) (hl : s.size ≤ 65536) : Calls Tryd.prog 74 #[.string s] w fun e w' => e = .returned (.string s) ∧ Below w.heap.size w w' := by
  by_cases h0 : s.size = 0
  · have hs : s = ⟨#[]⟩ := by
      apply ByteArray.ext
      exact Array.eq_empty_of_size_eq_zero h0
    subst hs
    go_enter Tryd.func74, Tryd.ntmps74
    go_wp2
    go_ret
    exact ⟨rfl, Below.refl _ _⟩
  · obtain ⟨i0, hi, hz0, hz1, hz2⟩ := info_parts Tryd.info5
    have hco : Tryd.prog.cellsOf 5 = 1 := by kernel_rfl
    obtain ⟨M, hM⟩ : ∃ M, M = madeCells (Value.int .u8 0).cells (((s.size : Nat) : Int).toNat * i0.size) := ⟨_, rfl⟩
    have hMs : M.size = s.size := by rw [hM, size_madeCells, hz1]; simp
    have hmk : ∀ W : World, (Instr.makeSlice 118 (.int .i64 (s.size : Int)) (.int .i64 (s.size : Int))).run Tryd.prog W = .ok (.slice (some ⟨W.heap.size, 0, none⟩) s.size s.size) (W.alloc (.cells M 5)) := fun W => by
      have h := run_make (P := Tryd.prog) W 118 5 i0 (.int .u8 0) Tryd.underlying118 hi hz0 .i64 .i64 (s.size : Int) (s.size : Int) (by omega) (by omega) (by rw [hz2]; omega) (by omega)
      rw [← hM] at h
      simpa using h
    clear hM
    have hcp := Lib.run_copy_row_string (P := Tryd.prog) (w.alloc (.cells M 5)) 118 9 3 5 w.heap.size 0 s.size s.size s M 5 Tryd.underlying118 Tryd.info5' (heap_alloc_new w _) (Nat.le_refl _) (by omega)
    obtain ⟨Y, hY⟩ : ∃ Y, Y = (M.toList.take 0 ++ Lib.byteCells s.data.toList ++ M.toList.drop (0 + s.size)).toArray := ⟨_, rfl⟩
    rw [← hY] at hcp
    have hYl : Y.toList = Lib.byteCells s.data.toList := by
      rw [hY, List.toList_toArray, List.take_zero, List.nil_append, List.drop_of_length_le (by rw [Array.length_toList]; omega), List.append_nil]
    have hYs : Y.size = s.size := by rw [← Array.length_toList, hYl, Lib.byteCells_length, ← Lib.size_eq]
    have hgY : ((w.alloc (.cells M 5)).setRow w.heap.size Y).heap[w.heap.size]? = some (.cells Y 5 (0, 0)) := setRow_heap _ _ M _ 5 (0, 0) (heap_alloc_new w _)
    have hne : s.data.toList ≠ [] := fun e => h0 (by rw [Lib.size_eq, e]; rfl)
    have hUS := Lib.run_unsafeString_row (P := Tryd.prog) ((w.alloc (.cells M 5)).setRow w.heap.size Y) 119 3 9 5 Tryd.underlying119 hco w.heap.size Y.size (by unfold World.shape?; rw [hgY]) s.data.toList hne (by rw [← Lib.size_eq]; omega) (by rw [← Lib.size_eq]; omega)
      (fun j x hx => Lib.cells_of_row hgY Y.size j _ (by rw [List.take_of_length_le (by rw [Array.length_toList]; exact Nat.le_refl _), hYl]; simp [Lib.byteCells, hx]))
    rw [← Lib.size_eq] at hUS
    clear hY
    go_enter Tryd.func74, Tryd.ntmps74
    go_wp2
    go_ret
    have hb1 : Below w.heap.size w (w.alloc (.cells M 5)) := box_bel w _
    have hb2 : Below w.heap.size (w.alloc (.cells M 5)) ((w.alloc (.cells M 5)).setRow w.heap.size Y) := ⟨rfl, rfl, rfl, by simp, fun k hk => setRow_other _ _ _ _ (by omega)⟩
    exact ⟨rfl, Lib.below_freeze (hb1.trans hb2) (p := ⟨w.heap.size, 0, none⟩) (Nat.le_refl _) _⟩
theorem strClone_any (s : ByteArray) (w : World) (hl : s.size ≤ 65536) : Calls Tryd.prog 52 #[.string s] w fun e w' => e = .returned (.string s) ∧ Below w.heap.size w w' := by
  have C := Lib.hid (strClone0_any s w hl)
  clear hl
  go_enter Tryd.func52, Tryd.ntmps52
  go_wp2_with fail
  refine (C.out).mono ?_
  rintro e w1 ⟨rfl, hb1⟩
  have HB1 := Lib.hid hb1
  clear hb1
  go_wp2
  go_ret
  exact ⟨rfl, HB1.out⟩
end Go.Proofs.YtjlbpmmckgjajaaDoor

/- Trees: an operation copied. -/
namespace Go.Proofs.YtjlbpmmckgjajaaDoor
open Go.RowKit Go.Lib
set_option linter.unusedVariables false

theorem blkX_new (w : World) (x : OpD) (da : Option Addr) (dn dc : Nat) : Blk (w.alloc (objO x da dn dc)) w.heap.size (x.1.cells x.2 (.slice da dn dc)) := blkO_new w x.1.t x.1.r x.2 (.slice da dn dc) x.1.k x.1.nt x.1.nr x.1.pt x.1.pr x.1.s x.1.p x.1.v x.1.ds
def CopiedPost (x : OpD) (w : World) (e : Ending) (w' : World) : Prop := ∃ da dc, e = .returned (valO x da x.1.ds.length dc) ∧ OwnK .i64 3 w' w.heap.size (.slice da x.1.ds.length dc) x.1.ds ∧ Below w.heap.size w w'
set_option maxHeartbeats 4000000 in
set_option maxRecDepth 100000 in
theorem copied_any (x : OpD) (da : Option Addr) (dc : Nat) (w : World) (hr : RowK .i64 w da x.1.ds) (hok : moveB x = true) : Calls Tryd.prog 51 #[valO x da x.1.ds.length dc] w (CopiedPost x w) := by
  have hl := moveB_ds hok
  have hk := moveB_key hok
  obtain ⟨g, hg⟩ : ∃ g, w.heap.size = g := ⟨_, rfl⟩
  have HG : Hid (w.heap.size = g) := hg
  obtain ⟨W, hW⟩ : ∃ W, W = (w.alloc (objO x da x.1.ds.length dc)).alloc (.cells #[.int .i64 0, .int .i64 0, .int .i64 0, .slice none 0 0, .int .i64 0, .int .i64 0, .int .i64 0, .int .i64 0, .int .i64 0, .string ⟨#[]⟩, .int .i64 0, .int .i64 0] 39) := ⟨_, rfl⟩
  have HB0 : Hid (Below w.heap.size w W) := by rw [hW]; exact St.below2 w _ _
  have HSZ : Hid (W.heap.size = g + 2) := by show _ = _; rw [hW]; simp [hg]
  have HX : Hid (Blk W g (x.1.cells x.2 (.slice da x.1.ds.length dc))) := by
    have h1 := (blkX_new w x da x.1.ds.length dc).next (box_bel _ (.cells #[.int .i64 0, .int .i64 0, .int .i64 0, .slice none 0 0, .int .i64 0, .int .i64 0, .int .i64 0, .int .i64 0, .int .i64 0, .string ⟨#[]⟩, .int .i64 0, .int .i64 0] 39))
    rw [← hW, hg] at h1
    exact h1
  have HR : Hid (Blk W (g + 1) (zR.cells 0 (.slice none 0 0))) := by
    have h1 := blk_new (w.alloc (objO x da x.1.ds.length dc))
    rw [← hW, World.size_alloc, hg] at h1
    exact h1
  have C := Lib.hid (clone_any da x.1.ds x.1.ds.length dc W (hr.below HB0.out (Nat.le_refl _)) rfl hl.1 (by omega))
  have D := Lib.hid (fun W2 => strClone_any x.1.s W2 (by omega))
  clear hr hk hl hok
  obtain ⟨dn, hdn⟩ : ∃ dn, x.1.ds.length = dn := ⟨_, rfl⟩
  have HDN := Lib.hid hdn
  unfold CopiedPost
  rw [hdn] at C ⊢
  unfold valO
  go_enter Tryd.func51, Tryd.ntmps51
  go_wp2_with fail
  rw [hdn] at hW
  subst hW
  refine (C.out).mono ?_
  rintro e w1 ⟨v1, rfl, ho, hb⟩
  have HO1 := Lib.hid (ho.mono (show g + 2 ≤ _ from Nat.le_of_eq HSZ.out.symm))
  have HL1 := Lib.hid (HB0.out.trans (hb.mono HB0.out.size))
  have HR1 := Lib.hid (HR.out.next hb)
  have HX1 := Lib.hid (HX.out.next hb)
  have HZ1 : Hid (g + 2 ≤ w1.heap.size) := by have h1 := HSZ.out; have h2 := hb.size; show _ ≤ _; omega
  obtain ⟨a1, n1, c1, rfl, hn1, -, -⟩ := ho.form'
  obtain rfl : n1 = dn := by have := HDN.out; omega
  clear ho hb hn1 HR HX C HB0 HSZ hdn
  have x3 := HX1.out.cell 3 _ rfl
  have xf3 := HX1.out.free 3 _ rfl
  have x9 := HX1.out.cell 9 _ rfl
  have x9' : (w1.setCell ⟨g, 3, none⟩ (.slice a1 n1 c1)).cell? ⟨g, 9, none⟩ = some (.string x.1.s) := (HX1.out.set 3 (.slice a1 n1 c1)).cell 9 _ rfl
  go_wp2_with fail
  refine (D.out _).mono ?_
  rintro e w2 ⟨rfl, hb2⟩
  have HX2 := Lib.hid ((HX1.out.set 3 (.slice a1 n1 c1)).next hb2)
  have HR2 := Lib.hid ((HR1.out.other (b := g) (by omega) 3 (.slice a1 n1 c1)).next hb2)
  have HO2 := Lib.hid ((HO1.out.far (show g < g + 2 by omega) 3 (.slice a1 n1 c1)).below hb2)
  have HL2 := Lib.hid ((HL1.out.setCell (p := ⟨g, 3, none⟩) (by have := HG.out; show w.heap.size ≤ g; omega) (.slice a1 n1 c1)).trans (hb2.mono (by have := HL1.out.size; simpa using this)))
  clear hb2 x3 xf3 x9 x9' HX1 HR1 HO1 HL1 D HZ1
  have xc0 := HX2.out.cell 0 _ rfl
  have xc1 := HX2.out.cell 1 _ rfl
  have xc2 := HX2.out.cell 2 _ rfl
  have xc3 := HX2.out.cell 3 _ rfl
  have xc4 := HX2.out.cell 4 _ rfl
  have xc5 := HX2.out.cell 5 _ rfl
  have xc6 := HX2.out.cell 6 _ rfl
  have xc7 := HX2.out.cell 7 _ rfl
  have xc8 := HX2.out.cell 8 _ rfl
  have xc9 := HX2.out.cell 9 _ rfl
  have xc10 := HX2.out.cell 10 _ rfl
  have xc11 := HX2.out.cell 11 _ rfl
  have xf9 := HX2.out.free 9 _ rfl
  have zc0 := HR2.out.cell 0 _ rfl
  have zf0 := HR2.out.free 0 _ rfl
  have zc1 := HR2.out.cell 1 _ rfl
  have zf1 := HR2.out.free 1 _ rfl
  have zc2 := HR2.out.cell 2 _ rfl
  have zf2 := HR2.out.free 2 _ rfl
  have zc3 := HR2.out.cell 3 _ rfl
  have zf3 := HR2.out.free 3 _ rfl
  have zc4 := HR2.out.cell 4 _ rfl
  have zf4 := HR2.out.free 4 _ rfl
  have zc5 := HR2.out.cell 5 _ rfl
  have zf5 := HR2.out.free 5 _ rfl
  have zc6 := HR2.out.cell 6 _ rfl
  have zf6 := HR2.out.free 6 _ rfl
  have zc7 := HR2.out.cell 7 _ rfl
  have zf7 := HR2.out.free 7 _ rfl
  have zc8 := HR2.out.cell 8 _ rfl
  have zf8 := HR2.out.free 8 _ rfl
  have zc9 := HR2.out.cell 9 _ rfl
  have zf9 := HR2.out.free 9 _ rfl
  have zc10 := HR2.out.cell 10 _ rfl
  have zf10 := HR2.out.free 10 _ rfl
  have zc11 := HR2.out.cell 11 _ rfl
  have zf11 := HR2.out.free 11 _ rfl
  go_wp2
  have HZ := (((((((((((((HR2.out.other (b := g) (by omega) 9 (.string x.1.s)).set 0 (.int .i64 x.1.t)).set 1 (.int .i64 x.1.r)).set 2 (.int .i64 x.2)).set 3 (.slice a1 n1 c1)).set 4 (.int .i64 x.1.k)).set 5 (.int .i64 x.1.nt)).set 6 (.int .i64 x.1.nr)).set 7 (.int .i64 x.1.pt)).set 8 (.int .i64 x.1.pr)).set 9 (.string x.1.s)).set 10 (.int .i64 x.1.p)).set 11 (.int .i64 x.1.v))
  have z0 := HZ.cell 0 _ rfl
  have z1 := HZ.cell 1 _ rfl
  have z2 := HZ.cell 2 _ rfl
  have z3 := HZ.cell 3 _ rfl
  have z4 := HZ.cell 4 _ rfl
  have z5 := HZ.cell 5 _ rfl
  have z6 := HZ.cell 6 _ rfl
  have z7 := HZ.cell 7 _ rfl
  have z8 := HZ.cell 8 _ rfl
  have z9 := HZ.cell 9 _ rfl
  have z10 := HZ.cell 10 _ rfl
  have z11 := HZ.cell 11 _ rfl
  refine bodyPost_ret (v := .agg #[.int .i64 x.1.t, .int .i64 x.1.r, .int .i64 x.2, .slice a1 n1 c1, .int .i64 x.1.k, .int .i64 x.1.nt, .int .i64 x.1.nr, .int .i64 x.1.pt, .int .i64 x.1.pr, .string x.1.s, .int .i64 x.1.p, .int .i64 x.1.v]) (by simp [results, Tryd.results51, go_sem, z0, z1, z2, z3, z4, z5, z6, z7, z8, z9, z10, z11]) rfl ?_
  exact ⟨_, _, rfl, ((((((((((((((HO2.out.far (show g < g + 2 by omega) 9 (.string x.1.s)).far (show g + 1 < g + 2 by omega) 0 (.int .i64 x.1.t)).far (show g + 1 < g + 2 by omega) 1 (.int .i64 x.1.r)).far (show g + 1 < g + 2 by omega) 2 (.int .i64 x.2)).far (show g + 1 < g + 2 by omega) 3 (.slice a1 n1 c1)).far (show g + 1 < g + 2 by omega) 4 (.int .i64 x.1.k)).far (show g + 1 < g + 2 by omega) 5 (.int .i64 x.1.nt)).far (show g + 1 < g + 2 by omega) 6 (.int .i64 x.1.nr)).far (show g + 1 < g + 2 by omega) 7 (.int .i64 x.1.pt)).far (show g + 1 < g + 2 by omega) 8 (.int .i64 x.1.pr)).far (show g + 1 < g + 2 by omega) 9 (.string x.1.s)).far (show g + 1 < g + 2 by omega) 10 (.int .i64 x.1.p)).far (show g + 1 < g + 2 by omega) 11 (.int .i64 x.1.v))).mono (by have := HG.out; omega), (((((((((((((HL2.out.setCell (p := ⟨g, 9, none⟩) (by have := HG.out; show w.heap.size ≤ g; omega) (.string x.1.s)).setCell (p := ⟨g + 1, 0, none⟩) (by have := HG.out; show w.heap.size ≤ g + 1; omega) (.int .i64 x.1.t)).setCell (p := ⟨g + 1, 1, none⟩) (by have := HG.out; show w.heap.size ≤ g + 1; omega) (.int .i64 x.1.r)).setCell (p := ⟨g + 1, 2, none⟩) (by have := HG.out; show w.heap.size ≤ g + 1; omega) (.int .i64 x.2)).setCell (p := ⟨g + 1, 3, none⟩) (by have := HG.out; show w.heap.size ≤ g + 1; omega) (.slice a1 n1 c1)).setCell (p := ⟨g + 1, 4, none⟩) (by have := HG.out; show w.heap.size ≤ g + 1; omega) (.int .i64 x.1.k)).setCell (p := ⟨g + 1, 5, none⟩) (by have := HG.out; show w.heap.size ≤ g + 1; omega) (.int .i64 x.1.nt)).setCell (p := ⟨g + 1, 6, none⟩) (by have := HG.out; show w.heap.size ≤ g + 1; omega) (.int .i64 x.1.nr)).setCell (p := ⟨g + 1, 7, none⟩) (by have := HG.out; show w.heap.size ≤ g + 1; omega) (.int .i64 x.1.pt)).setCell (p := ⟨g + 1, 8, none⟩) (by have := HG.out; show w.heap.size ≤ g + 1; omega) (.int .i64 x.1.pr)).setCell (p := ⟨g + 1, 9, none⟩) (by have := HG.out; show w.heap.size ≤ g + 1; omega) (.string x.1.s)).setCell (p := ⟨g + 1, 10, none⟩) (by have := HG.out; show w.heap.size ≤ g + 1; omega) (.int .i64 x.1.p)).setCell (p := ⟨g + 1, 11, none⟩) (by have := HG.out; show w.heap.size ≤ g + 1; omega) (.int .i64 x.1.v))⟩
end Go.Proofs.YtjlbpmmckgjajaaDoor

/- A whole struct read in a drawn region that only reads. -/
namespace Go.Proofs.YtjlbpmmckgjajaaDoor
open Go.RowKit Go.Lib Go.BigFrame
set_option linter.unusedVariables false

theorem quiet_loadS {C : World → Prop} {a : Act} {o : Oper} {K : Act → Prop} (p : Operand) (T : TypeId) (ho : o.op = .load T p) (g f : Nat) (hp : a.eval p = .pointer (some ⟨g, f, none⟩)) (v : Value) (hr : ∀ w, C w → (loadVar T ⟨g, f, none⟩).run Tryd.prog w = .ok v w) (hk : K (a.put o.dst v)) : o.quiet Tryd.prog a C K :=
  ⟨v, fun w hw => by
    have h := hr w hw
    unfold Oper.quietAt
    simp [execOp, ho, hp, Instr.loadAt, Instr.sureAddr, h, Result.andThen, Oper.quietUpon], hk⟩
theorem CellsAt.regrown {w : World} {g o : Nat} {cs : List Value} (h : CellsAt w g o cs) (d : Nat) (os : Array Obj) : CellsAt (Go.Sort.grow (redrawn w d) os) g o cs := fun j u hu => cell_regrown (h j u hu) d os
/-- an entry, an operation, a node read in each world of the class -/
theorem loadQ_ent {w : World} {g o : Nat} {x : ED} {da : Option Addr} {dn dc : Nat} (h : CellsAt w g o (cellsE x da dn dc)) (w' : World) (hw : ∃ p : Regrown, w' = Go.Sort.grow (redrawn w p.d) p.os) : (loadVar 54 ⟨g, o, none⟩).run Tryd.prog w' = .ok (valE x da dn dc) w' := by
  obtain ⟨p, rfl⟩ := hw
  exact loadVar_is aggE sizeE rfl (h.regrown p.d p.os)
theorem aggO (w : World) : (isAgg 39).run Tryd.prog w = .ok true w := by
  simp [isAgg, run_underlying Tryd.underlying39, Sem.run_bind, Result.andThen]
theorem sizeO (w : World) : (Go.sizeOf 39).run Tryd.prog w = .ok 12 w := by
  obtain ⟨i0, hi, hz0, hz1, hz2⟩ := info_parts Tryd.info39
  simp [Go.sizeOf, typeInfo, hi, hz1]
theorem loadQ_op {w : World} {g o : Nat} {x : OpD} {da : Option Addr} {dn dc : Nat} (h : CellsAt w g o (x.1.cells x.2 (.slice da dn dc))) (w' : World) (hw : ∃ p : Regrown, w' = Go.Sort.grow (redrawn w p.d) p.os) : (loadVar 39 ⟨g, o, none⟩).run Tryd.prog w' = .ok (valO x da dn dc) w' := by
  obtain ⟨p, rfl⟩ := hw
  exact loadVar_is aggO sizeO rfl (h.regrown p.d p.os)
/-- an entry's operation is what it begins with -/
theorem CellsAt.op {w : World} {g o : Nat} {x : ED} {da : Option Addr} {dn dc : Nat} (h : CellsAt w g o (cellsE x da dn dc)) : CellsAt w g o (x.op.1.cells x.op.2 (.slice da dn dc)) := fun j u hu => by
  refine h j u ?_
  have hj := (List.getElem?_eq_some_iff.1 hu).1
  have e : cellsE x da dn dc = x.op.1.cells x.op.2 (.slice da dn dc) ++ [.bool x.was, .int .i64 x.par.1, .int .i64 x.par.2, .string x.key, .bool x.idle] := rfl
  rw [e, List.getElem?_append_left hj]
  exact hu
end Go.Proofs.YtjlbpmmckgjajaaDoor
