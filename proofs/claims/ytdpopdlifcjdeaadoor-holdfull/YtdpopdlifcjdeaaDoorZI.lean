/- Joined: D6 D7 D8 D9. -/
import Derived.Test.YtdpopdlifcjdeaaDoorZH
import Derived.Lib.Strings
import Derived.Lib.UnsafeStr
import Derived.Laws.MakeOwn
import Derived.Lib.BufferWrite
import Derived.Lib.LazyBuf
import Derived.Test.YtdpopdlifcjdeaaDoorZG

/- Hold: a row of numbers, a text, an operation copied. -/
namespace Go.Proofs.YtdpopdlifcjdeaaDoor
open Go.RowKit Go.Lib
set_option linter.unusedVariables false

theorem ownK_empty (w : World) : OwnK .i64 3 (w.alloc (.cells #[] 3)) w.heap.size (.slice (some ⟨w.heap.size, 0, none⟩) 0 0) [] :=
  ⟨rfl, .inr ⟨w.heap.size, 0, #[], rfl, Nat.le_refl _, heap_alloc_new w _, Nat.le_refl _, by simp [maxLen], rfl, rfl⟩⟩
theorem below_grew {w W w' : World} {v v' : Value} {zs ys : List Int} (hb : Below w.heap.size w W) (hg : Grew .i64 3 w.heap.size W v zs ys v' w') : Below w.heap.size w w' := hg.bel _ _ hb (Nat.le_refl _) hb.size
set_option maxHeartbeats 400000 in
theorem wpI_row {ops : Array Oper} {rest : List Oper} {o : Oper} {a : Act} {Q : Exit → Act → World → Prop} (hgd : o.guard = none) (s x : Operand)
    (ho : o.op = .call { callee := .builtin .append, args := #[s, x], argTypes := #[22, 22] }) (base : Nat) (W : World) (v : Value) (zs ys : List Int) (ax : Option Addr) (n c : Nat) (hn : n = ys.length) (hs : a.eval s = v) (hown : OwnK .i64 3 W base v zs)
    (hx : a.eval x = .slice ax n c) (hrow : RowK .i64 W ax ys) (hlen : (zs.length + ys.length) * 8 ≤ 140737488355328) (hbase : base ≤ W.heap.size)
    (h : ∀ v' w', Grew .i64 3 base W v zs ys v' w' → wpList Tryd.prog ops Q rest (a.put o.dst v') w') : wpList Tryd.prog ops Q (o :: rest) a W := by
  obtain ⟨v', w', hr, hg⟩ := run_row (t := 22) (ty := o.type) (bytes := 8) (fun _ => rfl) Tryd.underlying22 Tryd.info3 base W W v zs ys ax n c (Below.refl W.heap.size W) hn hown hrow hlen (by omega) hbase
  refine wpList_plain hgd fun _ hK => ?_
  unfold Oper.wp execOp
  simp only [ho, resolve, invoke, builtin, Sem.run_bind, Sem.run_pure, Result.andThen_ok, List.map_toArray, List.map_cons, List.map_nil, hs, hx, hr]
  exact hK _ _ (h v' w' hg)
def ClonePost (zs : List Int) (w : World) (e : Ending) (w' : World) : Prop := ∃ v, e = .returned v ∧ OwnK .i64 3 w' w.heap.size v zs ∧ Below w.heap.size w w'
set_option maxHeartbeats 1000000 in
set_option maxRecDepth 100000 in
theorem clone_any (a : Option Addr) (zs : List Int) (n c : Nat) (w : World) (hr : RowK .i64 w a zs) (hn : n = zs.length) (h1 : 1 ≤ zs.length) (hl : zs.length * 8 ≤ 140737488355328) : Calls Tryd.prog 40 #[.slice a n c] w (ClonePost zs w) := by
  obtain ⟨b, off, rfl, _⟩ := hr 0 (by omega)
  have HR := Lib.hid (hr.alloc (.cells #[] 3))
  have HN := Lib.hid hn
  have HO := Lib.hid (ownK_empty w)
  have HB := Lib.hid (box_bel w (.cells #[] 3))
  have hnil : ∀ W, (binOp .eql 22 (.slice (some ⟨b, off, none⟩) n c) (.slice none 0 0)).run Tryd.prog W = .ok (.bool false) W := fun W => run_eql_slice_nil W 22 3 (some ⟨b, off, none⟩) n c Tryd.underlying22
  clear hr hn
  go_enter Tryd.func40, Tryd.ntmps40
  go_wp2_with (at_builtin
               refine wpI_row rfl _ _ rfl w.heap.size _ (.slice (some ⟨w.heap.size, 0, none⟩) 0 0) [] zs (some ⟨b, off, none⟩) n c HN.out rfl HO.out rfl HR.out (by simp; omega) HB.out.size ?_
               intro v1 w1 hg1
               have HG := Lib.hid hg1
               clear hg1)
  go_ret
  exact ⟨_, rfl, by have := HG.out.own; rw [List.nil_append] at this; exact this, below_grew HB.out HG.out⟩

theorem Tryd.info5' : (Tryd.prog.info? 5).map (·.size) = some 1 := by kernel_rfl
set_option maxHeartbeats 4000000 in
set_option maxRecDepth 100000 in
theorem strClone0_any (s : ByteArray) (w : World) (hl : s.size ≤ 65536) : Calls Tryd.prog 80 #[.string s] w fun e w' => e = .returned (.string s) ∧ Below w.heap.size w w' := by
  by_cases h0 : s.size = 0
  · have hs : s = ⟨#[]⟩ := by
      apply ByteArray.ext
      exact Array.eq_empty_of_size_eq_zero h0
    subst hs
    go_enter Tryd.func80, Tryd.ntmps80
    go_wp2
    go_ret
    exact ⟨rfl, Below.refl _ _⟩
  · obtain ⟨i0, hi, hz0, hz1, hz2⟩ := info_parts Tryd.info5
    have hco : Tryd.prog.cellsOf 5 = 1 := by kernel_rfl
    obtain ⟨M, hM⟩ : ∃ M, M = madeCells (Value.int .u8 0).cells (((s.size : Nat) : Int).toNat * i0.size) := ⟨_, rfl⟩
    have hMs : M.size = s.size := by rw [hM, size_madeCells, hz1]; simp
    have hmk : ∀ W : World, (Instr.makeSlice 98 (.int .i64 (s.size : Int)) (.int .i64 (s.size : Int))).run Tryd.prog W = .ok (.slice (some ⟨W.heap.size, 0, none⟩) s.size s.size) (W.alloc (.cells M 5)) := fun W => by
      have h := run_make (P := Tryd.prog) W 98 5 i0 (.int .u8 0) Tryd.underlying98 hi hz0 .i64 .i64 (s.size : Int) (s.size : Int) (by omega) (by omega) (by rw [hz2]; omega) (by omega)
      rw [← hM] at h
      simpa using h
    clear hM
    have hcp := Lib.run_copy_row_string (P := Tryd.prog) (w.alloc (.cells M 5)) 98 9 3 5 w.heap.size 0 s.size s.size s M 5 Tryd.underlying98 Tryd.info5' (heap_alloc_new w _) (Nat.le_refl _) (by omega)
    obtain ⟨Y, hY⟩ : ∃ Y, Y = (M.toList.take 0 ++ Lib.byteCells s.data.toList ++ M.toList.drop (0 + s.size)).toArray := ⟨_, rfl⟩
    rw [← hY] at hcp
    have hYl : Y.toList = Lib.byteCells s.data.toList := by
      rw [hY, List.toList_toArray, List.take_zero, List.nil_append, List.drop_of_length_le (by rw [Array.length_toList]; omega), List.append_nil]
    have hYs : Y.size = s.size := by rw [← Array.length_toList, hYl, Lib.byteCells_length, ← Lib.size_eq]
    have hgY : ((w.alloc (.cells M 5)).setRow w.heap.size Y).heap[w.heap.size]? = some (.cells Y 5 (0, 0)) := setRow_heap _ _ M _ 5 (0, 0) (heap_alloc_new w _)
    have hne : s.data.toList ≠ [] := fun e => h0 (by rw [Lib.size_eq, e]; rfl)
    have hUS := Lib.run_unsafeString_row (P := Tryd.prog) ((w.alloc (.cells M 5)).setRow w.heap.size Y) 99 3 9 5 Tryd.underlying99 hco w.heap.size Y.size (by unfold World.shape?; rw [hgY]) s.data.toList hne (by rw [← Lib.size_eq]; omega) (by rw [← Lib.size_eq]; omega)
      (fun j x hx => Lib.cells_of_row hgY Y.size j _ (by rw [List.take_of_length_le (by rw [Array.length_toList]; exact Nat.le_refl _), hYl]; simp [Lib.byteCells, hx]))
    rw [← Lib.size_eq] at hUS
    clear hY
    go_enter Tryd.func80, Tryd.ntmps80
    go_wp2
    go_ret
    have hb1 : Below w.heap.size w (w.alloc (.cells M 5)) := box_bel w _
    have hb2 : Below w.heap.size (w.alloc (.cells M 5)) ((w.alloc (.cells M 5)).setRow w.heap.size Y) := ⟨rfl, rfl, rfl, by simp, fun k hk => setRow_other _ _ _ _ (by omega)⟩
    exact ⟨rfl, Lib.below_freeze (hb1.trans hb2) (p := ⟨w.heap.size, 0, none⟩) (Nat.le_refl _) _⟩
theorem strClone_any (s : ByteArray) (w : World) (hl : s.size ≤ 65536) : Calls Tryd.prog 67 #[.string s] w fun e w' => e = .returned (.string s) ∧ Below w.heap.size w w' := by
  have C := Lib.hid (strClone0_any s w hl)
  clear hl
  go_enter Tryd.func67, Tryd.ntmps67
  go_wp2_with fail
  refine (C.out).mono ?_
  rintro e w1 ⟨rfl, hb1⟩
  have HB1 := Lib.hid hb1
  clear hb1
  go_wp2
  go_ret
  exact ⟨rfl, HB1.out⟩
end Go.Proofs.YtdpopdlifcjdeaaDoor

/- Hold: an operation copied; those above. -/
namespace Go.Proofs.YtdpopdlifcjdeaaDoor
open Go.RowKit Go.Lib
set_option linter.unusedVariables false

theorem ok_key {x : OpD} (h : x.ok = true) : x.1.s.size ≤ 64 := by
  unfold OpD.ok OpR.ok opB kndB at h
  simp only [Bool.and_eq_true] at h
  have h2 := h.2
  rw [← strN_len]
  split at h2
  · simp only [Bool.and_eq_true, Ky.keyB, decide_eq_true_eq] at h2
    exact h2.1.1.2.2
  · split at h2
    · simp only [Bool.and_eq_true, decide_eq_true_eq] at h2
      rw [h2.2]
      simp
    · cases h2
theorem ok_len {x : OpD} (h : x.ok = true) : 1 ≤ x.1.ds.length ∧ x.1.ds.length ≤ 16 := Hv.vecB_len (ok_facts h).ds
theorem blkX_new (w : World) (x : OpD) (da : Option Addr) (dn dc : Nat) : Blk (w.alloc (objO x da dn dc)) w.heap.size (x.1.cells x.2 (.slice da dn dc)) := blkO_new w x.1.t x.1.r x.2 (.slice da dn dc) x.1.k x.1.nt x.1.nr x.1.pt x.1.pr x.1.s x.1.p x.1.v x.1.ds
def CopiedPost (x : OpD) (w : World) (e : Ending) (w' : World) : Prop := ∃ da dc, e = .returned (valO x da x.1.ds.length dc) ∧ OwnK .i64 3 w' w.heap.size (.slice da x.1.ds.length dc) x.1.ds ∧ Below w.heap.size w w'
set_option maxHeartbeats 4000000 in
set_option maxRecDepth 100000 in
theorem copied_any (x : OpD) (da : Option Addr) (dc : Nat) (w : World) (hr : RowK .i64 w da x.1.ds) (hok : x.ok = true) : Calls Tryd.prog 46 #[valO x da x.1.ds.length dc] w (CopiedPost x w) := by
  have hl := ok_len hok
  have hk := ok_key hok
  obtain ⟨g, hg⟩ : ∃ g, w.heap.size = g := ⟨_, rfl⟩
  have HG : Hid (w.heap.size = g) := hg
  obtain ⟨W, hW⟩ : ∃ W, W = (w.alloc (objO x da x.1.ds.length dc)).alloc (.cells #[.int .i64 0, .int .i64 0, .int .i64 0, .slice none 0 0, .int .i64 0, .int .i64 0, .int .i64 0, .int .i64 0, .int .i64 0, .string ⟨#[]⟩, .int .i64 0, .int .i64 0] 32) := ⟨_, rfl⟩
  have HB0 : Hid (Below w.heap.size w W) := by rw [hW]; exact St.below2 w _ _
  have HSZ : Hid (W.heap.size = g + 2) := by show _ = _; rw [hW]; simp [hg]
  have HX : Hid (Blk W g (x.1.cells x.2 (.slice da x.1.ds.length dc))) := by
    have h1 := (blkX_new w x da x.1.ds.length dc).next (box_bel _ (.cells #[.int .i64 0, .int .i64 0, .int .i64 0, .slice none 0 0, .int .i64 0, .int .i64 0, .int .i64 0, .int .i64 0, .int .i64 0, .string ⟨#[]⟩, .int .i64 0, .int .i64 0] 32))
    rw [← hW, hg] at h1
    exact h1
  have HR : Hid (Blk W (g + 1) (zR.cells 0 (.slice none 0 0))) := by
    have h1 := blk_new (w.alloc (objO x da x.1.ds.length dc))
    rw [← hW, World.size_alloc, hg] at h1
    exact h1
  have C := Lib.hid (clone_any da x.1.ds x.1.ds.length dc W (hr.below HB0.out (Nat.le_refl _)) rfl hl.1 (by omega))
  have D := Lib.hid (fun W2 => strClone_any x.1.s W2 (by omega))
  clear hr hk hl hok
  obtain ⟨dn, hdn⟩ : ∃ dn, x.1.ds.length = dn := ⟨_, rfl⟩
  have HDN := Lib.hid hdn
  unfold CopiedPost
  rw [hdn] at C ⊢
  unfold valO
  go_enter Tryd.func46, Tryd.ntmps46
  go_wp2_with fail
  rw [hdn] at hW
  subst hW
  refine (C.out).mono ?_
  rintro e w1 ⟨v1, rfl, ho, hb⟩
  have HO1 := Lib.hid (ho.mono (show g + 2 ≤ _ from Nat.le_of_eq HSZ.out.symm))
  have HL1 := Lib.hid (HB0.out.trans (hb.mono HB0.out.size))
  have HR1 := Lib.hid (HR.out.next hb)
  have HX1 := Lib.hid (HX.out.next hb)
  have HZ1 : Hid (g + 2 ≤ w1.heap.size) := by have h1 := HSZ.out; have h2 := hb.size; show _ ≤ _; omega
  obtain ⟨a1, n1, c1, rfl, hn1, -, -⟩ := ho.form'
  obtain rfl : n1 = dn := by have := HDN.out; omega
  clear ho hb hn1 HR HX C HB0 HSZ hdn
  have x3 := HX1.out.cell 3 _ rfl
  have xf3 := HX1.out.free 3 _ rfl
  have x9 := HX1.out.cell 9 _ rfl
  have x9' : (w1.setCell ⟨g, 3, none⟩ (.slice a1 n1 c1)).cell? ⟨g, 9, none⟩ = some (.string x.1.s) := (HX1.out.set 3 (.slice a1 n1 c1)).cell 9 _ rfl
  go_wp2_with fail
  refine (D.out _).mono ?_
  rintro e w2 ⟨rfl, hb2⟩
  have HX2 := Lib.hid ((HX1.out.set 3 (.slice a1 n1 c1)).next hb2)
  have HR2 := Lib.hid ((HR1.out.other (b := g) (by omega) 3 (.slice a1 n1 c1)).next hb2)
  have HO2 := Lib.hid ((HO1.out.far (show g < g + 2 by omega) 3 (.slice a1 n1 c1)).below hb2)
  have HL2 := Lib.hid ((HL1.out.setCell (p := ⟨g, 3, none⟩) (by have := HG.out; show w.heap.size ≤ g; omega) (.slice a1 n1 c1)).trans (hb2.mono (by have := HL1.out.size; simpa using this)))
  clear hb2 x3 xf3 x9 x9' HX1 HR1 HO1 HL1 D HZ1
  have xc0 := HX2.out.cell 0 _ rfl
  have xc1 := HX2.out.cell 1 _ rfl
  have xc2 := HX2.out.cell 2 _ rfl
  have xc3 := HX2.out.cell 3 _ rfl
  have xc4 := HX2.out.cell 4 _ rfl
  have xc5 := HX2.out.cell 5 _ rfl
  have xc6 := HX2.out.cell 6 _ rfl
  have xc7 := HX2.out.cell 7 _ rfl
  have xc8 := HX2.out.cell 8 _ rfl
  have xc9 := HX2.out.cell 9 _ rfl
  have xc10 := HX2.out.cell 10 _ rfl
  have xc11 := HX2.out.cell 11 _ rfl
  have xf9 := HX2.out.free 9 _ rfl
  have zc0 := HR2.out.cell 0 _ rfl
  have zf0 := HR2.out.free 0 _ rfl
  have zc1 := HR2.out.cell 1 _ rfl
  have zf1 := HR2.out.free 1 _ rfl
  have zc2 := HR2.out.cell 2 _ rfl
  have zf2 := HR2.out.free 2 _ rfl
  have zc3 := HR2.out.cell 3 _ rfl
  have zf3 := HR2.out.free 3 _ rfl
  have zc4 := HR2.out.cell 4 _ rfl
  have zf4 := HR2.out.free 4 _ rfl
  have zc5 := HR2.out.cell 5 _ rfl
  have zf5 := HR2.out.free 5 _ rfl
  have zc6 := HR2.out.cell 6 _ rfl
  have zf6 := HR2.out.free 6 _ rfl
  have zc7 := HR2.out.cell 7 _ rfl
  have zf7 := HR2.out.free 7 _ rfl
  have zc8 := HR2.out.cell 8 _ rfl
  have zf8 := HR2.out.free 8 _ rfl
  have zc9 := HR2.out.cell 9 _ rfl
  have zf9 := HR2.out.free 9 _ rfl
  have zc10 := HR2.out.cell 10 _ rfl
  have zf10 := HR2.out.free 10 _ rfl
  have zc11 := HR2.out.cell 11 _ rfl
  have zf11 := HR2.out.free 11 _ rfl
  go_wp2
  have HZ := (((((((((((((HR2.out.other (b := g) (by omega) 9 (.string x.1.s)).set 0 (.int .i64 x.1.t)).set 1 (.int .i64 x.1.r)).set 2 (.int .i64 x.2)).set 3 (.slice a1 n1 c1)).set 4 (.int .i64 x.1.k)).set 5 (.int .i64 x.1.nt)).set 6 (.int .i64 x.1.nr)).set 7 (.int .i64 x.1.pt)).set 8 (.int .i64 x.1.pr)).set 9 (.string x.1.s)).set 10 (.int .i64 x.1.p)).set 11 (.int .i64 x.1.v))
  have z0 := HZ.cell 0 _ rfl
  have z1 := HZ.cell 1 _ rfl
  have z2 := HZ.cell 2 _ rfl
  have z3 := HZ.cell 3 _ rfl
  have z4 := HZ.cell 4 _ rfl
  have z5 := HZ.cell 5 _ rfl
  have z6 := HZ.cell 6 _ rfl
  have z7 := HZ.cell 7 _ rfl
  have z8 := HZ.cell 8 _ rfl
  have z9 := HZ.cell 9 _ rfl
  have z10 := HZ.cell 10 _ rfl
  have z11 := HZ.cell 11 _ rfl
  refine bodyPost_ret (v := .agg #[.int .i64 x.1.t, .int .i64 x.1.r, .int .i64 x.2, .slice a1 n1 c1, .int .i64 x.1.k, .int .i64 x.1.nt, .int .i64 x.1.nr, .int .i64 x.1.pt, .int .i64 x.1.pr, .string x.1.s, .int .i64 x.1.p, .int .i64 x.1.v]) (by simp [results, Tryd.results46, go_sem, z0, z1, z2, z3, z4, z5, z6, z7, z8, z9, z10, z11]) rfl ?_
  exact ⟨_, _, rfl, ((((((((((((((HO2.out.far (show g < g + 2 by omega) 9 (.string x.1.s)).far (show g + 1 < g + 2 by omega) 0 (.int .i64 x.1.t)).far (show g + 1 < g + 2 by omega) 1 (.int .i64 x.1.r)).far (show g + 1 < g + 2 by omega) 2 (.int .i64 x.2)).far (show g + 1 < g + 2 by omega) 3 (.slice a1 n1 c1)).far (show g + 1 < g + 2 by omega) 4 (.int .i64 x.1.k)).far (show g + 1 < g + 2 by omega) 5 (.int .i64 x.1.nt)).far (show g + 1 < g + 2 by omega) 6 (.int .i64 x.1.nr)).far (show g + 1 < g + 2 by omega) 7 (.int .i64 x.1.pt)).far (show g + 1 < g + 2 by omega) 8 (.int .i64 x.1.pr)).far (show g + 1 < g + 2 by omega) 9 (.string x.1.s)).far (show g + 1 < g + 2 by omega) 10 (.int .i64 x.1.p)).far (show g + 1 < g + 2 by omega) 11 (.int .i64 x.1.v))).mono (by have := HG.out; omega), (((((((((((((HL2.out.setCell (p := ⟨g, 9, none⟩) (by have := HG.out; show w.heap.size ≤ g; omega) (.string x.1.s)).setCell (p := ⟨g + 1, 0, none⟩) (by have := HG.out; show w.heap.size ≤ g + 1; omega) (.int .i64 x.1.t)).setCell (p := ⟨g + 1, 1, none⟩) (by have := HG.out; show w.heap.size ≤ g + 1; omega) (.int .i64 x.1.r)).setCell (p := ⟨g + 1, 2, none⟩) (by have := HG.out; show w.heap.size ≤ g + 1; omega) (.int .i64 x.2)).setCell (p := ⟨g + 1, 3, none⟩) (by have := HG.out; show w.heap.size ≤ g + 1; omega) (.slice a1 n1 c1)).setCell (p := ⟨g + 1, 4, none⟩) (by have := HG.out; show w.heap.size ≤ g + 1; omega) (.int .i64 x.1.k)).setCell (p := ⟨g + 1, 5, none⟩) (by have := HG.out; show w.heap.size ≤ g + 1; omega) (.int .i64 x.1.nt)).setCell (p := ⟨g + 1, 6, none⟩) (by have := HG.out; show w.heap.size ≤ g + 1; omega) (.int .i64 x.1.nr)).setCell (p := ⟨g + 1, 7, none⟩) (by have := HG.out; show w.heap.size ≤ g + 1; omega) (.int .i64 x.1.pt)).setCell (p := ⟨g + 1, 8, none⟩) (by have := HG.out; show w.heap.size ≤ g + 1; omega) (.int .i64 x.1.pr)).setCell (p := ⟨g + 1, 9, none⟩) (by have := HG.out; show w.heap.size ≤ g + 1; omega) (.string x.1.s)).setCell (p := ⟨g + 1, 10, none⟩) (by have := HG.out; show w.heap.size ≤ g + 1; omega) (.int .i64 x.1.p)).setCell (p := ⟨g + 1, 11, none⟩) (by have := HG.out; show w.heap.size ≤ g + 1; omega) (.int .i64 x.1.v))⟩
end Go.Proofs.YtdpopdlifcjdeaaDoor

/- Hold: those above. -/
namespace Go.Proofs.YtdpopdlifcjdeaaDoor
open Go.RowKit Go.Lib
set_option linter.unusedVariables false

/-- v does not count it -/
def newB (v : List Int) (x : OpD) : Bool := decide (atV v x < x.2)
def aboveL (v : List Int) (hs : List OpD) : List OpD := hs.filter (newB v)
theorem above_yes {v : List Int} {hs : List OpD} {k : Nat} {x : OpD} (h : hs[k]? = some x) (hp : newB v x = true) : aboveL v (hs.take (k + 1)) = aboveL v (hs.take k) ++ [x] := by
  unfold aboveL
  rw [take_more h, List.filter_append, List.filter_cons_of_pos hp, List.filter_nil]
theorem above_no {v : List Int} {hs : List OpD} {k : Nat} {x : OpD} (h : hs[k]? = some x) (hp : newB v x = false) : aboveL v (hs.take (k + 1)) = aboveL v (hs.take k) := by
  unfold aboveL
  rw [take_more h, List.filter_append, List.filter_cons_of_neg (by simp [hp]), List.filter_nil, List.append_nil]
theorem above_len (v : List Int) (hs : List OpD) : (aboveL v hs).length ≤ hs.length := List.length_filter_le _ _
set_option maxHeartbeats 4000000 in
set_option maxRecDepth 100000 in
theorem above_any (va : Option Addr) (v : List Int) (vn vc : Nat) (ha : Option Addr) (hs : List OpD) (n c : Nat) (w : World) (hv : RowK .i64 w va v) (hvn : vn = v.length) (hr : RowO w ha hs) (hn : n = hs.length) (hl : hs.length * 120 ≤ 140737488355328) (hx : ∀ x ∈ hs, x.ok = true ∧ x.1.ds.length = v.length) :
    Calls Tryd.prog 41 #[.slice va vn vc, .slice ha n c] w (CopyO (aboveL v hs) w) := by
  have mixed : Tryd.prog.follows .mixedOrders = true := by kernel_rfl
  have HA := Lib.hid hr
  have HN := Lib.hid hn
  have HV := Lib.hid hv
  have HVN := Lib.hid hvn
  have HL := Lib.hid hl
  have HX := Lib.hid hx
  have hnl : n * 120 ≤ 140737488355328 := by omega
  clear hr hn hv hvn hl hx
  go_enter Tryd.func41, Tryd.ntmps41
  go_wp2
  go_loopg [5, 7, 10] n (fun g1 s5 _ s10 wr => ∃ (k : Nat) (dl : List Value), s10 = .int .i64 k ∧ k ≤ n ∧ n - k ≤ g1 ∧ Hid (CpI w wr (aboveL v (hs.take k)) s5 dl))
  case atStart => exact ⟨0, [], rfl, Nat.zero_le _, by omega, ⟨by rw [List.take_zero]; exact OwnO.nil _ _, by rw [List.take_zero]; exact DepsO.nil _ _, Below.refl _ _⟩⟩
  case round =>
    obtain ⟨k, dl, rfl, hk, hg, HI⟩ := hrel
    by_cases hin : k < n
    · have hinz : (k : Int) < (n : Int) := by omega
      obtain ⟨x, hx⟩ : ∃ x, hs[k]? = some x := ⟨_, List.getElem?_eq_getElem (by rw [← HN.out]; exact hin)⟩
      obtain ⟨b, off, rfl, da, dc, hat, hrow, hdm⟩ := (HA.out.below HI.out.bel) k x hx
      obtain ⟨hok, hdv⟩ := HX.out x (List.mem_of_getElem? hx)
      have F := ok_facts hok
      have HBX := Lib.hid (box_bel wr (objO x da x.1.ds.length dc))
      have HBX2 := Lib.hid (HI.out.bel.trans (HBX.out.mono HI.out.bel.size))
      have HAX := Lib.hid (OpX.new wr x da x.1.ds.length dc)
      have C := Lib.hid (fun W (hb : RowK .i64 W da x.1.ds) => copied_any x da dc W hb hok)
      have HRW := Lib.hid hrow
      have HDM := Lib.hid hdm
      obtain ⟨rn, hrn⟩ : ∃ rn : Nat, x.1.r = rn := ⟨x.1.r.toNat, by have := F.r0; omega⟩
      have hrl : rn < vn := by have := HVN.out; have := F.rl; omega
      have hrl2 : (rn : Int) < (vn : Int) := by omega
      obtain ⟨vb, vo, rfl, hc⟩ := (HV.out.below HBX2.out (Nat.le_refl _)) rn (by have := HVN.out; omega)
      have HZ : Hid (newB v x = decide (v.getD rn 0 < x.2)) := by show _ = _; unfold newB atV; rw [hrn]; rfl
      have hc1 := HAX.out.c1
      rw [hrn] at hc1
      have HXK := Lib.hid hx
      have HTL : Hid ((aboveL v (hs.take k)).length ≤ k) := by have h1 := above_len v (hs.take k); rw [List.length_take] at h1; show _ ≤ _; omega
      obtain ⟨c0, c1, c2, c3, c4, c5, c6, c7, c8, c9, c10, c11⟩ := hat
      generalize hdn : x.1.ds.length = dn at *
      have HDN := Lib.hid hdn
      clear hrn hx hrow hdm hok hdv F hdn
      generalize v.getD rn 0 = z at *
      have hsz := HI.out.bel.size
      go_wp2_with fail
      generalize hW : wr.alloc (objO x da dn dc) = W at *
      have HW := Lib.hid hW
      clear hW c0 c1 c2 c3 c4 c5 c6 c7 c8 c9 c10 c11
      obtain ⟨c0, c1, c2, c3, c4, c5, c6, c7, c8, c9, c10, c11⟩ := HAX.out
      clear c1
      cases hd : decide (z < x.2)
      · have HP : Hid (aboveL v (hs.take (k + 1)) = aboveL v (hs.take k)) := above_no HXK.out (by rw [HZ.out, hd])
        go_quiet (fail)
        go_wp2_with fail
        go_roundg (n - (k + 1))
        case measure => omega
        case rel => exact ⟨k + 1, dl, by go_num, by omega, by omega, by show CpI _ _ _ _ _; rw [HP.out]; exact ⟨(HI.out.own.below (below_drewN HBX.out nq)), HI.out.dep.below (below_drewN HBX.out nq), below_drewN HBX2.out nq⟩⟩
      · have HP : Hid (aboveL v (hs.take (k + 1)) = aboveL v (hs.take k) ++ [x]) := above_yes HXK.out (by rw [HZ.out, hd])
        go_quiet (fail)
        have HBX3 := Lib.hid (below_drewN HBX.out nq)
        have HAX3 := Lib.hid (HAX.out.drewN nq)
        have HTM := Lib.hid HW.out
        clear hc1 hc c0 c2 c3 c4 c5 c6 c7 c8 c9 c10 c11
        generalize W.drewN nq = W2 at *
        obtain ⟨c0, c1, c2, c3, c4, c5, c6, c7, c8, c9, c10, c11⟩ := HAX3.out
        go_wp2_with fail
        refine (C.out _ (HRW.out.below HBX3.out (Nat.le_refl _))).mono ?_
        rintro e w3 ⟨da1, dc1, rfl, ho1, hb1⟩
        have HB3 := Lib.hid (HBX3.out.trans (hb1.mono HBX3.out.size))
        have HO1 := Lib.hid (ho1.mono HBX3.out.size)
        clear ho1 hb1 C c0 c1 c2 c3 c4 c5 c6 c7 c8 c9 c10 c11
        go_wp2_with (at_builtin
                     refine wpO_one rfl _ _ rfl w.heap.size w3 u5 (aboveL v (hs.take k)) dl x.1.t x.1.r x.2 da1 x.1.ds x.1.ds.length dc1 x.1.k x.1.nt x.1.nr x.1.pt x.1.pr x.1.s x.1.p x.1.v rfl (HI.out.own.below HB3.out) _ rfl rfl (by have := HTL.out; omega) (by have h2 := HB3.out.size; omega) ?_
                     intro v6 w6 hp6
                     have HQ := Lib.hid (HI.out.push (x := x) (by rw [HDN.out]; exact HDM.out) HB3.out HO1.out hp6)
                     rw [← HP.out] at HQ
                     clear hp6)
        go_roundg (n - (k + 1))
        case measure => omega
        case rel => exact ⟨k + 1, _, by go_num, by omega, by omega, HQ.out⟩
    · have hinz : ¬ (k : Int) < (n : Int) := by omega
      have HF : Hid (CpI w wr (aboveL v hs) u5 dl) := by
        have h := HI.out
        rw [List.take_of_length_le (by have := HN.out; omega)] at h
        exact h
      go_wp2
      go_ret
      exact ⟨_, dl, rfl, HF.out.own, HF.out.dep, HF.out.bel⟩
end Go.Proofs.YtdpopdlifcjdeaaDoor

/- Hold: what one operation sets free: mathematics. -/
namespace Go.Proofs.YtdpopdlifcjdeaaDoor
open Go.RowKit Go.Lib
set_option linter.unusedVariables false

def setV (v : List Int) (x : OpD) : List Int := v.set x.1.r.toNat x.2
/-- as long as one is ready the first one is taken -/
def freeG (hs : List OpD) : Nat → List Int → List OpD → List Int × List OpD
  | 0, v, tk => (v, tk)
  | f + 1, v, tk => match hs.find? (readyB v) with
    | none => (v, tk)
    | some x => freeG hs f (setV v x) (tk ++ [x])
def cntN (v : List Int) (hs : List OpD) : Nat := hs.countP (newB v)
theorem setV_len (v : List Int) (x : OpD) : (setV v x).length = v.length := List.length_set
theorem freeG_none {hs : List OpD} {f : Nat} {v : List Int} {tk : List OpD} (h : hs.find? (readyB v) = none) : freeG hs f v tk = (v, tk) := by
  cases f with
  | zero => rfl
  | succ f => rw [freeG, h]
theorem freeG_some {hs : List OpD} {f : Nat} {v : List Int} {tk : List OpD} {x : OpD} (h : hs.find? (readyB v) = some x) : freeG hs (f + 1) v tk = freeG hs f (setV v x) (tk ++ [x]) := by rw [freeG, h]
theorem atV_set {v : List Int} {x : OpD} (y : OpD) (hx : 0 ≤ x.1.r) (hl : x.1.r.toNat < v.length) (hy : 0 ≤ y.1.r) : atV (setV v x) y = if y.1.r = x.1.r then x.2 else atV v y := by
  unfold atV setV
  rw [List.getD_eq_getElem?_getD, List.getElem?_set, List.getD_eq_getElem?_getD]
  by_cases h : y.1.r = x.1.r
  · rw [if_pos h, if_pos (by rw [h]), if_pos hl]
    rfl
  · rw [if_neg h, if_neg (by omega)]
theorem ready_new {v : List Int} {x : OpD} (h : readyB v x = true) : atV v x = x.2 - 1 := by
  unfold readyB at h
  rw [Bool.and_eq_true, beq_iff_eq] at h
  exact h.1
theorem newB_mono {v : List Int} {x y : OpD} (hx : 0 ≤ x.1.r) (hl : x.1.r.toNat < v.length) (hy : 0 ≤ y.1.r) (hr : atV v x ≤ x.2) (h : newB (setV v x) y = true) : newB v y = true := by
  unfold newB at h ⊢
  rw [decide_eq_true_eq] at h ⊢
  rw [atV_set y hx hl hy] at h
  split at h
  · rename_i e
    have : atV v y = atV v x := by unfold atV; rw [e]
    omega
  · exact h
theorem newB_self {v : List Int} {x : OpD} (hx : 0 ≤ x.1.r) (hl : x.1.r.toNat < v.length) : newB (setV v x) x = false := by
  unfold newB
  rw [atV_set x hx hl hx, if_pos rfl]
  simp
theorem cntN_less {v : List Int} {hs : List OpD} {x : OpD} (hv : Hv.vecB v = true) (hf : ∀ y ∈ hs, fitsB v y = true) (h : hs.find? (readyB v) = some x) : cntN (setV v x) hs < cntN v hs := by
  have hm := List.mem_of_find?_eq_some h
  have hr := ready_new (List.find?_some h)
  have h1 := fits_lt (hf x hm)
  have key : ∀ l : List OpD, (∀ y ∈ l, fitsB v y = true) → cntN (setV v x) l ≤ cntN v l ∧ (x ∈ l → cntN (setV v x) l < cntN v l) := by
    intro l
    induction l with
    | nil => intro _; exact ⟨Nat.le_refl _, fun h => by simp at h⟩
    | cons y l ih =>
      intro hl
      obtain ⟨i1, i2⟩ := ih (fun z hz => hl z (List.mem_cons_of_mem _ hz))
      have hy := fits_lt (hl y (List.mem_cons_self ..))
      have hmono := newB_mono h1.2 h1.1 hy.2 (by omega : atV v x ≤ x.2)
      unfold cntN at *
      rw [List.countP_cons, List.countP_cons]
      constructor
      · cases ha : newB (setV v x) y
        · simp only [Bool.false_eq_true, if_false]; omega
        · rw [hmono ha]; simp only [if_true]; omega
      · intro hxl
        rcases List.mem_cons.1 hxl with rfl | hxl
        · rw [newB_self h1.2 h1.1]
          rw [show newB v x = true by unfold newB; rw [decide_eq_true_eq]; omega]
          simp only [Bool.false_eq_true, if_false, if_true]; omega
        · have := i2 hxl
          cases ha : newB (setV v x) y
          · simp only [Bool.false_eq_true, if_false]; omega
          · rw [hmono ha]; simp only [if_true]; omega
  exact (key hs hf).2 hm
theorem vec_set {v : List Int} {x : OpD} (hv : Hv.vecB v = true) (h0 : 0 ≤ x.2) (h1 : x.2 ≤ 1099511627776) : Hv.vecB (setV v x) = true := by
  rw [Hv.vecB_iff] at hv ⊢
  rw [setV_len]
  refine ⟨fun i hi => ?_, hv.2⟩
  unfold setV
  rw [List.getD_eq_getElem?_getD, List.getElem?_set]
  split
  · split
    · exact ⟨h0, h1⟩
    · have := hv.1 i hi; omega
  · have := hv.1 i hi
    rwa [List.getD_eq_getElem?_getD] at this
theorem fits_set {v : List Int} {x y : OpD} (hx : fitsB v x = true) (hy : fitsB v y = true) : fitsB (setV v x) y = true := by
  obtain ⟨h1, h2, h3⟩ := fits_iff.1 hy
  have F := ok_facts (fits_iff.1 hx).2.1
  have := F.q0
  exact fits_iff.2 ⟨vec_set h1 (by omega) F.q1, h2, by rw [setV_len]; exact h3⟩
theorem cntN_le (v : List Int) (hs : List OpD) : cntN v hs ≤ hs.length := List.countP_le_length
/-- what is held of a run that stands ahead of a taking -/
structure FrM (hs : List OpD) (fin : List Int × List OpD) (v : List Int) (tk : List OpD) (x : OpD) : Prop where
  fx : fitsB v x = true
  fh : ∀ y ∈ hs, fitsB v y = true
  ct : tk.length + cntN (setV v x) hs ≤ hs.length
  eq : freeG hs (hs.length - tk.length) (setV v x) (tk ++ [x]) = fin
theorem FrM.start {hs : List OpD} {v : List Int} {x : OpD} (hx : fitsB v x = true) (hh : ∀ y ∈ hs, fitsB v y = true) : FrM hs (freeG hs hs.length (setV v x) [x]) v [] x :=
  ⟨hx, hh, by simpa using cntN_le _ _, rfl⟩
theorem FrM.done {hs : List OpD} {fin : List Int × List OpD} {v : List Int} {tk : List OpD} {x : OpD} (h : FrM hs fin v tk x) (hn : hs.find? (readyB (setV v x)) = none) : fin = (setV v x, tk ++ [x]) := by
  rw [← h.eq, freeG_none hn]
theorem FrM.next {hs : List OpD} {fin : List Int × List OpD} {v : List Int} {tk : List OpD} {x y : OpD} (h : FrM hs fin v tk x) (hn : hs.find? (readyB (setV v x)) = some y) : FrM hs fin (setV v x) (tk ++ [x]) y ∧ tk.length + 1 ≤ hs.length := by
  have hv := (fits_iff.1 (fits_set h.fx h.fx)).1
  have hc := cntN_less hv (fun z hz => fits_set h.fx (h.fh z hz)) hn
  have h1 := h.ct
  have hle : tk.length + 1 ≤ hs.length := by omega
  refine ⟨⟨fits_set h.fx (h.fh y (List.mem_of_find?_eq_some hn)), fun z hz => fits_set h.fx (h.fh z hz), ?_, ?_⟩, hle⟩
  · rw [List.length_append, List.length_singleton]; omega
  · have he := h.eq
    rw [show hs.length - tk.length = (hs.length - (tk.length + 1)) + 1 by omega, freeG_some hn] at he
    rw [List.length_append, List.length_singleton]
    exact he
end Go.Proofs.YtdpopdlifcjdeaaDoor
