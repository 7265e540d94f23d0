/- Joined: D7. -/
import Derived.Test.YtdpopdlifcjdeaaDoorYD6

/- Hold: an operation copied; those above. -/
namespace Go.Proofs.YtdpopdlifcjdeaaDoor
open Go.RowKit Go.Lib
set_option linter.unusedVariables false

theorem ok_key {x : OpD} (h : x.ok = true) : x.1.s.size ≤ 64 := by
  unfold OpD.ok OpR.ok opB kndB at h
  simp only [Bool.and_eq_true] at h
  have h2 := h.2
  rw [← strN_len]
  split at h2
  · simp only [Bool.and_eq_true, Ky.keyB, decide_eq_true_eq] at h2
    exact h2.1.1.2.2
  · split at h2
    · simp only [Bool.and_eq_true, decide_eq_true_eq] at h2
      rw [h2.2]
      simp
    · cases h2
theorem ok_len {x : OpD} (h : x.ok = true) : 1 ≤ x.1.ds.length ∧ x.1.ds.length ≤ 16 := Hv.vecB_len (ok_facts h).ds
theorem blkX_new (w : World) (x : OpD) (da : Option Addr) (dn dc : Nat) : Blk (w.alloc (objO x da dn dc)) w.heap.size (x.1.cells x.2 (.slice da dn dc)) := blkO_new w x.1.t x.1.r x.2 (.slice da dn dc) x.1.k x.1.nt x.1.nr x.1.pt x.1.pr x.1.s x.1.p x.1.v x.1.ds
def CopiedPost (x : OpD) (w : World) (e : Ending) (w' : World) : Prop := ∃ da dc, e = .returned (valO x da x.1.ds.length dc) ∧ OwnK .i64 3 w' w.heap.size (.slice da x.1.ds.length dc) x.1.ds ∧ Below w.heap.size w w'
set_option maxHeartbeats 4000000 in
set_option maxRecDepth 100000 in
theorem copied_any (x : OpD) (da : Option Addr) (dc : Nat) (w : World) (hr : RowK .i64 w da x.1.ds) (hok : x.ok = true) : Calls Tryd.prog 46 #[valO x da x.1.ds.length dc] w (CopiedPost x w) := by
  have hl := ok_len hok
  have hk := ok_key hok
  obtain ⟨g, hg⟩ : ∃ g, w.heap.size = g := ⟨_, rfl⟩
  have HG : Hid (w.heap.size = g) := hg
  obtain ⟨W, hW⟩ : ∃ W, W = (w.alloc (objO x da x.1.ds.length dc)).alloc (.cells #[.int .i64 0, .int .i64 0, .int .i64 0, .slice none 0 0, .int .i64 0, .int .i64 0, .int .i64 0, .int .i64 0, .int .i64 0, .string ⟨#[]⟩, .int .i64 0, .int .i64 0] 32) := ⟨_, rfl⟩
  have HB0 : Hid (Below w.heap.size w W) := by rw [hW]; exact St.below2 w _ _
  have HSZ : Hid (W.heap.size = g + 2) := by show _ = _; rw [hW]; simp [hg]
  have HX : Hid (Blk W g (x.1.cells x.2 (.slice da x.1.ds.length dc))) := by
    have h1 := (blkX_new w x da x.1.ds.length dc).next (box_bel _ (.cells #[.int .i64 0, .int .i64 0, .int .i64 0, .slice none 0 0, .int .i64 0, .int .i64 0, .int .i64 0, .int .i64 0, .int .i64 0, .string ⟨#[]⟩, .int .i64 0, .int .i64 0] 32))
    rw [← hW, hg] at h1
    exact h1
  have HR : Hid (Blk W (g + 1) (zR.cells 0 (.slice none 0 0))) := by
    have h1 := blk_new (w.alloc (objO x da x.1.ds.length dc))
    rw [← hW, World.size_alloc, hg] at h1
    exact h1
  have C := Lib.hid (clone_any da x.1.ds x.1.ds.length dc W (hr.below HB0.out (Nat.le_refl _)) rfl hl.1 (by omega))
  have D := Lib.hid (fun W2 => strClone_any x.1.s W2 (by omega))
  clear hr hk hl hok
  obtain ⟨dn, hdn⟩ : ∃ dn, x.1.ds.length = dn := ⟨_, rfl⟩
  have HDN := Lib.hid hdn
  unfold CopiedPost
  rw [hdn] at C ⊢
  unfold valO
  go_enter Tryd.func46, Tryd.ntmps46
  go_wp2_with fail
  rw [hdn] at hW
  subst hW
  refine (C.out).mono ?_
  rintro e w1 ⟨v1, rfl, ho, hb⟩
  have HO1 := Lib.hid (ho.mono (show g + 2 ≤ _ from Nat.le_of_eq HSZ.out.symm))
  have HL1 := Lib.hid (HB0.out.trans (hb.mono HB0.out.size))
  have HR1 := Lib.hid (HR.out.next hb)
  have HX1 := Lib.hid (HX.out.next hb)
  have HZ1 : Hid (g + 2 ≤ w1.heap.size) := by have h1 := HSZ.out; have h2 := hb.size; show _ ≤ _; omega
  obtain ⟨a1, n1, c1, rfl, hn1, -, -⟩ := ho.form'
  obtain rfl : n1 = dn := by have := HDN.out; omega
  clear ho hb hn1 HR HX C HB0 HSZ hdn
  have x3 := HX1.out.cell 3 _ rfl
  have xf3 := HX1.out.free 3 _ rfl
  have x9 := HX1.out.cell 9 _ rfl
  have x9' : (w1.setCell ⟨g, 3, none⟩ (.slice a1 n1 c1)).cell? ⟨g, 9, none⟩ = some (.string x.1.s) := (HX1.out.set 3 (.slice a1 n1 c1)).cell 9 _ rfl
  go_wp2_with fail
  refine (D.out _).mono ?_
  rintro e w2 ⟨rfl, hb2⟩
  have HX2 := Lib.hid ((HX1.out.set 3 (.slice a1 n1 c1)).next hb2)
  have HR2 := Lib.hid ((HR1.out.other (b := g) (by omega) 3 (.slice a1 n1 c1)).next hb2)
  have HO2 := Lib.hid ((HO1.out.far (show g < g + 2 by omega) 3 (.slice a1 n1 c1)).below hb2)
  have HL2 := Lib.hid ((HL1.out.setCell (p := ⟨g, 3, none⟩) (by have := HG.out; show w.heap.size ≤ g; omega) (.slice a1 n1 c1)).trans (hb2.mono (by have := HL1.out.size; simpa using this)))
  clear hb2 x3 xf3 x9 x9' HX1 HR1 HO1 HL1 D HZ1
  have xc0 := HX2.out.cell 0 _ rfl
  have xc1 := HX2.out.cell 1 _ rfl
  have xc2 := HX2.out.cell 2 _ rfl
  have xc3 := HX2.out.cell 3 _ rfl
  have xc4 := HX2.out.cell 4 _ rfl
  have xc5 := HX2.out.cell 5 _ rfl
  have xc6 := HX2.out.cell 6 _ rfl
  have xc7 := HX2.out.cell 7 _ rfl
  have xc8 := HX2.out.cell 8 _ rfl
  have xc9 := HX2.out.cell 9 _ rfl
  have xc10 := HX2.out.cell 10 _ rfl
  have xc11 := HX2.out.cell 11 _ rfl
  have xf9 := HX2.out.free 9 _ rfl
  have zc0 := HR2.out.cell 0 _ rfl
  have zf0 := HR2.out.free 0 _ rfl
  have zc1 := HR2.out.cell 1 _ rfl
  have zf1 := HR2.out.free 1 _ rfl
  have zc2 := HR2.out.cell 2 _ rfl
  have zf2 := HR2.out.free 2 _ rfl
  have zc3 := HR2.out.cell 3 _ rfl
  have zf3 := HR2.out.free 3 _ rfl
  have zc4 := HR2.out.cell 4 _ rfl
  have zf4 := HR2.out.free 4 _ rfl
  have zc5 := HR2.out.cell 5 _ rfl
  have zf5 := HR2.out.free 5 _ rfl
  have zc6 := HR2.out.cell 6 _ rfl
  have zf6 := HR2.out.free 6 _ rfl
  have zc7 := HR2.out.cell 7 _ rfl
  have zf7 := HR2.out.free 7 _ rfl
  have zc8 := HR2.out.cell 8 _ rfl
  have zf8 := HR2.out.free 8 _ rfl
  have zc9 := HR2.out.cell 9 _ rfl
  have zf9 := HR2.out.free 9 _ rfl
  have zc10 := HR2.out.cell 10 _ rfl
  have zf10 := HR2.out.free 10 _ rfl
  have zc11 := HR2.out.cell 11 _ rfl
  have zf11 := HR2.out.free 11 _ rfl
  go_wp2
  have HZ := (((((((((((((HR2.out.other (b := g) (by omega) 9 (.string x.1.s)).set 0 (.int .i64 x.1.t)).set 1 (.int .i64 x.1.r)).set 2 (.int .i64 x.2)).set 3 (.slice a1 n1 c1)).set 4 (.int .i64 x.1.k)).set 5 (.int .i64 x.1.nt)).set 6 (.int .i64 x.1.nr)).set 7 (.int .i64 x.1.pt)).set 8 (.int .i64 x.1.pr)).set 9 (.string x.1.s)).set 10 (.int .i64 x.1.p)).set 11 (.int .i64 x.1.v))
  have z0 := HZ.cell 0 _ rfl
  have z1 := HZ.cell 1 _ rfl
  have z2 := HZ.cell 2 _ rfl
  have z3 := HZ.cell 3 _ rfl
  have z4 := HZ.cell 4 _ rfl
  have z5 := HZ.cell 5 _ rfl
  have z6 := HZ.cell 6 _ rfl
  have z7 := HZ.cell 7 _ rfl
  have z8 := HZ.cell 8 _ rfl
  have z9 := HZ.cell 9 _ rfl
  have z10 := HZ.cell 10 _ rfl
  have z11 := HZ.cell 11 _ rfl
  refine bodyPost_ret (v := .agg #[.int .i64 x.1.t, .int .i64 x.1.r, .int .i64 x.2, .slice a1 n1 c1, .int .i64 x.1.k, .int .i64 x.1.nt, .int .i64 x.1.nr, .int .i64 x.1.pt, .int .i64 x.1.pr, .string x.1.s, .int .i64 x.1.p, .int .i64 x.1.v]) (by simp [results, Tryd.results46, go_sem, z0, z1, z2, z3, z4, z5, z6, z7, z8, z9, z10, z11]) rfl ?_
  exact ⟨_, _, rfl, ((((((((((((((HO2.out.far (show g < g + 2 by omega) 9 (.string x.1.s)).far (show g + 1 < g + 2 by omega) 0 (.int .i64 x.1.t)).far (show g + 1 < g + 2 by omega) 1 (.int .i64 x.1.r)).far (show g + 1 < g + 2 by omega) 2 (.int .i64 x.2)).far (show g + 1 < g + 2 by omega) 3 (.slice a1 n1 c1)).far (show g + 1 < g + 2 by omega) 4 (.int .i64 x.1.k)).far (show g + 1 < g + 2 by omega) 5 (.int .i64 x.1.nt)).far (show g + 1 < g + 2 by omega) 6 (.int .i64 x.1.nr)).far (show g + 1 < g + 2 by omega) 7 (.int .i64 x.1.pt)).far (show g + 1 < g + 2 by omega) 8 (.int .i64 x.1.pr)).far (show g + 1 < g + 2 by omega) 9 (.string x.1.s)).far (show g + 1 < g + 2 by omega) 10 (.int .i64 x.1.p)).far (show g + 1 < g + 2 by omega) 11 (.int .i64 x.1.v))).mono (by have := HG.out; omega), (((((((((((((HL2.out.setCell (p := ⟨g, 9, none⟩) (by have := HG.out; show w.heap.size ≤ g; omega) (.string x.1.s)).setCell (p := ⟨g + 1, 0, none⟩) (by have := HG.out; show w.heap.size ≤ g + 1; omega) (.int .i64 x.1.t)).setCell (p := ⟨g + 1, 1, none⟩) (by have := HG.out; show w.heap.size ≤ g + 1; omega) (.int .i64 x.1.r)).setCell (p := ⟨g + 1, 2, none⟩) (by have := HG.out; show w.heap.size ≤ g + 1; omega) (.int .i64 x.2)).setCell (p := ⟨g + 1, 3, none⟩) (by have := HG.out; show w.heap.size ≤ g + 1; omega) (.slice a1 n1 c1)).setCell (p := ⟨g + 1, 4, none⟩) (by have := HG.out; show w.heap.size ≤ g + 1; omega) (.int .i64 x.1.k)).setCell (p := ⟨g + 1, 5, none⟩) (by have := HG.out; show w.heap.size ≤ g + 1; omega) (.int .i64 x.1.nt)).setCell (p := ⟨g + 1, 6, none⟩) (by have := HG.out; show w.heap.size ≤ g + 1; omega) (.int .i64 x.1.nr)).setCell (p := ⟨g + 1, 7, none⟩) (by have := HG.out; show w.heap.size ≤ g + 1; omega) (.int .i64 x.1.pt)).setCell (p := ⟨g + 1, 8, none⟩) (by have := HG.out; show w.heap.size ≤ g + 1; omega) (.int .i64 x.1.pr)).setCell (p := ⟨g + 1, 9, none⟩) (by have := HG.out; show w.heap.size ≤ g + 1; omega) (.string x.1.s)).setCell (p := ⟨g + 1, 10, none⟩) (by have := HG.out; show w.heap.size ≤ g + 1; omega) (.int .i64 x.1.p)).setCell (p := ⟨g + 1, 11, none⟩) (by have := HG.out; show w.heap.size ≤ g + 1; omega) (.int .i64 x.1.v))⟩
end Go.Proofs.YtdpopdlifcjdeaaDoor
