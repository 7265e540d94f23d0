/- Joined: TF6 TF7 TM3. -/
import Derived.Test.YtjlbpmmckgjajaaDoorYB
import Derived.Sort.Statements

/- The forest: a move undone. -/
namespace Go.Proofs.YtjlbpmmckgjajaaDoor
open Go.RowKit Go.Lib Go.Maps
set_option linter.unusedVariables false

def UndoPost (W : World) (base fp bm : Nat) (sv : Value) (ps : List Pl) (ns : List ND) (x : ED) (e : Ending) (w' : World) : Prop :=
  ∃ (sv' : Value) (ps' : List Pl) (sp' : List SpD), e = .returned (.tuple #[]) ∧ FoR w' base fp bm sv' ps' sp' ∧ FoM ps' sp' (undoG ns x) ∧ KeptF W w' fp bm sv sv' ∧ ps'.length ≤ ps.length + 2
/-- a spot written over -/
theorem undo_end {W w6 : World} {base fp bm b n c i1 : Nat} {sv : Value} {ps ps2 : List Pl} {sp2 : List SpD} {ns : List ND} {x : ED} {y : SpD} (hf : FoR w6 base fp bm (.slice (some ⟨b, 0, none⟩) n c) ps2 sp2) (hn : n = sp2.length) (hi : i1 < sp2.length) (hm : FoM ps2 (sp2.set i1 y) (undoG ns x)) (hk : KeptF W w6 fp bm sv (.slice (some ⟨b, 0, none⟩) n c)) (hl : ps2.length ≤ ps.length + 2) :
    UndoPost W base fp bm sv ps ns x (.returned (.tuple #[])) (setsF w6 b (i1 * 7) y.enc 0) ∧ UndoPost W base fp bm sv ps ns x (.returned (.tuple #[])) (setsF w6 b (i1 * 7) y.enc 0).drew := by
  have hP := hf.put hn hi y
  exact ⟨⟨_, ps2, _, rfl, hP.1, hm, hk.trans hP.2, hl⟩, ⟨_, ps2, _, rfl, hP.1.next (Below.refl _ _).drew, hm, (hk.trans hP.2).trans (KeptF.of_below (Below.refl _ _).drew), hl⟩⟩
set_option maxHeartbeats 8000000 in
set_option maxRecDepth 100000 in
theorem undo_any (W : World) (base fp bm : Nat) (sv : Value) (ps : List Pl) (sp : List SpD) (ns : List ND) (x : ED) (da : Option Addr) (dn dc : Nat) (h : FoR W base fp bm sv ps sp) (hM : FoM ps sp ns) (hn : wfP (nodeO x.op)) (hp : x.was = true → wfP x.par) (hl : ps.length + 2 ≤ 1000) (hb : base ≤ W.heap.size) :
    Calls Tryd.prog 54 #[.pointer (some ⟨fp, 0, none⟩), valE x da dn dc] W (UndoPost W base fp bm sv ps ns x) := by
  have mixed : Tryd.prog.follows .mixedOrders = true := by kernel_rfl
  obtain ⟨g, hg⟩ : ∃ g, W.heap.size = g := ⟨_, rfl⟩
  obtain ⟨W1, hW1⟩ : ∃ W1, W.alloc (objE x da dn dc) = W1 := ⟨_, rfl⟩
  have HB1 : Hid (Below W.heap.size W W1) := by show Below _ _ _; rw [← hW1]; exact box_bel W _
  have HX1 : Hid (Blk W1 g (cellsE x da dn dc)) := by show Blk _ _ _; rw [← hW1, ← hg]; exact objE_new W x da dn dc
  have HF1 := Lib.hid (h.next HB1.out)
  have hlt := h.lt
  have HV : Hid (g ≠ fp ∧ g ≠ bm) := ⟨by omega, by omega⟩
  have HGL : Hid (g < W1.heap.size) := by show _ < _; rw [← hW1]; simp [hg]
  have C1 := Lib.hid (number_any W1 base fp bm sv ps sp x.op.1.nt x.op.1.nr HF1.out hn (by omega) (Nat.le_trans hb HB1.out.size))
  have HM := Lib.hid hM
  have HP := Lib.hid hp
  have HL := Lib.hid hl
  have HBA := Lib.hid hb
  have HOW : Hid (sv.ownBlock ≠ some g) := fun e => by have := (h.own.lt e).2; omega
  have c5 := HX1.out.cell 5 _ rfl
  have c6 := HX1.out.cell 6 _ rfl
  have c12 := HX1.out.cell 12 _ rfl
  have c13 := HX1.out.cell 13 _ rfl
  have c14 := HX1.out.cell 14 _ rfl
  have c15 := HX1.out.cell 15 _ rfl
  clear h hM hn hp hl hb hlt
  go_enter Tryd.func54, Tryd.ntmps54
  go_wp2_with fail
  refine (C1.out).mono ?_
  rintro e w3 ⟨i1, sv1, ps1, sp1, rfl, hn1, hf1, hk1⟩
  have hx3 := HX1.out.keep (hk1.blk g HGL.out HV.out.1 HV.out.2 HOW.out)
  have HX3 := Lib.hid hx3
  have HN1 := Lib.hid (HM.out.num hn1)
  have HK3 := Lib.hid ((KeptF.of_below HB1.out).trans hk1)
  have HF3 := Lib.hid hf1
  have HS13 : Hid (W1.heap.size ≤ w3.heap.size) := hk1.bl.size
  have HG3 : Hid (g < w3.heap.size) := Nat.lt_of_lt_of_le HGL.out hk1.bl.size
  have HO3 : Hid (sv1.ownBlock ≠ some g) := fun e => by
    rcases hk1.lies with e1 | ⟨g', e1, hg'⟩
    · exact HOW.out (e1 ▸ e)
    · rw [e1] at e
      injection e with e
      have := HGL.out
      omega
  clear hW1 hg hx3 hn1 hf1 hk1 c5 c6 c12 c13 c14 c15 C1
  have c5 := HX3.out.cell 5 _ rfl
  have c6 := HX3.out.cell 6 _ rfl
  have c12 := HX3.out.cell 12 _ rfl
  have c13 := HX3.out.cell 13 _ rfl
  have c14 := HX3.out.cell 14 _ rfl
  have c15 := HX3.out.cell 15 _ rfl
  obtain ⟨wb, hwb⟩ : ∃ wb, x.was = wb := ⟨_, rfl⟩
  rw [hwb] at c12
  have HWB := Lib.hid hwb
  clear hwb
  cases wb
  · obtain ⟨sa, sn, sc, rfl, hsn, hsc, hrow, hsg⟩ := HF3.out.own.form flatSp
    obtain ⟨z, hz⟩ : ∃ z, sp1[i1]? = some z := ⟨_, List.getElem?_eq_getElem (by rw [HF3.out.ln]; exact (List.getElem?_eq_some_iff.1 HN1.out.2.1).1)⟩
    have hi1 : i1 < sn := by rw [hsn]; exact (List.getElem?_eq_some_iff.1 hz).1
    have hi1z : (i1 : Int) < (sn : Int) := by omega
    obtain ⟨b, rfl⟩ := hsg (by omega)
    have HSN := Lib.hid hsn
    have d1 : w3.cell? ⟨fp, 1, none⟩ = some (.slice (some ⟨b, 0, none⟩) sn sc) := HF3.out.blk.cell 1 _ rfl
    have e0 : w3.cell? ⟨b, i1 * 7, none⟩ = some (.bool z.th) := HF3.out.spot hz 0 _ rfl
    have e1 : w3.cell? ⟨b, i1 * 7 + 1, none⟩ = some (.int .i64 z.n.id.1) := HF3.out.spot hz 1 _ rfl
    have e2 : w3.cell? ⟨b, i1 * 7 + 2, none⟩ = some (.int .i64 z.n.id.2) := HF3.out.spot hz 2 _ rfl
    have e3 : w3.cell? ⟨b, i1 * 7 + 3, none⟩ = some (.int .i64 z.n.par.1) := HF3.out.spot hz 3 _ rfl
    have e4 : w3.cell? ⟨b, i1 * 7 + 4, none⟩ = some (.int .i64 z.n.par.2) := HF3.out.spot hz 4 _ rfl
    have e5 : w3.cell? ⟨b, i1 * 7 + 5, none⟩ = some (.string z.n.key) := HF3.out.spot hz 5 _ rfl
    have e6 : w3.cell? ⟨b, i1 * 7 + 6, none⟩ = some (.int .i64 (z.ab : Int)) := HF3.out.spot hz 6 _ rfl
    have hfr := fun j => OwnF.free HF3.out.own hsn j
    have f0 := hfr (i1 * 7)
    have f1 := hfr (i1 * 7 + 1)
    have f2 := hfr (i1 * 7 + 2)
    have f3 := hfr (i1 * 7 + 3)
    have f4 := hfr (i1 * 7 + 4)
    have f5 := hfr (i1 * 7 + 5)
    have f6 := hfr (i1 * 7 + 6)
    have hsb := spot_build
    have HE := Lib.hid (undo_end (ps := ps) (sv := sv) (y := zSp) (x := x) HF3.out hsn (List.getElem?_eq_some_iff.1 hz).1 (by
      have h1 := HN1.out.1.drop HN1.out.2.1
      have h2 : undoG ns x = dropN ns (nodeO x.op) := by
        unfold undoG
        rw [HWB.out]
        rfl
      rw [h2]
      exact h1) HK3.out (by have := HN1.out.2.2.2; omega))
    clear hfr hsn hsc hrow hsg hz
    go_wp2
    go_end0
    exact HE.out.1
  · have C2 := Lib.hid (number_any w3 base fp bm sv1 ps1 sp1 x.par.1 x.par.2 HF3.out (HP.out HWB.out) (by have := HN1.out.2.2.2; have := HL.out; omega) (Nat.le_trans HBA.out (Nat.le_trans HB1.out.size HS13.out)))
    go_wp2_with fail
    refine (C2.out).mono ?_
    rintro e w6 ⟨i2, sv2, ps2, sp2, rfl, hn2, hf2, hk2⟩
    have HX6 := Lib.hid (HX3.out.keep (hk2.blk g HG3.out HV.out.1 HV.out.2 HO3.out))
    have HN2 := Lib.hid (HN1.out.1.num hn2)
    have HF6 := Lib.hid hf2
    have HK6 := Lib.hid (HK3.out.trans hk2)
    clear hn2 hf2 hk2 c5 c6 c12 c13 c14 c15
    have c5 := HX6.out.cell 5 _ rfl
    have c6 := HX6.out.cell 6 _ rfl
    have c12 := HX6.out.cell 12 _ rfl
    have c13 := HX6.out.cell 13 _ rfl
    have c14 := HX6.out.cell 14 _ rfl
    have c15 := HX6.out.cell 15 _ rfl
    obtain ⟨sa, sn, sc, rfl, hsn, hsc, hrow, hsg⟩ := HF6.out.own.form flatSp
    have HN1b : Hid (ps2[i1]? = some (nodeO x.op)) := HN2.out.2.2.1 _ _ HN1.out.2.1
    obtain ⟨z, hz⟩ : ∃ z, sp2[i1]? = some z := ⟨_, List.getElem?_eq_getElem (by rw [HF6.out.ln]; exact (List.getElem?_eq_some_iff.1 HN1b.out).1)⟩
    have hi1 : i1 < sn := by rw [hsn]; exact (List.getElem?_eq_some_iff.1 hz).1
    have hi1z : (i1 : Int) < (sn : Int) := by omega
    obtain ⟨b, rfl⟩ := hsg (by omega)
    have d1 : w6.cell? ⟨fp, 1, none⟩ = some (.slice (some ⟨b, 0, none⟩) sn sc) := HF6.out.blk.cell 1 _ rfl
    have e0 : w6.cell? ⟨b, i1 * 7, none⟩ = some (.bool z.th) := HF6.out.spot hz 0 _ rfl
    have e1 : w6.cell? ⟨b, i1 * 7 + 1, none⟩ = some (.int .i64 z.n.id.1) := HF6.out.spot hz 1 _ rfl
    have e2 : w6.cell? ⟨b, i1 * 7 + 2, none⟩ = some (.int .i64 z.n.id.2) := HF6.out.spot hz 2 _ rfl
    have e3 : w6.cell? ⟨b, i1 * 7 + 3, none⟩ = some (.int .i64 z.n.par.1) := HF6.out.spot hz 3 _ rfl
    have e4 : w6.cell? ⟨b, i1 * 7 + 4, none⟩ = some (.int .i64 z.n.par.2) := HF6.out.spot hz 4 _ rfl
    have e5 : w6.cell? ⟨b, i1 * 7 + 5, none⟩ = some (.string z.n.key) := HF6.out.spot hz 5 _ rfl
    have e6 : w6.cell? ⟨b, i1 * 7 + 6, none⟩ = some (.int .i64 (z.ab : Int)) := HF6.out.spot hz 6 _ rfl
    have hfr := fun j => OwnF.free HF6.out.own hsn j
    have f0 := hfr (i1 * 7)
    have f1 := hfr (i1 * 7 + 1)
    have f2 := hfr (i1 * 7 + 2)
    have f3 := hfr (i1 * 7 + 3)
    have f4 := hfr (i1 * 7 + 4)
    have f5 := hfr (i1 * 7 + 5)
    have f6 := hfr (i1 * 7 + 6)
    have hb1 := nd_build
    have hb2 := sp_build
    have HE := Lib.hid (undo_end (ps := ps) (sv := sv) (y := ⟨true, ⟨nodeO x.op, x.par, x.key⟩, i2⟩) (x := x) HF6.out hsn (List.getElem?_eq_some_iff.1 hz).1 (by
      have h1 := HN2.out.1.put x.key HN1b.out HN2.out.2.1
      have h2 : undoG ns x = putN ns ⟨nodeO x.op, x.par, x.key⟩ := by
        unfold undoG
        rw [HWB.out]
        rfl
      rw [h2]
      exact h1) HK6.out (by have := HN1.out.2.2.2; have := HN2.out.2.2.2; omega))
    clear hfr hsn hsc hrow hsg hz
    go_wp2_with fail
    go_region
    go_wp2
    go_end0
    exact HE.out.2
end Go.Proofs.YtjlbpmmckgjajaaDoor

/- The forest: a place found. -/
namespace Go.Proofs.YtjlbpmmckgjajaaDoor
open Go.RowKit Go.Lib Go.Maps
set_option linter.unusedVariables false

abbrev valSp (x : SpD) : Value := .agg #[.bool x.th, .int .i64 x.n.id.1, .int .i64 x.n.id.2, .int .i64 x.n.par.1, .int .i64 x.n.par.2, .string x.n.key, .int .i64 (x.ab : Int)]
/-- what lies at a place -/
def SpotIs (ns : List ND) (s : Pl) (x : SpD) : Prop := (x.th = true ∧ findN ns s = some x.n ∧ x.n.id = s) ∨ (x = zSp ∧ findN ns s = none)
def FindPost (W : World) (ns : List ND) (s : Pl) (e : Ending) (w' : World) : Prop :=
  ∃ x : SpD, e = .returned (valSp x) ∧ SpotIs ns s x ∧ Below W.heap.size W w'
theorem FoM.at {ps : List Pl} {sp : List SpD} {ns : List ND} (h : FoM ps sp ns) {i : Nat} {s : Pl} {x : SpD} (hi : ps[i]? = some s) (hx : sp[i]? = some x) : SpotIs ns s x := by
  cases e : x.th
  · exact .inr (h.no i s x hi hx e)
  · have h1 := h.th i s x hi hx e
    exact .inl ⟨e, h1.2.1, h1.1⟩
theorem aggSp (w : World) : (isAgg 72).run Tryd.prog w = .ok true w := by
  simp [isAgg, run_underlying Tryd.underlying72, Sem.run_bind, Result.andThen]
theorem sizeSp (w : World) : (Go.sizeOf 72).run Tryd.prog w = .ok 7 w := by
  have h : (Tryd.prog.info? 72).map (fun i => (i.zero, i.size, i.bytes)) = some (some (.agg #[.bool false, .int .i64 0, .int .i64 0, .int .i64 0, .int .i64 0, .string ⟨#[]⟩, .int .i64 0]), 7, 64) := by kernel_rfl
  obtain ⟨i0, hi, hz0, hz1, hz2⟩ := info_parts h
  simp [Go.sizeOf, typeInfo, hi, hz1]
theorem setsL_sp (x : SpD) : setsL zSp.enc 0 x.enc 0 = x.enc := by simp [setsL, zSp, SpD.enc]
/-- a block of one's own written over -/
theorem find_end {W Wc : World} {g : Nat} {ns : List ND} {s : Pl} {x : SpD} (hz : Blk Wc (g + 1) zSp.enc) (hb : Below W.heap.size W Wc) (hg : W.heap.size = g) (hs : SpotIs ns s x) :
    (loadVar 72 ⟨g + 1, 0, none⟩).run Tryd.prog (setsF Wc (g + 1) 0 x.enc 0) = .ok (valSp x) (setsF Wc (g + 1) 0 x.enc 0) ∧ FindPost W ns s (.returned (valSp x)) (setsF Wc (g + 1) 0 x.enc 0) := by
  have h := hz.sets x.enc 0
  rw [setsL_sp] at h
  refine ⟨loadVar_is aggSp sizeSp rfl h.cells, x, rfl, hs, ?_⟩
  have hgr := setsF_grown (g + 1) 0 x.enc 0 Wc
  exact ⟨hgr.os.trans hb.os, hgr.tape.trans hb.tape, hgr.output.trans hb.output, Nat.le_trans hb.size hgr.size, fun k hk => (hgr.block k (Nat.lt_of_lt_of_le hk hb.size) (fun e => by injection e with e; omega)).trans (hb.block k hk)⟩
set_option maxHeartbeats 8000000 in
set_option maxRecDepth 100000 in
theorem find_any (W : World) (base fp bm : Nat) (sv : Value) (ps : List Pl) (sp : List SpD) (ns : List ND) (t r : Int) (h : FoR W base fp bm sv ps sp) (hM : FoM ps sp ns) (hs : wfP (t, r)) :
    Calls Tryd.prog 33 #[.pointer (some ⟨fp, 0, none⟩), .agg #[.int .i64 t, .int .i64 r]] W (FindPost W ns (t, r)) := by
  have mixed : Tryd.prog.follows .mixedOrders = true := by kernel_rfl
  obtain ⟨g, hg⟩ : ∃ g, W.heap.size = g := ⟨_, rfl⟩
  obtain ⟨W2, hW2⟩ : ∃ W2, (W.alloc (.cells #[.int .i64 t, .int .i64 r] 36)).alloc (.cells #[.bool false, .int .i64 0, .int .i64 0, .int .i64 0, .int .i64 0, .string ⟨#[]⟩, .int .i64 0] 72) = W2 := ⟨_, rfl⟩
  have HB2 : Hid (Below W.heap.size W W2) := by
    show Below _ _ _
    rw [← hW2]
    exact (box_bel W _).trans ((box_bel (W.alloc _) _).mono (by simp))
  have HZ2 : Hid (Blk W2 (g + 1) zSp.enc) := by
    show Blk _ _ _
    have h1 := objS_new (W.alloc (.cells #[.int .i64 t, .int .i64 r] 36)) zSp
    rw [World.size_alloc, hg] at h1
    rw [← hW2]
    exact h1
  have k0 : W2.cell? ⟨g, 0, none⟩ = some (.int .i64 t) := by rw [← hW2, ← hg]; simp
  have k1 : W2.cell? ⟨g, 1, none⟩ = some (.int .i64 r) := by rw [← hW2, ← hg]; simp
  have HF2 := Lib.hid (h.next HB2.out)
  have HM := Lib.hid hM
  obtain ⟨z, hlk, hz⟩ := look_is HF2.out hs
  have hlk1 : (Instr.lookup 74 (.map (some bm)) (.agg #[.int .i64 t, .int .i64 r]) true).run Tryd.prog W2 = .ok (.tuple #[.int .i64 z, .bool (decide ((t, r) ∈ ps))]) W2 := hlk
  obtain ⟨z', hlk2, hz'⟩ := look_is (HF2.out.next (Below.refl _ _).drew) hs
  have hlk2' : (Instr.lookup 74 (.map (some bm)) (.agg #[.int .i64 t, .int .i64 r]) true).run Tryd.prog W2.drew = .ok (.tuple #[.int .i64 z', .bool (decide ((t, r) ∈ ps))]) W2.drew := hlk2
  have c0 : W2.cell? ⟨fp, 0, none⟩ = some (.map (some bm)) := HF2.out.blk.cell 0 _ rfl
  have HZ := Lib.hid hz
  have HZ' := Lib.hid hz'
  have HG := Lib.hid hg
  have HH := Lib.hid h
  clear h hs hlk hlk2 hz hz' hM
  obtain ⟨bb, hbb⟩ : ∃ bb, decide ((t, r) ∈ ps) = bb := ⟨_, rfl⟩
  rw [hbb] at hlk1 hlk2'
  have HBB := Lib.hid hbb
  clear hbb
  go_enter Tryd.func33, Tryd.ntmps33
  go_wp2_with fail
  go_region
  obtain ⟨Wc, hWc⟩ : ∃ Wc, W2.drew = Wc := ⟨_, rfl⟩
  have HBc : Hid (Below W.heap.size W Wc) := by show Below _ _ _; rw [← hWc]; exact HB2.out.drew
  have HFc := Lib.hid (HH.out.next HBc.out)
  have HZc : Hid (Blk Wc (g + 1) zSp.enc) := by show Blk _ _ _; rw [← hWc]; exact HZ2.out.drew
  rw [hWc]
  clear hlk1 hlk2' c0 k0 k1 hW2 hWc
  have z0 := HZc.out.cell 0 _ rfl
  have y0 := HZc.out.free 0 _ rfl
  have z1 := HZc.out.cell 1 _ rfl
  have y1 := HZc.out.free 1 _ rfl
  have z2 := HZc.out.cell 2 _ rfl
  have y2 := HZc.out.free 2 _ rfl
  have z3 := HZc.out.cell 3 _ rfl
  have y3 := HZc.out.free 3 _ rfl
  have z4 := HZc.out.cell 4 _ rfl
  have y4 := HZc.out.free 4 _ rfl
  have z5 := HZc.out.cell 5 _ rfl
  have y5 := HZc.out.free 5 _ rfl
  have z6 := HZc.out.cell 6 _ rfl
  have y6 := HZc.out.free 6 _ rfl
  simp only [zSp] at z0 z1 z2 z3 z4 z5 z6
  cases bb
  · have HE := Lib.hid (find_end (ns := ns) (s := (t, r)) HZc.out HBc.out HG.out (.inr ⟨rfl, HM.out.al _ (of_decide_eq_false HBB.out)⟩))
    have hsb := spot_build
    go_wp2
    refine bodyPost_ret (results_cell Tryd.results33 _ ⟨g + 1, 0, none⟩ rfl HE.out.1) rfl ?_
    exact HE.out.2
  · obtain ⟨i, hi⟩ := List.getElem?_of_mem (of_decide_eq_true HBB.out)
    cases (HZ'.out i hi)
    obtain ⟨x, hx⟩ : ∃ x, sp[i]? = some x := ⟨_, List.getElem?_eq_getElem (by rw [HFc.out.ln]; exact (List.getElem?_eq_some_iff.1 hi).1)⟩
    obtain ⟨sa, sn, sc, rfl, hsn, hsc, hrow, hsg⟩ := HFc.out.own.form flatSp
    have hi1 : i < sn := by rw [hsn]; exact (List.getElem?_eq_some_iff.1 hx).1
    have hi1z : (i : Int) < (sn : Int) := by omega
    obtain ⟨b, rfl⟩ := hsg (by omega)
    have d1 : Wc.cell? ⟨fp, 1, none⟩ = some (.slice (some ⟨b, 0, none⟩) sn sc) := HFc.out.blk.cell 1 _ rfl
    have e0 : Wc.cell? ⟨b, i * 7, none⟩ = some (.bool x.th) := HFc.out.spot hx 0 _ rfl
    have e1 : Wc.cell? ⟨b, i * 7 + 1, none⟩ = some (.int .i64 x.n.id.1) := HFc.out.spot hx 1 _ rfl
    have e2 : Wc.cell? ⟨b, i * 7 + 2, none⟩ = some (.int .i64 x.n.id.2) := HFc.out.spot hx 2 _ rfl
    have e3 : Wc.cell? ⟨b, i * 7 + 3, none⟩ = some (.int .i64 x.n.par.1) := HFc.out.spot hx 3 _ rfl
    have e4 : Wc.cell? ⟨b, i * 7 + 4, none⟩ = some (.int .i64 x.n.par.2) := HFc.out.spot hx 4 _ rfl
    have e5 : Wc.cell? ⟨b, i * 7 + 5, none⟩ = some (.string x.n.key) := HFc.out.spot hx 5 _ rfl
    have e6 : Wc.cell? ⟨b, i * 7 + 6, none⟩ = some (.int .i64 (x.ab : Int)) := HFc.out.spot hx 6 _ rfl
    have HE := Lib.hid (find_end (ns := ns) (s := (t, r)) HZc.out HBc.out HG.out (HM.out.at hi hx))
    clear hsn hsc hrow hsg hi hx
    go_wp2
    refine bodyPost_ret (results_cell Tryd.results33 _ ⟨g + 1, 0, none⟩ rfl HE.out.1) rfl ?_
    exact HE.out.2
end Go.Proofs.YtjlbpmmckgjajaaDoor

/- The forest's nodes, sorted, are the one ascending list. -/
namespace Go.Proofs.YtjlbpmmckgjajaaDoor
open Go.RowKit Go.Lib Go.Maps

def liveN (sp : List SpD) : List ND := (sp.filter (·.th)).map (·.n)
theorem live_mem {sp : List SpD} {n : ND} : n ∈ liveN sp ↔ ∃ x ∈ sp, x.th = true ∧ x.n = n := by
  unfold liveN
  simp only [List.mem_map, List.mem_filter]
  exact ⟨fun ⟨x, ⟨h1, h2⟩, h3⟩ => ⟨x, h1, h2, h3⟩, fun ⟨x, h1, h2, h3⟩ => ⟨x, ⟨h1, h2⟩, h3⟩⟩
theorem live_find {ps : List Pl} {sp : List SpD} {ns : List ND} (h : FoM ps sp ns) {s : Pl} {n : ND} : (n ∈ liveN sp ∧ n.id = s) ↔ findN ns s = some n := by
  constructor
  · rintro ⟨hn, rfl⟩
    obtain ⟨x, hx, ht, rfl⟩ := live_mem.1 hn
    obtain ⟨i, hi⟩ := List.getElem?_of_mem hx
    have hl : i < ps.length := by rw [← h.ln]; exact (List.getElem?_eq_some_iff.1 hi).1
    have h1 := h.th i _ x (List.getElem?_eq_getElem hl) hi ht
    rw [h1.1]
    exact h1.2.1
  · intro hf
    have hs : s ∈ ps := Classical.byContradiction fun hs => by rw [h.al s hs] at hf; cases hf
    obtain ⟨i, hi⟩ := List.getElem?_of_mem hs
    have hl : i < sp.length := by rw [h.ln]; exact (List.getElem?_eq_some_iff.1 hi).1
    have hx : sp[i]? = some sp[i] := List.getElem?_eq_getElem hl
    rcases h.at hi hx with ⟨ht, h2, h3⟩ | ⟨h2, h3⟩
    · rw [hf] at h2
      injection h2 with h2
      exact ⟨live_mem.2 ⟨_, List.mem_of_getElem? hx, ht, h2.symm⟩, by rw [h2]; exact h3⟩
    · rw [hf] at h3
      cases h3
theorem live_sub : ∀ {ps : List Pl} {sp : List SpD}, sp.length = ps.length → (∀ (i : Nat) (s : Pl) (x : SpD), ps[i]? = some s → sp[i]? = some x → x.th = true → x.n.id = s) → ((liveN sp).map (·.id)).Sublist ps
  | [], [], _, _ => List.Sublist.refl _
  | [], x :: sp, hl, _ => by simp at hl
  | s :: ps, [], hl, _ => by simp at hl
  | s :: ps, x :: sp, hl, h => by
    have ih := live_sub (ps := ps) (sp := sp) (by simpa using hl) fun i s x h1 h2 => h (i + 1) s x (by simpa using h1) (by simpa using h2)
    by_cases e : x.th = true
    · have e1 := h 0 s x rfl rfl e
      unfold liveN
      rw [List.filter_cons_of_pos e, List.map_cons, List.map_cons, e1]
      exact ih.cons_cons s
    · unfold liveN
      rw [List.filter_cons_of_neg e]
      exact ih.cons s
theorem live_ne {ps : List Pl} {sp : List SpD} {ns : List ND} (h : FoM ps sp ns) : (liveN sp).Pairwise (fun a b => a.id ≠ b.id) :=
  List.pairwise_map.1 (h.nd.sublist (live_sub h.ln fun i s x h1 h2 h3 => (h.th i s x h1 h2 h3).1))
theorem findN_in {l : List ND} {s : Pl} {n : ND} (h : findN l s = some n) : n ∈ l ∧ n.id = s :=
  ⟨List.mem_of_find?_eq_some h, by have := List.find?_some h; simpa using this⟩
/-- what a sort makes of the nodes that are there -/
theorem live_sorted {ps : List Pl} {sp : List SpD} {ns l : List ND} (h : FoM ps sp ns) (hp : l.Perm (liveN sp)) (hs : l.Pairwise (fun a b => ltP b.id a.id = false)) : l = ns := by
  have h1 : l.Pairwise (fun a b => a.id ≠ b.id) := (hp.pairwise_iff (fun {a b} hab => Ne.symm hab)).2 (live_ne h)
  have ha : AscN l := (hs.and h1).imp fun {a b} hab => by
    rcases ltP_tri a.id b.id with e | e | e
    · exact e
    · exact absurd e hab.2
    · rw [hab.1] at e; cases e
  refine ascN_ext ha h.asc fun s => ?_
  cases e : findN ns s with
  | some n =>
    obtain ⟨h2, h3⟩ := (live_find h).2 e
    rw [← h3]
    exact asc_find ha (hp.mem_iff.2 h2)
  | none =>
    cases e2 : findN l s with
    | none => rfl
    | some n =>
      obtain ⟨h2, h3⟩ := findN_in e2
      have := (live_find h).1 ⟨hp.mem_iff.1 h2, h3⟩
      rw [e] at this
      cases this
theorem sorted_pair {α : Type} [Inhabited α] {lt : α → α → Bool} {d : Array α} (h : Sort.SortedIn lt 0 d.size d) : d.toList.Pairwise (fun a b => lt b a = false) := by
  rw [List.pairwise_iff_getElem]
  intro i j hi hj hij
  have h1 := h i j (Nat.zero_le _) hij (by simpa using hj)
  rw [getElem!_pos d i (by simpa using hi), getElem!_pos d j (by simpa using hj)] at h1
  simpa using h1
theorem perm_all {α : Type} [Inhabited α] {d d' : Array α} (h : Sort.PermIn 0 d.size d d') : d'.toList.Perm d.toList := by
  have h1 := h.2.2
  rw [Array.extract_size] at h1
  rw [← h.1, Array.extract_size] at h1
  exact h1
end Go.Proofs.YtjlbpmmckgjajaaDoor
