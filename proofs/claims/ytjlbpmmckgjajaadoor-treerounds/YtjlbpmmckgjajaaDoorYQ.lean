/- Joined: TF9 TT6. -/
import Derived.Test.YtjlbpmmckgjajaaDoorYP

/- The forest: a place found, and where its parent stands. -/
namespace Go.Proofs.YtjlbpmmckgjajaaDoor
open Go.RowKit Go.Lib Go.Maps
set_option linter.unusedVariables false

/-- what lies at a place, and where its parent's number is -/
def Spot2 (ps : List Pl) (ns : List ND) (s : Pl) (x : SpD) : Prop := SpotIs ns s x ∧ (x.th = true → ps[x.ab]? = some x.n.par)
def FindPost2 (W : World) (ps : List Pl) (ns : List ND) (s : Pl) (e : Ending) (w' : World) : Prop :=
  ∃ x : SpD, e = .returned (valSp x) ∧ Spot2 ps ns s x ∧ Below W.heap.size W w'
theorem FoM.at2 {ps : List Pl} {sp : List SpD} {ns : List ND} (h : FoM ps sp ns) {i : Nat} {s : Pl} {x : SpD} (hi : ps[i]? = some s) (hx : sp[i]? = some x) : Spot2 ps ns s x := ⟨h.at hi hx, fun e => (h.th i s x hi hx e).2.2⟩
/-- a block of one's own written over -/
theorem find_end2 {W Wc : World} {g : Nat} {ps : List Pl} {ns : List ND} {s : Pl} {x : SpD} (hz : Blk Wc (g + 1) zSp.enc) (hb : Below W.heap.size W Wc) (hg : W.heap.size = g) (hs : Spot2 ps ns s x) :
    (loadVar 72 ⟨g + 1, 0, none⟩).run Tryd.prog (setsF Wc (g + 1) 0 x.enc 0) = .ok (valSp x) (setsF Wc (g + 1) 0 x.enc 0) ∧ FindPost2 W ps ns s (.returned (valSp x)) (setsF Wc (g + 1) 0 x.enc 0) := by
  have h := hz.sets x.enc 0
  rw [setsL_sp] at h
  refine ⟨loadVar_is aggSp sizeSp rfl h.cells, x, rfl, hs, ?_⟩
  have hgr := setsF_grown (g + 1) 0 x.enc 0 Wc
  exact ⟨hgr.os.trans hb.os, hgr.tape.trans hb.tape, hgr.output.trans hb.output, Nat.le_trans hb.size hgr.size, fun k hk => (hgr.block k (Nat.lt_of_lt_of_le hk hb.size) (fun e => by injection e with e; omega)).trans (hb.block k hk)⟩
set_option maxHeartbeats 8000000 in
set_option maxRecDepth 100000 in
theorem find2_any (W : World) (base fp bm : Nat) (sv : Value) (ps : List Pl) (sp : List SpD) (ns : List ND) (t r : Int) (h : FoR W base fp bm sv ps sp) (hM : FoM ps sp ns) (hs : wfP (t, r)) :
    Calls Tryd.prog 33 #[.pointer (some ⟨fp, 0, none⟩), .agg #[.int .i64 t, .int .i64 r]] W (FindPost2 W ps ns (t, r)) := by
  have mixed : Tryd.prog.follows .mixedOrders = true := by kernel_rfl
  obtain ⟨g, hg⟩ : ∃ g, W.heap.size = g := ⟨_, rfl⟩
  obtain ⟨W2, hW2⟩ : ∃ W2, (W.alloc (.cells #[.int .i64 t, .int .i64 r] 36)).alloc (.cells #[.bool false, .int .i64 0, .int .i64 0, .int .i64 0, .int .i64 0, .string ⟨#[]⟩, .int .i64 0] 72) = W2 := ⟨_, rfl⟩
  have HB2 : Hid (Below W.heap.size W W2) := by
    show Below _ _ _
    rw [← hW2]
    exact (box_bel W _).trans ((box_bel (W.alloc _) _).mono (by simp))
  have HZ2 : Hid (Blk W2 (g + 1) zSp.enc) := by
    show Blk _ _ _
    have h1 := objS_new (W.alloc (.cells #[.int .i64 t, .int .i64 r] 36)) zSp
    rw [World.size_alloc, hg] at h1
    rw [← hW2]
    exact h1
  have k0 : W2.cell? ⟨g, 0, none⟩ = some (.int .i64 t) := by rw [← hW2, ← hg]; simp
  have k1 : W2.cell? ⟨g, 1, none⟩ = some (.int .i64 r) := by rw [← hW2, ← hg]; simp
  have HF2 := Lib.hid (h.next HB2.out)
  have HM := Lib.hid hM
  obtain ⟨z, hlk, hz⟩ := look_is HF2.out hs
  have hlk1 : (Instr.lookup 74 (.map (some bm)) (.agg #[.int .i64 t, .int .i64 r]) true).run Tryd.prog W2 = .ok (.tuple #[.int .i64 z, .bool (decide ((t, r) ∈ ps))]) W2 := hlk
  obtain ⟨z', hlk2, hz'⟩ := look_is (HF2.out.next (Below.refl _ _).drew) hs
  have hlk2' : (Instr.lookup 74 (.map (some bm)) (.agg #[.int .i64 t, .int .i64 r]) true).run Tryd.prog W2.drew = .ok (.tuple #[.int .i64 z', .bool (decide ((t, r) ∈ ps))]) W2.drew := hlk2
  have c0 : W2.cell? ⟨fp, 0, none⟩ = some (.map (some bm)) := HF2.out.blk.cell 0 _ rfl
  have HZ := Lib.hid hz
  have HZ' := Lib.hid hz'
  have HG := Lib.hid hg
  have HH := Lib.hid h
  clear h hs hlk hlk2 hz hz' hM
  obtain ⟨bb, hbb⟩ : ∃ bb, decide ((t, r) ∈ ps) = bb := ⟨_, rfl⟩
  rw [hbb] at hlk1 hlk2'
  have HBB := Lib.hid hbb
  clear hbb
  go_enter Tryd.func33, Tryd.ntmps33
  go_wp2_with fail
  go_region
  obtain ⟨Wc, hWc⟩ : ∃ Wc, W2.drew = Wc := ⟨_, rfl⟩
  have HBc : Hid (Below W.heap.size W Wc) := by show Below _ _ _; rw [← hWc]; exact HB2.out.drew
  have HFc := Lib.hid (HH.out.next HBc.out)
  have HZc : Hid (Blk Wc (g + 1) zSp.enc) := by show Blk _ _ _; rw [← hWc]; exact HZ2.out.drew
  rw [hWc]
  clear hlk1 hlk2' c0 k0 k1 hW2 hWc
  have z0 := HZc.out.cell 0 _ rfl
  have y0 := HZc.out.free 0 _ rfl
  have z1 := HZc.out.cell 1 _ rfl
  have y1 := HZc.out.free 1 _ rfl
  have z2 := HZc.out.cell 2 _ rfl
  have y2 := HZc.out.free 2 _ rfl
  have z3 := HZc.out.cell 3 _ rfl
  have y3 := HZc.out.free 3 _ rfl
  have z4 := HZc.out.cell 4 _ rfl
  have y4 := HZc.out.free 4 _ rfl
  have z5 := HZc.out.cell 5 _ rfl
  have y5 := HZc.out.free 5 _ rfl
  have z6 := HZc.out.cell 6 _ rfl
  have y6 := HZc.out.free 6 _ rfl
  simp only [zSp] at z0 z1 z2 z3 z4 z5 z6
  cases bb
  · have HE := Lib.hid (find_end2 (ps := ps) (ns := ns) (s := (t, r)) HZc.out HBc.out HG.out (⟨.inr ⟨rfl, HM.out.al _ (of_decide_eq_false HBB.out)⟩, fun h => by cases h⟩))
    have hsb := spot_build
    go_wp2
    refine bodyPost_ret (results_cell Tryd.results33 _ ⟨g + 1, 0, none⟩ rfl HE.out.1) rfl ?_
    exact HE.out.2
  · obtain ⟨i, hi⟩ := List.getElem?_of_mem (of_decide_eq_true HBB.out)
    cases (HZ'.out i hi)
    obtain ⟨x, hx⟩ : ∃ x, sp[i]? = some x := ⟨_, List.getElem?_eq_getElem (by rw [HFc.out.ln]; exact (List.getElem?_eq_some_iff.1 hi).1)⟩
    obtain ⟨sa, sn, sc, rfl, hsn, hsc, hrow, hsg⟩ := HFc.out.own.form flatSp
    have hi1 : i < sn := by rw [hsn]; exact (List.getElem?_eq_some_iff.1 hx).1
    have hi1z : (i : Int) < (sn : Int) := by omega
    obtain ⟨b, rfl⟩ := hsg (by omega)
    have d1 : Wc.cell? ⟨fp, 1, none⟩ = some (.slice (some ⟨b, 0, none⟩) sn sc) := HFc.out.blk.cell 1 _ rfl
    have e0 : Wc.cell? ⟨b, i * 7, none⟩ = some (.bool x.th) := HFc.out.spot hx 0 _ rfl
    have e1 : Wc.cell? ⟨b, i * 7 + 1, none⟩ = some (.int .i64 x.n.id.1) := HFc.out.spot hx 1 _ rfl
    have e2 : Wc.cell? ⟨b, i * 7 + 2, none⟩ = some (.int .i64 x.n.id.2) := HFc.out.spot hx 2 _ rfl
    have e3 : Wc.cell? ⟨b, i * 7 + 3, none⟩ = some (.int .i64 x.n.par.1) := HFc.out.spot hx 3 _ rfl
    have e4 : Wc.cell? ⟨b, i * 7 + 4, none⟩ = some (.int .i64 x.n.par.2) := HFc.out.spot hx 4 _ rfl
    have e5 : Wc.cell? ⟨b, i * 7 + 5, none⟩ = some (.string x.n.key) := HFc.out.spot hx 5 _ rfl
    have e6 : Wc.cell? ⟨b, i * 7 + 6, none⟩ = some (.int .i64 (x.ab : Int)) := HFc.out.spot hx 6 _ rfl
    have HE := Lib.hid (find_end2 (ps := ps) (ns := ns) (s := (t, r)) HZc.out HBc.out HG.out (HM.out.at2 hi hx))
    clear hsn hsc hrow hsg hi hx
    go_wp2
    refine bodyPost_ret (results_cell Tryd.results33 _ ⟨g + 1, 0, none⟩ rfl HE.out.1) rfl ?_
    exact HE.out.2
end Go.Proofs.YtjlbpmmckgjajaaDoor

/- Trees: Above (goto). -/
namespace Go.Proofs.YtjlbpmmckgjajaaDoor
open Go.RowKit Go.Lib Go.Maps
set_option linter.unusedVariables false

/-- the places above one, so many at the most -/
def upL (ns : List ND) : Nat → Pl → List Pl
  | 0, _ => []
  | k + 1, s => match findN ns s with | none => [] | some n => n.par :: upL ns k n.par
theorem upL_none {ns : List ND} {s : Pl} (h : findN ns s = none) : ∀ k, upL ns k s = []
  | 0 => rfl
  | k + 1 => by rw [upL, h]
theorem upL_more {ns : List ND} : ∀ {k : Nat} {s : Pl} (j : Nat), ends ns k s = true → upL ns (k + j) s = upL ns k s
  | 0, s, j, h => by
    rw [ends, Option.isNone_iff_eq_none] at h
    rw [upL_none h, upL_none h]
  | k + 1, s, j, h => by
    cases hf : findN ns s with
    | none => rw [upL_none hf, upL_none hf]
    | some n =>
      rw [ends_succ hf] at h
      rw [show k + 1 + j = (k + j) + 1 by omega, upL, upL, hf]
      show n.par :: upL ns (k + j) n.par = n.par :: upL ns k n.par
      rw [upL_more j h]
abbrev upA (ns : List ND) (s : Pl) : List Pl := upL ns ns.length s
theorem upA_none {ns : List ND} {s : Pl} (h : findN ns s = none) : upA ns s = [] := upL_none h _
theorem upA_up {ns : List ND} (h : Acyc ns) {s : Pl} {n : ND} (hf : findN ns s = some n) : upA ns s = n.par :: upA ns n.par := by
  have hb := h.bound s
  unfold upA
  obtain ⟨m, hm⟩ : ∃ m, ns.length = m + 1 := ⟨ns.length - 1, by have := List.length_pos_of_mem (find_mem hf).1; omega⟩
  rw [hm] at hb ⊢
  rw [ends_succ hf] at hb
  have := upL_more 1 hb
  rw [this, upL, hf]
theorem upL_len (ns : List ND) : ∀ (k : Nat) (s : Pl), (upL ns k s).length ≤ k
  | 0, _ => Nat.le_refl _
  | k + 1, s => by
    rw [upL]
    split
    · simp
    · simp only [List.length_cons]
      have := upL_len ns k
      exact Nat.succ_le_succ (this _)
def encP (s : Pl) : List Value := [.int .i64 s.1, .int .i64 s.2]
theorem flatP : Flat 36 27 2 16 encP := by
  refine ⟨fun _ => rfl, fun x u hu => ?_, Tryd.underlying27, ?_, by decide, by decide⟩
  · simp only [encP, List.mem_cons, List.not_mem_nil, or_false] at hu
    rcases hu with rfl | rfl <;> rfl
  · have h : (Tryd.prog.info? 36).map (fun i => (i.zero, i.size, i.bytes)) = some (some (.agg #[.int .i64 0, .int .i64 0]), 2, 16) := by kernel_rfl
    obtain ⟨i0, hi, hz0, hz1, hz2⟩ := info_parts h
    exact ⟨i0, _, hi, hz0, hz1, hz2, rfl⟩
/-- what stays while one goes up -/
structure AbC (W : World) (ns : List ND) (es : List ED) (s : Pl) (w1 : World) (B fp bm : Nat) (sv : Value) (ps : List Pl) (sp : List SpD) (q : Nat) : Prop where
  bw : Below W.heap.size W w1
  tp : TreeP ns es
  fd : ∃ n, findN ns s = some n
  fr : FoR w1 B fp bm sv ps sp
  fm : FoM ps sp ns
  q1 : w1.heap.size ≤ q
  ln : ns.length ≤ 400
/-- at a node on the way up -/
structure AbI (w1 : World) (q : Nat) (ps : List Pl) (ns : List ND) (tot : List Pl) (w : World) (u : Pl) (x : SpD) (v : Value) (don : List Pl) : Prop where
  bl : Below w1.heap.size w1 w
  sp : Blk w q x.enc
  th : x.th = true
  fn : findN ns u = some x.n
  ab : ps[x.ab]? = some x.n.par
  ow : OwnF 36 2 encP w (q + 1) v don
  tt : don ++ upA ns u = tot
  sz : q + 1 ≤ w.heap.size
def AbJ (W : World) (ns : List ND) (es : List ED) (s : Pl) (act : Act) (w : World) : Prop :=
  ∃ (w1 : World) (B fp bm : Nat) (sv : Value) (ps : List Pl) (sp : List SpD) (q : Nat) (u : Pl) (x : SpD) (v : Value) (don : List Pl) (u0 u1 u2 u3 u4 u5 u7 u10 u11 u12 u13 u14 u15 u16 u17 u18 u19 u20 u21 u22 u23 u24 u25 u26 u27 u28 u29 u30 u31 u32 u33 u34 u35 u36 u37 u38 u39 u40 : Value), act = { tmps := #[u0, u1, u2, u3, u4, u5, .pointer (some ⟨fp, 0, none⟩), u7, .pointer (some ⟨q, 0, none⟩), v, u10, u11, u12, u13, u14, u15, u16, u17, u18, u19, u20, u21, u22, u23, u24, u25, u26, u27, u28, u29, u30, u31, u32, u33, u34, u35, u36, u37, u38, u39, u40], defers := [] } ∧ AbC W ns es s w1 B fp bm sv ps sp q ∧ AbI w1 q ps ns (upA ns s) w u x v don
def cellI (w : World) (q j : Nat) : Int := match w.cell? ⟨q, j, none⟩ with
  | some (.int _ z) => z
  | _ => 0
/-- which place's copy lies there -/
def plA (a : Act) (w : World) : Pl := match a.tmps.getD 8 undef with
  | .pointer (some b) => (cellI w b.block 1, cellI w b.block 2)
  | _ => (0, 0)
theorem cellI_is {w : World} {q j : Nat} {z : Int} (h : w.cell? ⟨q, j, none⟩ = some (.int .i64 z)) : cellI w q j = z := by
  unfold cellI
  rw [h]
theorem AbI.step {W : World} {ns : List ND} {es : List ED} {s : Pl} {w1 : World} {B fp bm : Nat} {sv : Value} {ps : List Pl} {sp : List SpD} {q : Nat} {tot : List Pl} {w w6 : World} {u : Pl} {x y : SpD} {v v6 : Value} {don : List Pl} (hC : AbC W ns es s w1 B fp bm sv ps sp q) (h : AbI w1 q ps ns tot w u x v don) (hp : GrewF 36 2 encP (q + 1) w v don [x.n.par] v6 w6) (hy : sp[x.ab]? = some y) :
    Below w1.heap.size w1 (setsF w6 q 0 y.enc 0).drew ∧ OwnF 36 2 encP (setsF w6 q 0 y.enc 0).drew (q + 1) v6 (don ++ [x.n.par]) ∧ (y.th = true → AbI w1 q ps ns tot (setsF w6 q 0 y.enc 0).drew x.n.par y v6 (don ++ [x.n.par])) ∧ (y.th = false → don ++ [x.n.par] = tot) := by
  have hq := hC.q1
  have hb6 : Below w1.heap.size w1 w6 := hp.bel h.bl (by omega) h.bl.size
  have hg := setsF_grown q 0 y.enc 0 w6
  have hb7 := bel_own (Nat.le_refl _) hb6 hg hq
  have hne : v6.ownBlock = none ∨ v6.ownBlock ≠ some q := by
    cases e : v6.ownBlock with
    | none => exact .inl rfl
    | some b => exact .inr fun e2 => by injection e2 with e2; have := (hp.own.lt e).1; omega
  have ho := hp.own.grown hg hne
  have hac : Acyc ns := by
    have h1 := acyc_nodes (opsE es)
    rw [hC.tp.nds] at h1
    exact h1
  have hs6 : Blk w6 q x.enc := h.sp.grown hp.gr fun e => by have := (h.ow.lt e.symm).1; omega
  have hs7 := hs6.sets y.enc 0
  have e7 : setsL x.enc 0 y.enc 0 = y.enc := by simp [setsL, SpD.enc]
  rw [e7] at hs7
  have hup := upA_up hac h.fn
  have htt := h.tt
  rw [hup] at htt
  have hsz : q + 1 ≤ (setsF w6 q 0 y.enc 0).heap.size := by
    have h1 := h.sz
    have h2 := hp.gr.size
    have h3 := hg.size
    omega
  have hss : Below (setsF w6 q 0 y.enc 0).heap.size (setsF w6 q 0 y.enc 0) (setsF w6 q 0 y.enc 0).drew := (Below.refl _ _).drew
  have hod : OwnF 36 2 encP (setsF w6 q 0 y.enc 0).drew (q + 1) v6 (don ++ [x.n.par]) := ho.below hss
  generalize setsF w6 q 0 y.enc 0 = w7 at hg hb7 ho hs7 hsz hss hod ⊢
  have hsd : Blk w7.drew q y.enc := Blk.drew hs7
  refine ⟨hb7.drew, hod, fun hth => ?_, fun hth => ?_⟩
  · obtain ⟨h1, h2, h3⟩ := hC.fm.th _ _ _ h.ab hy hth
    exact ⟨hb7.drew, hsd, hth, h2, h3, hod, by rw [List.append_assoc]; exact htt, hsz⟩
  · have h2 := (hC.fm.no _ _ _ h.ab hy hth).2
    rw [upA_none h2] at htt
    exact htt
theorem AbI.less {W : World} {ns : List ND} {es : List ED} {s : Pl} {w1 : World} {B fp bm : Nat} {sv : Value} {ps : List Pl} {sp : List SpD} {q : Nat} {tot : List Pl} {w w7 : World} {u : Pl} {x y : SpD} {v v7 : Value} {don don' : List Pl} {a a' : Act} (hC : AbC W ns es s w1 B fp bm sv ps sp q) (h : AbI w1 q ps ns tot w u x v don) (h' : AbI w1 q ps ns tot w7 x.n.par y v7 don') (e : a.tmps.getD 8 undef = .pointer (some ⟨q, 0, none⟩)) (e' : a'.tmps.getD 8 undef = .pointer (some ⟨q, 0, none⟩)) : stepsN ns ns.length (plA a' w7) < stepsN ns ns.length (plA a w) := by
  have hac : Acyc ns := by
    have h1 := acyc_nodes (opsE es)
    rw [hC.tp.nds] at h1
    exact h1
  have p1 : plA a w = u := by
    unfold plA
    rw [e]
    show (cellI w q 1, cellI w q 2) = u
    rw [cellI_is (h.sp.cell 1 _ rfl), cellI_is (h.sp.cell 2 _ rfl), ← (find_mem h.fn).2]
  have p2 : plA a' w7 = x.n.par := by
    unfold plA
    rw [e']
    show (cellI w7 q 1, cellI w7 q 2) = x.n.par
    rw [cellI_is (h'.sp.cell 1 _ rfl), cellI_is (h'.sp.cell 2 _ rfl), ← (find_mem h'.fn).2]
  rw [p1, p2, stepsN_up hac h.fn]
  omega
def AbovePost (W : World) (ns : List ND) (es : List ED) (s : Pl) (e : Ending) (w' : World) : Prop :=
  Below W.heap.size W w' ∧
  ((¬ TreeP ns es ∧ e = .returned (.tuple #[.slice none 0 0, .int .i64 1])) ∨
   (TreeP ns es ∧ findN ns s = none ∧ e = .returned (.tuple #[.slice none 0 0, .int .i64 3])) ∨
   (TreeP ns es ∧ ∃ n v, findN ns s = some n ∧ e = .returned (.tuple #[v, .int .i64 0]) ∧ OwnF 36 2 encP w' W.heap.size v (upA ns s)))
set_option maxHeartbeats 8000000 in
set_option maxRecDepth 100000 in
theorem above_any (na : Option Addr) (ns : List ND) (nn nc : Nat) (ma : Option Addr) (ys : List EV) (mn mc : Nat) (t r : Int) (W : World) (ht : Pr.Tab W) (h : TrR W na ns nn ma ys mn) (hl : ys.length ≤ 400) (hs : wfP (t, r)) :
    Calls Tryd.prog 12 #[valT na nn nc ma mn mc, .agg #[.int .i64 t, .int .i64 r]] W (AbovePost W ns (entsY ys) (t, r)) := by
  have mixed : Tryd.prog.follows .mixedOrders = true := by kernel_rfl
  obtain ⟨g, hg⟩ : ∃ g, W.heap.size = g := ⟨_, rfl⟩
  obtain ⟨es, hes⟩ : ∃ es, entsY ys = es := ⟨_, rfl⟩
  obtain ⟨W3, hW3⟩ : ∃ W3, (W.alloc (objT na nn nc ma mn mc)).alloc (.cells #[.int .i64 t, .int .i64 r] 36) = W3 := ⟨_, rfl⟩
  have HB3 : Hid (Below W.heap.size W W3) := by
    show Below _ _ _
    rw [← hW3]
    exact (box_bel W _).trans ((box_bel _ (.cells #[.int .i64 t, .int .i64 r] 36)).mono (by simp))
  have HT3 : Hid (Blk W3 g [.slice na nn nc, .slice ma mn mc]) := by
    show Blk _ _ _
    rw [← hW3, ← hg]
    exact (objT_new W na nn nc ma mn mc).next (box_bel _ _)
  have HS3 : Hid (∀ w, Below W3.heap.size W3 w → w.cell? ⟨g + 1, 0, none⟩ = some (.int .i64 t) ∧ w.cell? ⟨g + 1, 1, none⟩ = some (.int .i64 r)) := fun w hb => by
    have h1 := stP_new (W.alloc (objT na nn nc ma mn mc)) t r
    rw [hW3, World.size_alloc, hg] at h1
    have h2 := h1.next hb
    exact ⟨h2.cell 0 _ rfl, h2.cell 1 _ rfl⟩
  have CG := Lib.hid (grown_any na ns nn nc ma ys mn mc W3 (ht.below HB3.out ht.lt) (h.next HB3.out) hl)
  rw [hes] at CG ⊢
  have HG := Lib.hid hg
  have HW := Lib.hid hs
  have HEL : Hid (es.length ≤ 400) := by show _ ≤ _; rw [← hes, entsY_len]; exact hl
  have t0 := HT3.out.cell 0 _ rfl
  have t1 := HT3.out.cell 1 _ rfl
  clear h ht hl hes hs
  go_enter Tryd.func12, Tryd.ntmps12
  go_wp2
  clear hW3 hg
  refine wp_scope_jumps 0 (AbJ W ns es (t, r)) (fun a' w' => stepsN ns ns.length (plA a' w')) rfl ?_ ?_
  · go_wp2_with fail
    clear t0 t1
    refine (CG.out).mono ?_
    rintro e0 w1 ⟨hb1, hcase⟩
    have HB1 : Hid (Below W3.heap.size W3 w1) := hb1
    have HBW1 : Hid (Below W.heap.size W w1) := HB3.out.trans (hb1.mono HB3.out.size)
    clear hb1 CG
    rcases hcase with ⟨hT, fp, bm, sv, ps, sp, rfl, hfr, hfm, hln⟩ | ⟨hT, rfl⟩
    · have HTP := Lib.hid hT
      have HFR := Lib.hid hfr
      have HFM := Lib.hid hfm
      have CF := Lib.hid (find2_any w1 W3.heap.size fp bm sv ps sp ns t r hfr hfm HW.out)
      obtain ⟨k0, k1⟩ := HS3.out w1 HB1.out
      clear hT hfr hfm hln
      go_wp2_with fail
      clear k0 k1
      refine (CF.out).mono ?_
      rintro e0 w2 ⟨x, rfl, hx, hb2⟩
      have HX := Lib.hid hx
      have HB2 := Lib.hid hb2
      clear hx hb2 CF
      go_upto_region 5 with fail
      obtain ⟨w, hw3⟩ : ∃ w, w2.alloc (objS x) = w := ⟨_, rfl⟩
      have HS : Hid (Blk w w2.heap.size x.enc) := by show Blk _ _ _; rw [← hw3]; exact objS_new w2 x
      have HB13 : Hid (Below w1.heap.size w1 w) := by show Below _ _ _; rw [← hw3]; exact HB2.out.trans ((box_bel w2 _).mono HB2.out.size)
      have HZ3 : Hid (w.heap.size = w2.heap.size + 1) := by show _ = _; rw [← hw3]; simp
      rw [hw3]
      clear hw3
      obtain ⟨q, hq⟩ : ∃ q, w2.heap.size = q := ⟨_, rfl⟩
      have HQ1 : Hid (w1.heap.size ≤ q) := by have := HB2.out.size; show _ ≤ _; omega
      rw [hq] at HS HZ3 ⊢
      clear hq HB2
      have s0 := HS.out.cell 0 _ rfl
      cases hth : x.th
      · rw [hth] at s0
        have HFN : Hid (findN ns (t, r) = none) := by
          rcases HX.out.1 with ⟨h1, -, -⟩ | ⟨h1, h2⟩
          · rw [hth] at h1; cases h1
          · exact h2
        have HBE := Lib.hid (HBW1.out.trans (HB13.out.mono HBW1.out.size))
        go_wp2_with fail
        (try simp only [Exit.jump])
        go_ret2
        exact ⟨HBE.out, .inr (.inl ⟨HTP.out, HFN.out, rfl⟩)⟩
      · rw [hth] at s0
        have HFN : Hid (findN ns (t, r) = some x.n) := by
          rcases HX.out.1 with ⟨-, h2, -⟩ | ⟨h1, h2⟩
          · exact h2
          · rw [h1] at hth; cases hth
        have HNL : Hid (ns.length ≤ 400) := by
          have h1 := nodes_len (opsE es)
          rw [HTP.out.nds] at h1
          have h2 := HEL.out
          simp only [opsE, List.length_map] at h1
          show _ ≤ _
          omega
        have HC : Hid (AbC W ns es (t, r) w1 W3.heap.size fp bm sv ps sp q) := ⟨HBW1.out, HTP.out, ⟨_, HFN.out⟩, HFR.out, HFM.out, HQ1.out, HNL.out⟩
        obtain ⟨u, hu⟩ : ∃ u : Pl, (t, r) = u := ⟨_, rfl⟩
        obtain ⟨v, hv⟩ : ∃ v : Value, Value.slice none 0 0 = v := ⟨_, rfl⟩
        obtain ⟨don, hdon⟩ : ∃ don : List Pl, [] = don := ⟨_, rfl⟩
        have HI : Hid (AbI w1 q ps ns (upA ns (t, r)) w u x v don) := by
          rw [← hu, ← hv, ← hdon]
          exact ⟨HB13.out, HS.out, hth, HFN.out, HX.out.2 hth, OwnF.nil _ _, rfl, by have := HZ3.out; omega⟩
        clear hth hdon hu
        go_wp2_with fail
        rw [hv]
        clear s0 hv
        go_step3
        obtain ⟨sa, sn, sc, hsv, hsn, -, hrow, hsg⟩ := HC.out.fr.own.form flatSp
        subst hsv
        obtain ⟨y, hy⟩ : ∃ y, sp[x.ab]? = some y := ⟨_, List.getElem?_eq_getElem (by rw [HC.out.fr.ln]; exact (List.getElem?_eq_some_iff.1 HI.out.ab).1)⟩
        have hil : x.ab < sn := by rw [hsn]; exact (List.getElem?_eq_some_iff.1 hy).1
        have hilz : (x.ab : Int) < (sn : Int) := by omega
        obtain ⟨b, rfl⟩ := hsg (by omega)
        have HY := Lib.hid hy
        have HST : Hid (∀ v6 w6, GrewF 36 2 encP (q + 1) w v don [x.n.par] v6 w6 → _) := fun v6 w6 hp => AbI.step HC.out HI.out hp hy
        have HLE : Hid ((don.length + [x.n.par].length) * 16 ≤ 140737488355328) := by
          have h1 := congrArg List.length HI.out.tt
          have h2 : (upA ns (t, r)).length ≤ ns.length := upL_len ns ns.length (t, r)
          have h3 := HC.out.ln
          rw [List.length_append] at h1
          show _ ≤ _
          rw [List.length_singleton]
          omega
        have p3 := HI.out.sp.cell 3 _ rfl
        have p4 := HI.out.sp.cell 4 _ rfl
        clear hsn hrow hsg hy
        go_upto_region 9 with (at_builtin
                               refine wpF_row flatP rfl _ _ rfl (q + 1) w _ (World.grownBy_alloc w _ none) v don [x.n.par] (some ⟨w.heap.size, 0, none⟩) 1 1 rfl HI.out.ow rfl rfl (one_rowF w x.n.par _ rfl) HLE.out HI.out.sz ?_
                               intro v6 w6 hp6
                               have HS6 := Lib.hid (HST.out v6 w6 hp6)
                               have HB6 : Hid (Below w1.heap.size w1 w6) := hp6.bel HI.out.bl (by have := HC.out.q1; omega) HI.out.bl.size
                               have HX6 : Hid (Blk w6 q x.enc) := HI.out.sp.grown hp6.gr (fun e => by have := (HI.out.ow.lt e.symm).1; omega)
                               clear hp6)
        clear p3 p4
        have HF6 := Lib.hid (HC.out.fr.next HB6.out)
        have d1 : w6.cell? ⟨fp, 1, none⟩ = some (.slice (some ⟨b, 0, none⟩) sn sc) := HF6.out.blk.cell 1 _ rfl
        have e0 : w6.cell? ⟨b, x.ab * 7, none⟩ = some (.bool y.th) := HF6.out.spot HY.out 0 _ rfl
        have e1 : w6.cell? ⟨b, x.ab * 7 + 1, none⟩ = some (.int .i64 y.n.id.1) := HF6.out.spot HY.out 1 _ rfl
        have e2 : w6.cell? ⟨b, x.ab * 7 + 2, none⟩ = some (.int .i64 y.n.id.2) := HF6.out.spot HY.out 2 _ rfl
        have e3 : w6.cell? ⟨b, x.ab * 7 + 3, none⟩ = some (.int .i64 y.n.par.1) := HF6.out.spot HY.out 3 _ rfl
        have e4 : w6.cell? ⟨b, x.ab * 7 + 4, none⟩ = some (.int .i64 y.n.par.2) := HF6.out.spot HY.out 4 _ rfl
        have e5 : w6.cell? ⟨b, x.ab * 7 + 5, none⟩ = some (.string y.n.key) := HF6.out.spot HY.out 5 _ rfl
        have e6 : w6.cell? ⟨b, x.ab * 7 + 6, none⟩ = some (.int .i64 (y.ab : Int)) := HF6.out.spot HY.out 6 _ rfl
        have k0 := HX6.out.cell 0 _ rfl
        have k1 := HX6.out.cell 1 _ rfl
        have k2 := HX6.out.cell 2 _ rfl
        have k3 := HX6.out.cell 3 _ rfl
        have k4 := HX6.out.cell 4 _ rfl
        have k5 := HX6.out.cell 5 _ rfl
        have k6 := HX6.out.cell 6 _ rfl
        have f0 := HX6.out.free 0 _ rfl
        have f1 := HX6.out.free 1 _ rfl
        have f2 := HX6.out.free 2 _ rfl
        have f3 := HX6.out.free 3 _ rfl
        have f4 := HX6.out.free 4 _ rfl
        have f5 := HX6.out.free 5 _ rfl
        have f6 := HX6.out.free 6 _ rfl
        go_region
        obtain ⟨w7, hw7⟩ : ∃ w7, (setsF w6 q 0 y.enc 0).drew = w7 := ⟨_, rfl⟩
        have HK7 : Hid (Blk w7 q y.enc) := by
          have h1 := (HX6.out.sets y.enc 0).drew
          have e7 : setsL x.enc 0 y.enc 0 = y.enc := by simp [setsL, SpD.enc]
          rw [e7, hw7] at h1
          exact h1
        rw [hw7] at HS6
        simp only [setsF, SpD.enc, Nat.add_zero, Nat.reduceAdd, Nat.zero_add] at hw7
        rw [hw7]
        clear hw7 d1 e0 e1 e2 e3 e4 e5 e6 k0 k1 k2 k3 k4 k5 k6 f0 f1 f2 f3 f4 f5 f6
        cases hth : y.th
        · have HT := Lib.hid (HS6.out.2.2.2 hth)
          have s0 : w7.cell? ⟨q, 0, none⟩ = some (.bool false) := by rw [← hth]; exact HK7.out.cell 0 _ rfl
          have HBE := Lib.hid (HC.out.bw.trans (HS6.out.1.mono HC.out.bw.size))
          have HOE := Lib.hid (HS6.out.2.1.mono (show W.heap.size ≤ q + 1 by have h1 := HC.out.q1; have h2 := HC.out.bw.size; omega))
          clear hth
          go_wp2_with fail
          (try simp only [Exit.jump])
          go_ret2
          exact ⟨HBE.out, .inr (.inr ⟨HC.out.tp, HC.out.fd.choose, _, HC.out.fd.choose_spec, rfl, by rw [← HT.out]; exact HOE.out⟩)⟩
        · have HI7 := Lib.hid (HS6.out.2.2.1 hth)
          have s0 : w7.cell? ⟨q, 0, none⟩ = some (.bool true) := by rw [← hth]; exact HK7.out.cell 0 _ rfl
          clear hth
          go_wp2_with fail
          go_step3
          exact ⟨rfl, w1, _, fp, bm, _, ps, sp, q, x.n.par, y, v6, _, _, _, _, _, _, _, _, _, _, _, _, _, _, _, _, _, _, _, _, _, _, _, _, _, _, _, _, _, _, _, _, _, _, _, _, _, _, _, rfl, HC.out, HI7.out⟩
    · have HTP := Lib.hid hT
      clear hT
      go_wp2_with fail
      (try simp only [Exit.jump])
      go_ret2
      exact ⟨HBW1.out, .inl ⟨HTP.out, rfl⟩⟩
  · rintro a1 w ⟨w1, B, fp, bm, sv, ps, sp, q, u, x, v, don, u0, u1, u2, u3, u4, u5, u7, u10, u11, u12, u13, u14, u15, u16, u17, u18, u19, u20, u21, u22, u23, u24, u25, u26, u27, u28, u29, u30, u31, u32, u33, u34, u35, u36, u37, u38, u39, u40, rfl, hC, hI⟩
    have HC := Lib.hid hC
    have HI := Lib.hid hI
    clear hC hI t0 t1 CG
    obtain ⟨sa, sn, sc, hsv, hsn, -, hrow, hsg⟩ := HC.out.fr.own.form flatSp
    subst hsv
    obtain ⟨y, hy⟩ : ∃ y, sp[x.ab]? = some y := ⟨_, List.getElem?_eq_getElem (by rw [HC.out.fr.ln]; exact (List.getElem?_eq_some_iff.1 HI.out.ab).1)⟩
    have hil : x.ab < sn := by rw [hsn]; exact (List.getElem?_eq_some_iff.1 hy).1
    have hilz : (x.ab : Int) < (sn : Int) := by omega
    obtain ⟨b, rfl⟩ := hsg (by omega)
    have HY := Lib.hid hy
    have HST : Hid (∀ v6 w6, GrewF 36 2 encP (q + 1) w v don [x.n.par] v6 w6 → _) := fun v6 w6 hp => AbI.step HC.out HI.out hp hy
    have HLE : Hid ((don.length + [x.n.par].length) * 16 ≤ 140737488355328) := by
      have h1 := congrArg List.length HI.out.tt
      have h2 : (upA ns (t, r)).length ≤ ns.length := upL_len ns ns.length (t, r)
      have h3 := HC.out.ln
      rw [List.length_append] at h1
      show _ ≤ _
      rw [List.length_singleton]
      omega
    have p3 := HI.out.sp.cell 3 _ rfl
    have p4 := HI.out.sp.cell 4 _ rfl
    clear hsn hrow hsg hy
    go_upto_region 9 with (at_builtin
                           refine wpF_row flatP rfl _ _ rfl (q + 1) w _ (World.grownBy_alloc w _ none) v don [x.n.par] (some ⟨w.heap.size, 0, none⟩) 1 1 rfl HI.out.ow rfl rfl (one_rowF w x.n.par _ rfl) HLE.out HI.out.sz ?_
                           intro v6 w6 hp6
                           have HS6 := Lib.hid (HST.out v6 w6 hp6)
                           have HB6 : Hid (Below w1.heap.size w1 w6) := hp6.bel HI.out.bl (by have := HC.out.q1; omega) HI.out.bl.size
                           have HX6 : Hid (Blk w6 q x.enc) := HI.out.sp.grown hp6.gr (fun e => by have := (HI.out.ow.lt e.symm).1; omega)
                           clear hp6)
    clear p3 p4
    have HF6 := Lib.hid (HC.out.fr.next HB6.out)
    have d1 : w6.cell? ⟨fp, 1, none⟩ = some (.slice (some ⟨b, 0, none⟩) sn sc) := HF6.out.blk.cell 1 _ rfl
    have e0 : w6.cell? ⟨b, x.ab * 7, none⟩ = some (.bool y.th) := HF6.out.spot HY.out 0 _ rfl
    have e1 : w6.cell? ⟨b, x.ab * 7 + 1, none⟩ = some (.int .i64 y.n.id.1) := HF6.out.spot HY.out 1 _ rfl
    have e2 : w6.cell? ⟨b, x.ab * 7 + 2, none⟩ = some (.int .i64 y.n.id.2) := HF6.out.spot HY.out 2 _ rfl
    have e3 : w6.cell? ⟨b, x.ab * 7 + 3, none⟩ = some (.int .i64 y.n.par.1) := HF6.out.spot HY.out 3 _ rfl
    have e4 : w6.cell? ⟨b, x.ab * 7 + 4, none⟩ = some (.int .i64 y.n.par.2) := HF6.out.spot HY.out 4 _ rfl
    have e5 : w6.cell? ⟨b, x.ab * 7 + 5, none⟩ = some (.string y.n.key) := HF6.out.spot HY.out 5 _ rfl
    have e6 : w6.cell? ⟨b, x.ab * 7 + 6, none⟩ = some (.int .i64 (y.ab : Int)) := HF6.out.spot HY.out 6 _ rfl
    have k0 := HX6.out.cell 0 _ rfl
    have k1 := HX6.out.cell 1 _ rfl
    have k2 := HX6.out.cell 2 _ rfl
    have k3 := HX6.out.cell 3 _ rfl
    have k4 := HX6.out.cell 4 _ rfl
    have k5 := HX6.out.cell 5 _ rfl
    have k6 := HX6.out.cell 6 _ rfl
    have f0 := HX6.out.free 0 _ rfl
    have f1 := HX6.out.free 1 _ rfl
    have f2 := HX6.out.free 2 _ rfl
    have f3 := HX6.out.free 3 _ rfl
    have f4 := HX6.out.free 4 _ rfl
    have f5 := HX6.out.free 5 _ rfl
    have f6 := HX6.out.free 6 _ rfl
    go_region
    obtain ⟨w7, hw7⟩ : ∃ w7, (setsF w6 q 0 y.enc 0).drew = w7 := ⟨_, rfl⟩
    have HK7 : Hid (Blk w7 q y.enc) := by
      have h1 := (HX6.out.sets y.enc 0).drew
      have e7 : setsL x.enc 0 y.enc 0 = y.enc := by simp [setsL, SpD.enc]
      rw [e7, hw7] at h1
      exact h1
    rw [hw7] at HS6
    simp only [setsF, SpD.enc, Nat.add_zero, Nat.reduceAdd, Nat.zero_add] at hw7
    rw [hw7]
    clear hw7 d1 e0 e1 e2 e3 e4 e5 e6 k0 k1 k2 k3 k4 k5 k6 f0 f1 f2 f3 f4 f5 f6
    cases hth : y.th
    · have HT := Lib.hid (HS6.out.2.2.2 hth)
      have s0 : w7.cell? ⟨q, 0, none⟩ = some (.bool false) := by rw [← hth]; exact HK7.out.cell 0 _ rfl
      have HBE := Lib.hid (HC.out.bw.trans (HS6.out.1.mono HC.out.bw.size))
      have HOE := Lib.hid (HS6.out.2.1.mono (show W.heap.size ≤ q + 1 by have h1 := HC.out.q1; have h2 := HC.out.bw.size; omega))
      clear hth
      go_wp2_with fail
      (try simp only [Exit.jump])
      go_ret2
      exact ⟨HBE.out, .inr (.inr ⟨HC.out.tp, HC.out.fd.choose, _, HC.out.fd.choose_spec, rfl, by rw [← HT.out]; exact HOE.out⟩)⟩
    · have HI7 := Lib.hid (HS6.out.2.2.1 hth)
      have s0 : w7.cell? ⟨q, 0, none⟩ = some (.bool true) := by rw [← hth]; exact HK7.out.cell 0 _ rfl
      clear hth
      go_wp2_with fail
      go_step3
      refine ⟨rfl, ⟨w1, _, fp, bm, _, ps, sp, q, x.n.par, y, v6, _, _, _, _, _, _, _, _, _, _, _, _, _, _, _, _, _, _, _, _, _, _, _, _, _, _, _, _, _, _, _, _, _, _, _, _, _, _, _, rfl, HC.out, HI7.out⟩, ?_⟩
      exact AbI.less HC.out HI.out HI7.out rfl rfl
end Go.Proofs.YtjlbpmmckgjajaaDoor
