/- Joined: TE7. -/
import Derived.Test.YtjlbpmmckgjajaaDoorYI
import Derived.Test.YtjlbpmmckgjajaaDoorYK

/- Trees: a move put ahead of others: words, what each step leaves. -/
namespace Go.Proofs.YtjlbpmmckgjajaaDoor
open Go.RowKit Go.Lib Go.Maps
set_option linter.unusedVariables false

theorem done_par {ns : List ND} {o : OpD} (h : ∀ n ∈ ns, wfP n.par) (ho : wfP (parO o)) : ∀ n ∈ doneG ns o, wfP n.par := by
  intro n hn
  unfold doneG at hn
  split at hn
  · exact h n hn
  · rcases putN_mem hn with rfl | hn
    · exact ho
    · exact h n hn
theorem made_par : ∀ (l : List OpD) {ns : List ND}, (∀ n ∈ ns, wfP n.par) → (∀ o ∈ l, moveB o = true) → ∀ n ∈ (madeG l ns).1, wfP n.par
  | [], _, h, _ => h
  | o :: l, ns, h, hl => made_par l (done_par h (moveB_wf (hl o (List.mem_cons_self ..))).2) fun x hx => hl x (List.mem_cons_of_mem _ hx)
theorem entG_par {ns : List ND} {o : OpD} (h : ∀ n ∈ ns, wfP n.par) (hw : (entG ns o).was = true) : wfP (entG ns o).par := by
  unfold entG at hw ⊢
  cases hf : findN ns (nodeO o) with
  | none => rw [hf] at hw; cases hw
  | some n => exact h n (find_mem hf).1
/-- moves that may be, one behind the other -/
abbrev AllM (l : List OpD) : Prop := ∀ o ∈ l, moveB o = true
theorem part_par {a b : List OpD} (ha : AllM a) (hb : AllM b) (j : Nat) : ∀ n ∈ partG a b j, wfP n.par := made_par _ (made_par a (fun n hn => by simp at hn) ha) fun x hx => hb x (List.mem_of_mem_take hx)
/-- so many of them done again, behind a move -/
abbrev againG (a b : List OpD) (o : OpD) (j : Nat) : List ND × List ED := madeG (o :: b.take j) (nodesG a)
theorem again_zero (a b : List OpD) (o : OpD) : againG a b o 0 = (doneG (nodesG a) o, [entG (nodesG a) o]) := rfl
theorem again_step {a b : List OpD} {o x : OpD} {j : Nat} (h : b[j]? = some x) : againG a b o (j + 1) = (doneG (againG a b o j).1 x, (againG a b o j).2 ++ [entG (againG a b o j).1 x]) := by
  unfold againG
  rw [take_snoc h, show o :: (b.take j ++ [x]) = (o :: b.take j) ++ [x] from rfl, made_snoc]
theorem again_all (a b : List OpD) (o : OpD) : againG a b o b.length = madeG (o :: b) (nodesG a) := by unfold againG; rw [List.take_length]
theorem again_acyc (a b : List OpD) (o : OpD) (j : Nat) : Acyc (againG a b o j).1 := acyc_made _ (acyc_nodes a)
/-- while moves are undone: so many are left -/
structure In0 (Wb : World) (g fp bm : Nat) (a b : List OpD) (o : OpD) (d : DV) (n0 : Nat) (w : World) (j : Nat) (sv : Value) (ps : List Pl) (sp : List SpD) : Prop where
  fr : FoR w Wb.heap.size fp bm sv ps sp
  fm : FoM ps sp (partG a b j)
  ln : ps.length + 2 * j ≤ n0
  bl : Below Wb.heap.size Wb w
  ob : Blk w g (o.1.cells o.2 (.slice d.a d.n d.c))
  gn : g ≠ fp ∧ g ≠ bm ∧ Wb.heap.size ≤ g
  vg : sv.ownBlock ≠ some g
/-- a call that changes the forest alone keeps a block -/
theorem KeptF.bk {w w' : World} {fp bm g : Nat} {v v' : Value} {cs : List Value} {c : Value} (h : KeptF w w' fp bm v v') (hb : Blk w g (c :: cs)) (h1 : g ≠ fp) (h2 : g ≠ bm) (h3 : v.ownBlock ≠ some g) : Blk w' g (c :: cs) ∧ v'.ownBlock ≠ some g := by
  refine ⟨hb.keep (h.blk g hb.lt h1 h2 h3), ?_⟩
  rcases h.lies with e | ⟨g', e, hg⟩
  · rw [e]; exact h3
  · rw [e]
    intro e2
    injection e2 with e2
    have := hb.lt
    omega
theorem FoR.bel {Wb w w' : World} {fp bm : Nat} {sv sv' : Value} {ps : List Pl} {sp : List SpD} (h : FoR w Wb.heap.size fp bm sv ps sp) (hk : KeptF w w' fp bm sv sv') (hb : Below Wb.heap.size Wb w) : Below Wb.heap.size Wb w' := hb.trans (hk.below hb.size h.b1 h.b2 fun g hg => (h.own.lt hg).1)
theorem In0.undo {Wb : World} {g fp bm : Nat} {a b : List OpD} {o : OpD} {d : DV} {n0 : Nat} {w w' : World} {j : Nat} {sv sv' : Value} {ps ps' : List Pl} {sp sp' : List SpD} {x : OpD} (h : In0 Wb g fp bm a b o d n0 w (j + 1) sv ps sp) (hx : b[j]? = some x) (hf : FoR w' Wb.heap.size fp bm sv' ps' sp') (hM : FoM ps' sp' (undoG (partG a b (j + 1)) (entG (partG a b j) x))) (hk : KeptF w w' fp bm sv sv') (hl : ps'.length ≤ ps.length + 2) : In0 Wb g fp bm a b o d n0 w' j sv' ps' sp' := by
  obtain ⟨h1, h2⟩ := hk.bk h.ob h.gn.1 h.gn.2.1 h.vg
  rw [partG_undo hx] at hM
  exact ⟨hf, hM, by have := h.ln; omega, h.fr.bel hk h.bl, h1, h.gn, h2⟩
/-- while they are done again: so many are -/
structure In1 (Wb : World) (fp bm : Nat) (a b : List OpD) (o : OpD) (n0 : Nat) (w : World) (j : Nat) (sv : Value) (ps : List Pl) (sp : List SpD) (v : Value) (zs : List EV) : Prop where
  fr : FoR w Wb.heap.size fp bm sv ps sp
  fm : FoM ps sp (againG a b o j).1
  ln : ps.length ≤ n0 + 2 + 2 * j
  bl : Below Wb.heap.size Wb w
  ow : OwnF 54 17 EV.enc w Wb.heap.size v zs
  es : entsY zs = (againG a b o j).2
  dk : DepsK Wb zs
  v1 : v.ownBlock ≠ some fp ∧ v.ownBlock ≠ some bm
  v2 : v.ownBlock = none ∨ v.ownBlock ≠ sv.ownBlock
theorem entsY_app (a b : List EV) : entsY (a ++ b) = entsY a ++ entsY b := by simp [entsY]
theorem In1.len {Wb : World} {fp bm : Nat} {a b : List OpD} {o : OpD} {n0 : Nat} {w : World} {j : Nat} {sv : Value} {ps : List Pl} {sp : List SpD} {v : Value} {zs : List EV} (h : In1 Wb fp bm a b o n0 w j sv ps sp v zs) : zs.length = (b.take j).length + 1 := by
  have h1 := congrArg List.length h.es
  rw [entsY_len] at h1
  rw [h1]
  unfold againG
  rw [madeG_len, List.length_cons]
/-- a row that the call owns lies apart from what a call changes of a forest -/
theorem OwnF.keptF {α : Type} {e : TypeId} {k : Nat} {enc : α → List Value} {w w' : World} {base fp bm : Nat} {v sv sv' : Value} {xs : List α} (h : OwnF e k enc w base v xs) (hk : KeptF w w' fp bm sv sv') (h1 : v.ownBlock ≠ some fp ∧ v.ownBlock ≠ some bm) (h2 : v.ownBlock = none ∨ v.ownBlock ≠ sv.ownBlock) : OwnF e k enc w' base v xs ∧ (v.ownBlock = none ∨ v.ownBlock ≠ sv'.ownBlock) := by
  constructor
  · refine ⟨h.1, ?_⟩
    rcases h.2 with hn | ⟨g, cap, cur, e1, h3, h4, h5⟩
    · exact .inl hn
    · refine .inr ⟨g, cap, cur, e1, h3, ?_, h5⟩
      have eo : v.ownBlock = some g := by rw [e1]; rfl
      rw [eo] at h1 h2
      have hg : g < w.heap.size := (Array.getElem?_eq_some_iff.1 h4).1
      have n3 : sv.ownBlock ≠ some g := by
        intro e
        rcases h2 with h2 | h2
        · cases h2
        · exact h2 e.symm
      rw [hk.blk g hg (fun e => h1.1 (congrArg some e)) (fun e => h1.2 (congrArg some e)) n3]
      exact h4
  · rcases h2 with h2 | h2
    · exact .inl h2
    · rcases hk.lies with e | ⟨g, e, hg⟩
      · rw [e]; exact .inr h2
      · rw [e]
        refine .inr fun e2 => ?_
        have := (h.lt e2).2
        omega
/-- an entry appended -/
theorem In1.push {Wb : World} {fp bm : Nat} {a b : List OpD} {o : OpD} {n0 : Nat} {w w6 w7 : World} {j : Nat} {sv sv' : Value} {ps ps' : List Pl} {sp sp' : List SpD} {v v7 : Value} {zs : List EV} {x : OpD} {d : DV} (h : In1 Wb fp bm a b o n0 w j sv ps sp v zs) (hx : b[j]? = some x)
    (hf : FoR w6 Wb.heap.size fp bm sv' ps' sp') (hM : FoM ps' sp' (doneG (againG a b o j).1 x)) (hk : KeptF w w6 fp bm sv sv') (hl : ps'.length ≤ ps.length + 2) (hd : DepK Wb x d) (hg : GrewF 54 17 EV.enc Wb.heap.size w6 v zs [(entG (againG a b o j).1 x, d)] v7 w7) : In1 Wb fp bm a b o n0 w7 (j + 1) sv' ps' sp' v7 (zs ++ [(entG (againG a b o j).1 x, d)]) := by
  obtain ⟨h1, h2⟩ := h.ow.keptF hk h.v1 h.v2
  have hlt := hf.lt
  have hb6 := h.fr.bel hk h.bl
  have hlie := hg.lies
  have n1 : v.ownBlock ≠ some fp := h.v1.1
  have n2 : v.ownBlock ≠ some bm := h.v1.2
  refine ⟨hf.keep fun k hk2 => ?_, by rw [again_step hx]; exact hM, by have := h.ln; omega, hg.bel hb6 (Nat.le_refl _) hb6.size, hg.own, ?_, fun y hy => ?_, ?_, ?_⟩
  · rcases hk2 with rfl | rfl | hk2
    · exact hg.gr.block _ hlt.1 (fun e => n1 e.symm)
    · exact hg.gr.block _ hlt.2 (fun e => n2 e.symm)
    · refine hg.gr.block k (hf.own.lt hk2).2 fun e => ?_
      rcases h2 with h2 | h2
      · rw [h2] at e; cases e
      · exact h2 (by rw [← e, hk2])
  · rw [entsY_app, h.es, again_step hx]; rfl
  · rcases List.mem_append.1 hy with hy | hy
    · exact h.dk y hy
    · rw [List.mem_singleton] at hy
      rw [hy]
      show DepK Wb (entG _ x).op d
      rw [entG_op]
      exact hd
  · rcases hlie with e | ⟨g, e, hg2⟩
    · rw [e]; exact h.v1
    · rw [e]
      exact ⟨fun e2 => by injection e2 with e2; omega, fun e2 => by injection e2 with e2; omega⟩
  · rcases hlie with e | ⟨g, e, hg2⟩
    · rw [e]; exact h2
    · rw [e]
      refine .inr fun e2 => ?_
      have := (hf.own.lt e2.symm).2
      omega
/-- what is told when all is done -/
def InsPost (Wb : World) (fp bm : Nat) (a b : List OpD) (o : OpD) (e : Ending) (w' : World) : Prop :=
  ∃ (v : Value) (zs : List EV) (sv : Value) (ps : List Pl) (sp : List SpD), e = .returned v ∧ OwnF 54 17 EV.enc w' Wb.heap.size v zs ∧ entsY zs = (madeG (o :: b) (nodesG a)).2 ∧ DepsK Wb zs ∧ FoR w' Wb.heap.size fp bm sv ps sp ∧ FoM ps sp (nodesG (a ++ o :: b)) ∧ Below Wb.heap.size Wb w'
theorem In1.finish {Wb : World} {fp bm : Nat} {a b : List OpD} {o : OpD} {n0 : Nat} {w : World} {j : Nat} {sv : Value} {ps : List Pl} {sp : List SpD} {v : Value} {zs : List EV} (h : In1 Wb fp bm a b o n0 w j sv ps sp v zs) (hj : b.length ≤ j) : InsPost Wb fp bm a b o (.returned v) w := by
  have e : againG a b o j = madeG (o :: b) (nodesG a) := by unfold againG; rw [List.take_of_length_le hj]
  refine ⟨v, zs, sv, ps, sp, rfl, h.ow, by rw [h.es, e], h.dk, h.fr, ?_, h.bl⟩
  have h1 := h.fm
  rw [e] at h1
  unfold nodesG
  rw [madeG_append]
  exact h1
end Go.Proofs.YtjlbpmmckgjajaaDoor
