/- Joined: TE8. -/
import Derived.Test.YtjlbpmmckgjajaaDoorYL

/- Trees: a move put ahead of others (two gotos): the walk. -/
namespace Go.Proofs.YtjlbpmmckgjajaaDoor
open Go.RowKit Go.Lib Go.Maps
set_option linter.unusedVariables false

theorem OwnF.one {α : Type} {e st : TypeId} {k bytes : Nat} {enc : α → List Value} (F : Flat e st k bytes enc) (w : World) (x : α) (base : Nat) (hb : base ≤ w.heap.size) : OwnF e k enc (w.alloc (.cells (enc x).toArray e)) base (.slice (some ⟨w.heap.size, 0, none⟩) 1 1) [x] := by
  refine ⟨by rw [flat_len F], .inr ⟨w.heap.size, 1, (enc x).toArray, rfl, hb, heap_alloc_new w _, Nat.le_refl _, by decide, by simp [F.len], ?_⟩⟩
  simp only [List.length_singleton, Nat.one_mul, List.flatMap_cons, List.flatMap_nil, List.append_nil]
  exact List.take_of_length_le (by rw [F.len]; exact Nat.le_refl _)
theorem In1.start {Wb : World} {fp bm : Nat} {a b : List OpD} {o : OpD} {n0 : Nat} {w : World} {sv : Value} {ps : List Pl} {sp : List SpD} {d : DV} (hf : FoR w Wb.heap.size fp bm sv ps sp) (hM : FoM ps sp (doneG (nodesG a) o)) (hl : ps.length ≤ n0 + 2) (hb : Below Wb.heap.size Wb w) (hd : DepK Wb o d) : In1 Wb fp bm a b o n0 (w.alloc (objE (entG (nodesG a) o) d.a d.n d.c)) 0 sv ps sp (.slice (some ⟨w.heap.size, 0, none⟩) 1 1) [(entG (nodesG a) o, d)] := by
  have hlt := hf.lt
  have hb1 := box_bel w (objE (entG (nodesG a) o) d.a d.n d.c)
  refine ⟨hf.next hb1, hM, by omega, hb.trans (hb1.mono hb.size), OwnF.one flatE w (entG (nodesG a) o, d) _ hb.size, rfl, fun y hy => ?_, ⟨fun e => by have e2 : w.heap.size = fp := (by injection e); omega, fun e => by have e2 : w.heap.size = bm := (by injection e); omega⟩, .inr fun e => ?_⟩
  · rw [List.mem_singleton] at hy
    rw [hy]
    show DepK Wb (entG _ o).op d
    rw [entG_op]
    exact hd
  · have h9 : w.heap.size < w.heap.size := (hf.own.lt e.symm).2
    omega
def InsJ (Wb : World) (g fp bm : Nat) (ma : Option Addr) (mn mc : Nat) (a b : List OpD) (o : OpD) (d : DV) (n0 : Nat) (l : Nat) (act : Act) (w : World) : Prop :=
  (l = 0 ∧ ∃ (j : Nat) (sv : Value) (ps : List Pl) (sp : List SpD) (u2 u3 u4 u6 u8 u9 u10 u11 u12 u13 u14 u15 u16 u17 u18 u19 u20 u21 u22 u23 u24 u25 u26 u27 u28 u29 u30 u31 u32 u33 u34 u35 u36 u37 u38 u39 u40 u41 : Value), act = { tmps := #[.pointer (some ⟨fp, 0, none⟩), .slice ma mn mc, u2, u3, u4, .pointer (some ⟨g, 0, none⟩), u6, .int .i64 (j : Int), u8, u9, u10, u11, u12, u13, u14, u15, u16, u17, u18, u19, u20, u21, u22, u23, u24, u25, u26, u27, u28, u29, u30, u31, u32, u33, u34, u35, u36, u37, u38, u39, u40, u41], defers := [] } ∧ j ≤ mn ∧ In0 Wb g fp bm a b o d n0 w j sv ps sp) ∨
  (l = 1 ∧ ∃ (j : Nat) (sv : Value) (ps : List Pl) (sp : List SpD) (v : Value) (zs : List EV) (u2 u3 u4 u6 u9 u10 u11 u12 u13 u14 u15 u16 u17 u18 u19 u20 u21 u22 u23 u24 u25 u26 u27 u28 u29 u30 u31 u32 u33 u34 u35 u36 u37 u38 u39 u40 u41 : Value), act = { tmps := #[.pointer (some ⟨fp, 0, none⟩), .slice ma mn mc, u2, u3, u4, .pointer (some ⟨g, 0, none⟩), u6, .int .i64 (j : Int), v, u9, u10, u11, u12, u13, u14, u15, u16, u17, u18, u19, u20, u21, u22, u23, u24, u25, u26, u27, u28, u29, u30, u31, u32, u33, u34, u35, u36, u37, u38, u39, u40, u41], defers := [] } ∧ j ≤ mn ∧ In1 Wb fp bm a b o n0 w j sv ps sp v zs)
def intV : Value → Nat
  | .int _ z => z.toNat
  | _ => 0
set_option maxHeartbeats 8000000 in
set_option maxRecDepth 100000 in
theorem insert_any (Wb W : World) (fp bm : Nat) (sv0 : Value) (ps0 : List Pl) (sp0 : List SpD) (ma : Option Addr) (yb : List EV) (mn mc : Nat) (a b : List OpD) (o : OpD) (d : DV) (hrb : RowM Wb ma yb) (hml : mn = yb.length) (hes : entsY yb = (madeG b (nodesG a)).2) (hbl : Below Wb.heap.size Wb W) (hfr : FoR W Wb.heap.size fp bm sv0 ps0 sp0) (hfm : FoM ps0 sp0 (nodesG (a ++ b))) (hln : ps0.length + 4 * mn + 4 ≤ 1000) (haa : AllM a) (hab : AllM b) (ho : moveB o = true) (hd : DepK Wb o d) :
    Calls Tryd.prog 29 #[.pointer (some ⟨fp, 0, none⟩), .slice ma mn mc, valOy o d] W (InsPost Wb fp bm a b o) := by
  have mixed : Tryd.prog.follows .mixedOrders = true := by kernel_rfl
  obtain ⟨oa, on, oc⟩ := d
  obtain ⟨g, hg⟩ : ∃ g, W.heap.size = g := ⟨_, rfl⟩
  obtain ⟨W2, hW2⟩ : ∃ W2, W.alloc (objO o oa on oc) = W2 := ⟨_, rfl⟩
  have HLB : Hid (b.length = mn) := by
    show _ = _
    have h1 := congrArg List.length hes
    rw [entsY_len, madeG_len] at h1
    omega
  have hmn : mn ≤ 300 := by omega
  have HI2 : Hid (In0 Wb g fp bm a b o ⟨oa, on, oc⟩ (ps0.length + 2 * mn) W2 mn sv0 ps0 sp0) := by
    have hb1 := box_bel W (objO o oa on oc)
    rw [hW2] at hb1
    have hbk := blkX_new W o oa on oc
    rw [hW2, hg] at hbk
    have hlt := hfr.lt
    refine ⟨hfr.next hb1, ?_, Nat.le_refl _, hbl.trans (hb1.mono hbl.size), hbk, ⟨by omega, by omega, by have := hbl.size; omega⟩, fun e => by have := (hfr.own.lt e).2; omega⟩
    rw [← HLB.out, partG_all]
    exact hfm
  have HRB := Lib.hid hrb
  have HML := Lib.hid hml
  have HES := Lib.hid hes
  have HAA := Lib.hid haa
  have HAB := Lib.hid hab
  have HO := Lib.hid ho
  have HDO := Lib.hid hd
  have HN0 := Lib.hid hln
  clear hrb hml hes hbl hfr hfm hln haa hab ho hd
  go_enter Tryd.func29, Tryd.ntmps29
  go_wp2
  clear hW2 hg
  refine wp_scope_two (InsJ Wb g fp bm ma mn mc a b o ⟨oa, on, oc⟩ (ps0.length + 2 * mn)) (fun l a' _ => if l = 0 then 1000 + intV (a'.tmps.getD 7 undef) else 500 - intV (a'.tmps.getD 7 undef)) ?_ ?_ ?_
  · rintro l a' w' (⟨rfl, -⟩ | ⟨rfl, -⟩) <;> rfl
  · obtain ⟨w1, hw1⟩ : ∃ w1, W2 = w1 := ⟨_, rfl⟩
    obtain ⟨sv, hsv⟩ : ∃ sv, sv0 = sv := ⟨_, rfl⟩
    obtain ⟨ps, hps⟩ : ∃ ps, ps0 = ps := ⟨_, rfl⟩
    obtain ⟨sp, hsp⟩ : ∃ sp, sp0 = sp := ⟨_, rfl⟩
    rw [hw1] at HI2 ⊢
    have HI : Hid (In0 Wb g fp bm a b o ⟨oa, on, oc⟩ (ps0.length + 2 * mn) w1 mn sv ps sp) := by rw [← hsv, ← hps, ← hsp]; exact HI2
    clear hw1 HI2 hsv hps hsp
    go_wp2_with fail
    go_step3
    rcases Nat.eq_zero_or_pos mn with h0 | hpos
    · have HI2 := HI
      clear HI
      have HI : Hid (In0 Wb g fp bm a b o ⟨oa, on, oc⟩ (ps0.length + 2 * mn) w1 0 sv ps sp) := by
        have h1 := HI2.out
        show In0 _ _ _ _ _ _ _ _ _ _ _ _ _ _
        rw [h0] at h1 ⊢
        exact h1
      clear HI2
      have hz0 : ¬ (0 : Int) < ((mn : Nat) : Int) := by omega
      have hz0d : decide ((0 : Int) < ((mn : Nat) : Int)) = false := decide_eq_false hz0
      have hlo : (loadVar 39 ⟨g, 0, none⟩).run Tryd.prog w1 = .ok (valO o oa on oc) w1 := loadVar_is aggO sizeO rfl HI.out.ob.cells
      obtain ⟨xo, hxo⟩ : ∃ xo, entG (nodesG a) o = xo := ⟨_, rfl⟩
      have HXO := Lib.hid hxo
      have C1 := Lib.hid (do_any w1 Wb.heap.size fp bm sv ps sp (nodesG a) o oa on oc HI.out.fr HI.out.fm (acyc_nodes a) (moveB_wf HO.out).1 (moveB_wf HO.out).2 (by have h1 := HI.out.ln; have h2 := HN0.out; omega) HI.out.bl.size)
      unfold DoPost at C1
      rw [hxo] at C1
      clear hxo
      go_wp2_with (first
        | (refine wpList_loadS rfl _ 39 rfl g 0 rfl _ hlo ?_)
        | (go_at_call 46
           (with_reducible refine (C1.out).mono ?_)
           rintro e0 w7 ⟨sv7, ps7, sp7, rfl, hf7, hM7, hk7, hl7⟩
           have HF7 := Lib.hid hf7
           have HM7 := Lib.hid hM7
           have HB7 := Lib.hid (HI.out.fr.bel hk7 HI.out.bl)
           have HL7 := Lib.hid hl7
           clear hf7 hM7 hk7 hl7))
      clear hlo
      obtain ⟨w8, hw8⟩ : ∃ w8, w7.alloc (objE xo oa on oc) = w8 := ⟨_, rfl⟩
      have H8 : Hid (In1 Wb fp bm a b o (ps0.length + 2 * mn) w8 0 sv7 ps7 sp7 (.slice (some ⟨w7.heap.size, 0, none⟩) 1 1) [((xo, ⟨oa, on, oc⟩) : EV)]) := by
        have h1 := In1.start (b := b) (n0 := (ps0.length + 2 * mn)) (o := o) (d := ⟨oa, on, oc⟩) HF7.out HM7.out (by have h1 := HI.out.ln; have h2 := HL7.out; omega) HB7.out HDO.out
        rw [HXO.out, hw8] at h1
        exact h1
      rw [hw8]
      clear hw8
      obtain ⟨v, hv⟩ : ∃ v, Value.slice (some ⟨w7.heap.size, 0, none⟩) 1 1 = v := ⟨_, rfl⟩
      obtain ⟨zs, hzs⟩ : ∃ zs, [((xo, ⟨oa, on, oc⟩) : EV)] = zs := ⟨_, rfl⟩
      rw [hv, hzs] at H8
      rw [hv]
      clear hv hzs HI HF7 HM7 HB7 HL7 C1
      obtain ⟨w1, hw1⟩ : ∃ w1, w8 = w1 := ⟨_, rfl⟩
      obtain ⟨sv, hsv⟩ : ∃ sv, sv7 = sv := ⟨_, rfl⟩
      obtain ⟨ps, hps⟩ : ∃ ps, ps7 = ps := ⟨_, rfl⟩
      obtain ⟨sp, hsp⟩ : ∃ sp, sp7 = sp := ⟨_, rfl⟩
      rw [hw1, hsv, hps, hsp] at H8
      rw [hw1]
      have HI := H8
      clear H8 hw1 hsv hps hsp
      go_step3
      have hjm : ¬ ((mn : Nat) : Int) < (mn : Int) := by omega
      have HE := Lib.hid (HI.out.finish (by have := HLB.out; omega))
      go_wp2_with fail
      (try simp only [jump2])
      go_ret
      exact HE.out

    · obtain ⟨j', hj'⟩ : ∃ j', mn = j' + 1 := ⟨mn - 1, by omega⟩
      have HI2 := HI
      clear HI
      have HI : Hid (In0 Wb g fp bm a b o ⟨oa, on, oc⟩ (ps0.length + 2 * mn) w1 (j' + 1) sv ps sp) := by
        have h1 := HI2.out
        rw [← hj']
        exact h1
      clear HI2
      have hjm : ((j' : Nat) : Int) < (mn : Int) := by omega
      have hkz : (((mn : Nat) : Int) - 1) = (j' : Int) := by omega
      have hkpz : (0 : Int) < ((mn : Nat) : Int) := by omega
      have hkd : decide ((0 : Int) < ((mn : Nat) : Int)) = true := decide_eq_true hkpz
      have hkw2 : wrap64 (j' : Int) = (j' : Int) := IntWalk.wrap64_in _ (by omega)
      clear hj'
      obtain ⟨y, hy⟩ : ∃ y, yb[j']? = some y := ⟨_, List.getElem?_eq_getElem (by have := HML.out; omega)⟩
      obtain ⟨⟨da, dn, dc⟩, hyd⟩ : ∃ d, y.2 = d := ⟨_, rfl⟩
      obtain ⟨x, hx⟩ : ∃ x, b[j']? = some x := ⟨_, List.getElem?_eq_getElem (by have := HLB.out; omega)⟩
      have hye : y.1 = entG (partG a b j') x := by
        have h1 := entsY_at hy
        rw [HES.out] at h1
        have h2 := ents_at (ns := nodesG a) hx
        rw [h2] at h1
        injection h1 with h1
        exact h1.symm
      have HX := Lib.hid hx
      have HRW : Hid (RowM w1 ma yb) := HRB.out.next HI.out.bl
      obtain ⟨bb, off, rfl, hlt2⟩ := HRW.out.addr hy
      have HC : Hid (CellsAt w1 bb (off + j' * 17) (cellsE (entG (partG a b j') x) da dn dc)) := by
        have h1 := HRW.out.cells hy
        unfold EV.enc at h1
        rw [hye, hyd] at h1
        exact h1
      have HDK : Hid (DepK Wb x ⟨da, dn, dc⟩) := by
        have h1 := HRB.out.dep y (List.mem_of_getElem? hy)
        rw [hye, hyd, entG_op] at h1
        exact h1
      have HMV : Hid (moveB x = true) := HAB.out x (List.mem_of_getElem? hx)
      clear hy hyd hye hx hlt2
      have hld := loadVar_is aggE sizeE rfl HC.out
      obtain ⟨xe, hxe⟩ : ∃ xe, entG (partG a b j') x = xe := ⟨_, rfl⟩
      have HXE := Lib.hid hxe
      have C := Lib.hid (undo_any w1 Wb.heap.size fp bm sv ps sp (partG a b (j' + 1)) (entG (partG a b j') x) da dn dc HI.out.fr HI.out.fm (by rw [entG_op]; exact (moveB_wf HMV.out).1) (fun h => entG_par (part_par HAA.out HAB.out j') h) (by have h1 := HI.out.ln; have h2 := HN0.out; omega) HI.out.bl.size)
      rw [hxe] at hld C
      have hld : (loadVar 54 ⟨bb, off + j' * 17, none⟩).run Tryd.prog w1 = .ok (valE xe da dn dc) w1 := hld
      clear hxe
      go_wp2_with (first | (refine wpList_loadS rfl _ 54 rfl bb (off + j' * 17) rfl _ hld ?_) | (go_at_call 54; (with_reducible refine (C.out).mono ?_); rintro e0 w7 ⟨sv7, ps7, sp7, rfl, hf7, hM7, hk7, hl7⟩; go_loud (have H7 := Lib.hid (HI.out.undo HX.out hf7 (by rw [HXE.out]; exact hM7) hk7 hl7)); clear hf7 hM7 hk7 hl7))
      clear hld hkw2 hkz
      go_step3
      show InsJ Wb g fp bm _ mn mc a b o ⟨oa, on, oc⟩ (ps0.length + 2 * mn) _ _ _
      unfold InsJ
      exact Or.inl ⟨rfl, j', sv7, ps7, sp7, _, _, _, _, _, _, _, _, _, _, _, _, _, _, _, _, _, _, _, _, _, _, _, _, _, _, _, _, _, _, _, _, _, _, _, _, _, _, rfl, by omega, H7.out⟩

  · rintro l a1 w1 (⟨rfl, j, sv, ps, sp, u2, u3, u4, u6, u8, u9, u10, u11, u12, u13, u14, u15, u16, u17, u18, u19, u20, u21, u22, u23, u24, u25, u26, u27, u28, u29, u30, u31, u32, u33, u34, u35, u36, u37, u38, u39, u40, u41, rfl, hj, hI⟩ | ⟨rfl, j, sv, ps, sp, v, zs, u2, u3, u4, u6, u9, u10, u11, u12, u13, u14, u15, u16, u17, u18, u19, u20, u21, u22, u23, u24, u25, u26, u27, u28, u29, u30, u31, u32, u33, u34, u35, u36, u37, u38, u39, u40, u41, rfl, hj, hI⟩)
    · have HI := Lib.hid hI
      clear hI HI2
      conv => arg 2; whnf
      rcases Nat.eq_zero_or_pos j with h0 | hpos
      · subst h0
        have hz0 : ¬ (0 : Int) < ((0 : Nat) : Int) := by omega
        have hz0d : decide ((0 : Int) < ((0 : Nat) : Int)) = false := decide_eq_false hz0
        have hlo : (loadVar 39 ⟨g, 0, none⟩).run Tryd.prog w1 = .ok (valO o oa on oc) w1 := loadVar_is aggO sizeO rfl HI.out.ob.cells
        obtain ⟨xo, hxo⟩ : ∃ xo, entG (nodesG a) o = xo := ⟨_, rfl⟩
        have HXO := Lib.hid hxo
        have C1 := Lib.hid (do_any w1 Wb.heap.size fp bm sv ps sp (nodesG a) o oa on oc HI.out.fr HI.out.fm (acyc_nodes a) (moveB_wf HO.out).1 (moveB_wf HO.out).2 (by have h1 := HI.out.ln; have h2 := HN0.out; omega) HI.out.bl.size)
        unfold DoPost at C1
        rw [hxo] at C1
        clear hxo
        go_wp2_with (first
          | (refine wpList_loadS rfl _ 39 rfl g 0 rfl _ hlo ?_)
          | (go_at_call 46
             (with_reducible refine (C1.out).mono ?_)
             rintro e0 w7 ⟨sv7, ps7, sp7, rfl, hf7, hM7, hk7, hl7⟩
             have HF7 := Lib.hid hf7
             have HM7 := Lib.hid hM7
             have HB7 := Lib.hid (HI.out.fr.bel hk7 HI.out.bl)
             have HL7 := Lib.hid hl7
             clear hf7 hM7 hk7 hl7))
        clear hlo
        obtain ⟨w8, hw8⟩ : ∃ w8, w7.alloc (objE xo oa on oc) = w8 := ⟨_, rfl⟩
        have H8 : Hid (In1 Wb fp bm a b o (ps0.length + 2 * mn) w8 0 sv7 ps7 sp7 (.slice (some ⟨w7.heap.size, 0, none⟩) 1 1) [((xo, ⟨oa, on, oc⟩) : EV)]) := by
          have h1 := In1.start (b := b) (n0 := (ps0.length + 2 * mn)) (o := o) (d := ⟨oa, on, oc⟩) HF7.out HM7.out (by have h1 := HI.out.ln; have h2 := HL7.out; omega) HB7.out HDO.out
          rw [HXO.out, hw8] at h1
          exact h1
        rw [hw8]
        clear hw8
        obtain ⟨v, hv⟩ : ∃ v, Value.slice (some ⟨w7.heap.size, 0, none⟩) 1 1 = v := ⟨_, rfl⟩
        obtain ⟨zs, hzs⟩ : ∃ zs, [((xo, ⟨oa, on, oc⟩) : EV)] = zs := ⟨_, rfl⟩
        rw [hv, hzs] at H8
        rw [hv]
        clear hv hzs HI HF7 HM7 HB7 HL7 C1
        obtain ⟨w1, hw1⟩ : ∃ w1, w8 = w1 := ⟨_, rfl⟩
        obtain ⟨sv, hsv⟩ : ∃ sv, sv7 = sv := ⟨_, rfl⟩
        obtain ⟨ps, hps⟩ : ∃ ps, ps7 = ps := ⟨_, rfl⟩
        obtain ⟨sp, hsp⟩ : ∃ sp, sp7 = sp := ⟨_, rfl⟩
        rw [hw1, hsv, hps, hsp] at H8
        rw [hw1]
        have HI := H8
        clear H8 hw1 hsv hps hsp
        go_step3
        rcases Nat.eq_zero_or_pos mn with h0 | hpos
        · have hjm : ¬ ((0 : Nat) : Int) < (mn : Int) := by omega
          have HE := Lib.hid (HI.out.finish (by have := HLB.out; omega))
          go_wp2_with fail
          (try simp only [jump2])
          go_ret
          exact HE.out
        · have hjm : ((0 : Nat) : Int) < (mn : Int) := by omega
          obtain ⟨y, hy⟩ : ∃ y, yb[0]? = some y := ⟨_, List.getElem?_eq_getElem (by have := HML.out; omega)⟩
          obtain ⟨⟨da, dn, dc⟩, hyd⟩ : ∃ d, y.2 = d := ⟨_, rfl⟩
          obtain ⟨x, hx⟩ : ∃ x, b[0]? = some x := ⟨_, List.getElem?_eq_getElem (by have := HLB.out; omega)⟩
          have hye : y.1 = entG (partG a b 0) x := by
            have h1 := entsY_at hy
            rw [HES.out] at h1
            have h2 := ents_at (ns := nodesG a) hx
            rw [h2] at h1
            injection h1 with h1
            exact h1.symm
          have HX := Lib.hid hx
          have HRW : Hid (RowM w1 ma yb) := HRB.out.next HI.out.bl
          obtain ⟨bb, off, rfl, hlt2⟩ := HRW.out.addr hy
          have HC : Hid (CellsAt w1 bb (off + 0 * 17) (cellsE (entG (partG a b 0) x) da dn dc)) := by
            have h1 := HRW.out.cells hy
            unfold EV.enc at h1
            rw [hye, hyd] at h1
            exact h1
          have HDK : Hid (DepK Wb x ⟨da, dn, dc⟩) := by
            have h1 := HRB.out.dep y (List.mem_of_getElem? hy)
            rw [hye, hyd, entG_op] at h1
            exact h1
          have HMV : Hid (moveB x = true) := HAB.out x (List.mem_of_getElem? hx)
          clear hy hyd hye hx hlt2
          have hlo : (loadVar 39 ⟨bb, off + 0 * 17, none⟩).run Tryd.prog w1 = .ok (valO x da dn dc) w1 := by
            have h1 := HC.out.op
            rw [entG_op] at h1
            exact loadVar_is aggO sizeO rfl h1
          obtain ⟨nk, hnk⟩ : ∃ nk, (againG a b o 0).1 = nk := ⟨_, rfl⟩
          have HNK := Lib.hid hnk
          obtain ⟨xo, hxo⟩ : ∃ xo, entG nk x = xo := ⟨_, rfl⟩
          have HXO := Lib.hid hxo
          have C2 := Lib.hid (do_any w1 Wb.heap.size fp bm sv ps sp nk x da dn dc HI.out.fr (by rw [← hnk]; exact HI.out.fm) (by rw [← hnk]; exact again_acyc a b o _) (moveB_wf HMV.out).1 (moveB_wf HMV.out).2 (by have h1 := HI.out.ln; have h2 := HN0.out; omega) HI.out.bl.size)
          unfold DoPost at C2
          rw [hxo] at C2
          have HLEN : Hid ((zs.length + [((xo, ⟨da, dn, dc⟩) : EV)].length) * 168 ≤ 140737488355328) := by
            have h1 := HI.out.len
            rw [List.length_take] at h1
            show _ ≤ _
            rw [List.length_singleton]
            omega
          have HONE : Hid (∀ w : World, RowF 17 EV.enc (w.alloc (objE xo da dn dc)) (some ⟨w.heap.size, 0, none⟩) [((xo, ⟨da, dn, dc⟩) : EV)]) := fun w => one_rowF w ((xo, ⟨da, dn, dc⟩) : EV) _ rfl
          clear hnk hxo
          go_wp2_with (first
            | (refine wpList_loadS rfl _ 39 rfl bb (off + 0 * 17) rfl _ hlo ?_)
            | (go_at_call 46
               (with_reducible refine (C2.out).mono ?_)
               rintro e0 w7 ⟨sv7, ps7, sp7, rfl, hf7, hM7, hk7, hl7⟩
               have HF7 := Lib.hid hf7
               have HM7 := Lib.hid hM7
               have HK7 := Lib.hid hk7
               have HL7 := Lib.hid hl7
               have HW7 := Lib.hid (HI.out.ow.keptF hk7 HI.out.v1 HI.out.v2)
               have HB7 := Lib.hid (HI.out.fr.bel hk7 HI.out.bl)
               clear hf7 hM7 hk7 hl7)
            | (at_builtin
               refine wpF_row flatE rfl _ _ rfl Wb.heap.size w7 _ (World.grownBy_alloc w7 _ none) v zs [((xo, ⟨da, dn, dc⟩) : EV)] (some ⟨w7.heap.size, 0, none⟩) 1 1 rfl HW7.out.1 rfl rfl (HONE.out w7) HLEN.out HB7.out.size ?_
               intro v9 w9 hp9
               have H9 : Hid (In1 Wb fp bm a b o (ps0.length + 2 * mn) w9 (0 + 1) sv7 ps7 sp7 v9 (zs ++ [((xo, ⟨da, dn, dc⟩) : EV)])) := by
                 have h1 := HI.out.push (d := ⟨da, dn, dc⟩) HX.out HF7.out (by rw [HNK.out]; exact HM7.out) HK7.out HL7.out HDK.out (by rw [HNK.out, HXO.out]; exact hp9)
                 rw [HNK.out, HXO.out] at h1
                 exact h1
               clear hp9))
          clear hlo
          go_step3
          show InsJ Wb g fp bm _ mn mc a b o ⟨oa, on, oc⟩ (ps0.length + 2 * mn) _ _ _ ∧ _
          unfold InsJ
          refine ⟨Or.inr ⟨rfl, 0 + 1, sv7, ps7, sp7, v9, _, _, _, _, _, _, _, _, _, _, _, _, _, _, _, _, _, _, _, _, _, _, _, _, _, _, _, _, _, _, _, _, _, _, _, _, _, _, rfl, by omega, H9.out⟩, ?_⟩
          show 500 - 1 < 1000 + 0
          omega


      · obtain ⟨j', rfl⟩ : ∃ j', j = j' + 1 := ⟨j - 1, by omega⟩
        have hjm : ((j' : Nat) : Int) < (mn : Int) := by omega
        have hkz : (((j' + 1 : Nat) : Int) - 1) = (j' : Int) := by omega
        have hkpz : (0 : Int) < ((j' + 1 : Nat) : Int) := by omega
        have hkd : decide ((0 : Int) < ((j' + 1 : Nat) : Int)) = true := decide_eq_true hkpz
        have hkw2 : wrap64 (j' : Int) = (j' : Int) := IntWalk.wrap64_in _ (by omega)
        obtain ⟨y, hy⟩ : ∃ y, yb[j']? = some y := ⟨_, List.getElem?_eq_getElem (by have := HML.out; omega)⟩
        obtain ⟨⟨da, dn, dc⟩, hyd⟩ : ∃ d, y.2 = d := ⟨_, rfl⟩
        obtain ⟨x, hx⟩ : ∃ x, b[j']? = some x := ⟨_, List.getElem?_eq_getElem (by have := HLB.out; omega)⟩
        have hye : y.1 = entG (partG a b j') x := by
          have h1 := entsY_at hy
          rw [HES.out] at h1
          have h2 := ents_at (ns := nodesG a) hx
          rw [h2] at h1
          injection h1 with h1
          exact h1.symm
        have HX := Lib.hid hx
        have HRW : Hid (RowM w1 ma yb) := HRB.out.next HI.out.bl
        obtain ⟨bb, off, rfl, hlt2⟩ := HRW.out.addr hy
        have HC : Hid (CellsAt w1 bb (off + j' * 17) (cellsE (entG (partG a b j') x) da dn dc)) := by
          have h1 := HRW.out.cells hy
          unfold EV.enc at h1
          rw [hye, hyd] at h1
          exact h1
        have HDK : Hid (DepK Wb x ⟨da, dn, dc⟩) := by
          have h1 := HRB.out.dep y (List.mem_of_getElem? hy)
          rw [hye, hyd, entG_op] at h1
          exact h1
        have HMV : Hid (moveB x = true) := HAB.out x (List.mem_of_getElem? hx)
        clear hy hyd hye hx hlt2
        have hld := loadVar_is aggE sizeE rfl HC.out
        obtain ⟨xe, hxe⟩ : ∃ xe, entG (partG a b j') x = xe := ⟨_, rfl⟩
        have HXE := Lib.hid hxe
        have C := Lib.hid (undo_any w1 Wb.heap.size fp bm sv ps sp (partG a b (j' + 1)) (entG (partG a b j') x) da dn dc HI.out.fr HI.out.fm (by rw [entG_op]; exact (moveB_wf HMV.out).1) (fun h => entG_par (part_par HAA.out HAB.out j') h) (by have h1 := HI.out.ln; have h2 := HN0.out; omega) HI.out.bl.size)
        rw [hxe] at hld C
        have hld : (loadVar 54 ⟨bb, off + j' * 17, none⟩).run Tryd.prog w1 = .ok (valE xe da dn dc) w1 := hld
        clear hxe
        go_wp2_with (first | (refine wpList_loadS rfl _ 54 rfl bb (off + j' * 17) rfl _ hld ?_) | (go_at_call 54; (with_reducible refine (C.out).mono ?_); rintro e0 w7 ⟨sv7, ps7, sp7, rfl, hf7, hM7, hk7, hl7⟩; go_loud (have H7 := Lib.hid (HI.out.undo HX.out hf7 (by rw [HXE.out]; exact hM7) hk7 hl7)); clear hf7 hM7 hk7 hl7))
        clear hld hkw2 hkz
        go_step3
        show InsJ Wb g fp bm _ mn mc a b o ⟨oa, on, oc⟩ (ps0.length + 2 * mn) _ _ _ ∧ _
        unfold InsJ
        refine ⟨Or.inl ⟨rfl, j', sv7, ps7, sp7, _, _, _, _, _, _, _, _, _, _, _, _, _, _, _, _, _, _, _, _, _, _, _, _, _, _, _, _, _, _, _, _, _, _, _, _, _, _, rfl, by omega, H7.out⟩, ?_⟩
        show 1000 + j' < 1000 + (j' + 1)
        omega

    · have HI := Lib.hid hI
      clear hI HI2
      conv => arg 2; whnf
      rcases Nat.lt_or_ge j mn with hlt | hge
      · have hjm : ((j : Nat) : Int) < (mn : Int) := by omega
        obtain ⟨y, hy⟩ : ∃ y, yb[j]? = some y := ⟨_, List.getElem?_eq_getElem (by have := HML.out; omega)⟩
        obtain ⟨⟨da, dn, dc⟩, hyd⟩ : ∃ d, y.2 = d := ⟨_, rfl⟩
        obtain ⟨x, hx⟩ : ∃ x, b[j]? = some x := ⟨_, List.getElem?_eq_getElem (by have := HLB.out; omega)⟩
        have hye : y.1 = entG (partG a b j) x := by
          have h1 := entsY_at hy
          rw [HES.out] at h1
          have h2 := ents_at (ns := nodesG a) hx
          rw [h2] at h1
          injection h1 with h1
          exact h1.symm
        have HX := Lib.hid hx
        have HRW : Hid (RowM w1 ma yb) := HRB.out.next HI.out.bl
        obtain ⟨bb, off, rfl, hlt2⟩ := HRW.out.addr hy
        have HC : Hid (CellsAt w1 bb (off + j * 17) (cellsE (entG (partG a b j) x) da dn dc)) := by
          have h1 := HRW.out.cells hy
          unfold EV.enc at h1
          rw [hye, hyd] at h1
          exact h1
        have HDK : Hid (DepK Wb x ⟨da, dn, dc⟩) := by
          have h1 := HRB.out.dep y (List.mem_of_getElem? hy)
          rw [hye, hyd, entG_op] at h1
          exact h1
        have HMV : Hid (moveB x = true) := HAB.out x (List.mem_of_getElem? hx)
        clear hy hyd hye hx hlt2
        have hlo : (loadVar 39 ⟨bb, off + j * 17, none⟩).run Tryd.prog w1 = .ok (valO x da dn dc) w1 := by
          have h1 := HC.out.op
          rw [entG_op] at h1
          exact loadVar_is aggO sizeO rfl h1
        obtain ⟨nk, hnk⟩ : ∃ nk, (againG a b o j).1 = nk := ⟨_, rfl⟩
        have HNK := Lib.hid hnk
        obtain ⟨xo, hxo⟩ : ∃ xo, entG nk x = xo := ⟨_, rfl⟩
        have HXO := Lib.hid hxo
        have C2 := Lib.hid (do_any w1 Wb.heap.size fp bm sv ps sp nk x da dn dc HI.out.fr (by rw [← hnk]; exact HI.out.fm) (by rw [← hnk]; exact again_acyc a b o _) (moveB_wf HMV.out).1 (moveB_wf HMV.out).2 (by have h1 := HI.out.ln; have h2 := HN0.out; omega) HI.out.bl.size)
        unfold DoPost at C2
        rw [hxo] at C2
        have HLEN : Hid ((zs.length + [((xo, ⟨da, dn, dc⟩) : EV)].length) * 168 ≤ 140737488355328) := by
          have h1 := HI.out.len
          rw [List.length_take] at h1
          show _ ≤ _
          rw [List.length_singleton]
          omega
        have HONE : Hid (∀ w : World, RowF 17 EV.enc (w.alloc (objE xo da dn dc)) (some ⟨w.heap.size, 0, none⟩) [((xo, ⟨da, dn, dc⟩) : EV)]) := fun w => one_rowF w ((xo, ⟨da, dn, dc⟩) : EV) _ rfl
        clear hnk hxo
        go_wp2_with (first
          | (refine wpList_loadS rfl _ 39 rfl bb (off + j * 17) rfl _ hlo ?_)
          | (go_at_call 46
             (with_reducible refine (C2.out).mono ?_)
             rintro e0 w7 ⟨sv7, ps7, sp7, rfl, hf7, hM7, hk7, hl7⟩
             have HF7 := Lib.hid hf7
             have HM7 := Lib.hid hM7
             have HK7 := Lib.hid hk7
             have HL7 := Lib.hid hl7
             have HW7 := Lib.hid (HI.out.ow.keptF hk7 HI.out.v1 HI.out.v2)
             have HB7 := Lib.hid (HI.out.fr.bel hk7 HI.out.bl)
             clear hf7 hM7 hk7 hl7)
          | (at_builtin
             refine wpF_row flatE rfl _ _ rfl Wb.heap.size w7 _ (World.grownBy_alloc w7 _ none) v zs [((xo, ⟨da, dn, dc⟩) : EV)] (some ⟨w7.heap.size, 0, none⟩) 1 1 rfl HW7.out.1 rfl rfl (HONE.out w7) HLEN.out HB7.out.size ?_
             intro v9 w9 hp9
             have H9 : Hid (In1 Wb fp bm a b o (ps0.length + 2 * mn) w9 (j + 1) sv7 ps7 sp7 v9 (zs ++ [((xo, ⟨da, dn, dc⟩) : EV)])) := by
               have h1 := HI.out.push (d := ⟨da, dn, dc⟩) HX.out HF7.out (by rw [HNK.out]; exact HM7.out) HK7.out HL7.out HDK.out (by rw [HNK.out, HXO.out]; exact hp9)
               rw [HNK.out, HXO.out] at h1
               exact h1
             clear hp9))
        clear hlo
        go_step3
        show InsJ Wb g fp bm _ mn mc a b o ⟨oa, on, oc⟩ (ps0.length + 2 * mn) _ _ _ ∧ _
        unfold InsJ
        refine ⟨Or.inr ⟨rfl, j + 1, sv7, ps7, sp7, v9, _, _, _, _, _, _, _, _, _, _, _, _, _, _, _, _, _, _, _, _, _, _, _, _, _, _, _, _, _, _, _, _, _, _, _, _, _, _, rfl, by omega, H9.out⟩, ?_⟩
        show 500 - (j + 1) < 500 - j
        omega

      · obtain rfl : j = mn := by omega
        have hjm : ¬ ((j : Nat) : Int) < (j : Int) := by omega
        have HE := Lib.hid (HI.out.finish (by have := HLB.out; omega))
        go_wp2_with fail
        (try simp only [jump2])
        go_ret
        exact HE.out

end Go.Proofs.YtjlbpmmckgjajaaDoor
