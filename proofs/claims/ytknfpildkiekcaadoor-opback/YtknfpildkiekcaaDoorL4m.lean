/- The walk of OpBack. -/
import Derived.Test.YtknfpildkiekcaaDoorO18
namespace Go.Proofs.YtknfpildkiekcaaDoor
open Go.RowKit Go.Lib
set_option linter.unusedVariables false

theorem run_rowG {kd : IntKind} {e t ty : TypeId} {bytes : Nat} (hk : ∀ z, (Value.int kd z).oneCell' = true) (ht : Tryd.prog.underlying t = some (.slice e)) (hinfo : (Tryd.prog.info? e).map (fun i => (i.zero, i.size, i.bytes)) = some (some (.int kd 0), 1, bytes))
    (base : Nat) (W1 : World) (v : Value) (zs ys : List Int) (a : Option Addr) (n c : Nat) (hn : n = ys.length) (hown1 : OwnK kd e W1 base v zs) (hx : RowK kd W1 a ys) (hlen : (zs.length + ys.length) * bytes ≤ 140737488355328) (hlen2 : zs.length + ys.length ≤ 140737488355328) (hbase : base ≤ W1.heap.size) :
    ∃ v' w', (Builtin.append_ #[t, t] ty #[v, .slice a n c]).run Tryd.prog W1 = .ok v' w' ∧ OwnK kd e w' base v' (zs ++ ys) ∧ W1.grownBy w' v.ownBlock := by
  subst hn
  obtain ⟨i0, hi, hz0, hz1, hz2⟩ := info_parts hinfo
  by_cases h0 : 0 < ys.length
  · obtain ⟨b, off, rfl, _⟩ := hx 0 h0
    obtain ⟨v', w', hr, h2, h3, h4, h5⟩ := run_append_own_at (P := Tryd.prog) W1 base t ty e i0 (.int kd 0) 1 bytes ht hi hz0 hz1 hz2 rfl (by decide) v zs.length (zs.map (Value.int kd)) hown1 ⟨b, off, none⟩ ys.length c (ys.map (Value.int kd)) (by simp)
      (by
        intro j u hu
        have hj : j < ys.length := by
          rcases Nat.lt_or_ge j ys.length with h | h
          · exact h
          · rw [List.getElem?_eq_none (by simpa using h)] at hu; cases hu
        obtain ⟨b', off', ee, hc⟩ := hx j hj
        simp only [Option.some.injEq, Addr.mk.injEq] at ee
        obtain ⟨rfl, rfl, _⟩ := ee
        rw [addr_add, hc, ← hu, List.getElem?_map, List.getD_eq_getElem?_getD, List.getElem?_eq_getElem hj]; rfl)
      (by intro u hu; simp only [List.mem_map] at hu; obtain ⟨z, _, rfl⟩ := hu; exact hk z) (by unfold maxLen; omega) hlen (by omega)
    refine ⟨v', w', hr, ?_, h3⟩
    unfold OwnK
    rw [List.length_append, List.map_append]
    exact h2
  · have hy : ys = [] := List.eq_nil_of_length_eq_zero (by omega)
    subst hy
    have hf : ∀ (x : Option Addr), (Builtin.firstCells 1 0 (.slice x 0 c)).run Tryd.prog W1 = .ok #[] W1 := by
      intro x; cases x <;> simp [Builtin.firstCells, loadCells, loadCellsFrom]
    rcases hown1.2 with ⟨rfl, hz⟩ | ⟨g, cap, cur, rfl, hg, hh, hnc, hm, hs, htk⟩
    · refine ⟨.slice none 0 0, W1, ?_, by rw [List.append_nil]; exact hown1, World.grownBy.refl _ _⟩
      simp [Builtin.append_, run_underlying ht, Go.sizeOf, typeInfo, hi, hz1, Builtin.lenOf, hf]
    · refine ⟨.slice (some ⟨g, 0, none⟩) zs.length cap, W1, ?_, by rw [List.append_nil]; exact hown1, World.grownBy.refl _ _⟩
      simp [Builtin.append_, run_underlying ht, Go.sizeOf, typeInfo, hi, hz1, Builtin.lenOf, hf, hnc, storeCells]
set_option maxHeartbeats 400000 in
theorem stepB_rowG {ops : Array Oper} {o : Oper} {a : Act} {K : Act → World → Prop} {Q : Exit → Act → World → Prop} {E : Prop} (hgd : o.guard = none) (s x : Operand)
    (ho : o.op = .call { callee := .builtin .append, args := #[s, x], argTypes := #[29, 29] }) (base : Nat) (W : World) (v : Value) (zs ys : List Int) (ax : Option Addr) (n c : Nat) (hn : n = ys.length) (hs : a.eval s = v) (hown : OwnK .u8 5 W base v zs)
    (hx : a.eval x = .slice ax n c) (hrow : RowK .u8 W ax ys) (hlen : zs.length + ys.length ≤ 140737488355328) (hbase : base ≤ W.heap.size)
    (h : ∀ v' w', OwnK .u8 5 w' base v' (zs ++ ys) → W.grownBy w' v.ownBlock → K (a.put o.dst v') w') : if Region.wanted o (yielded ops a.tmps) = true then Oper.wp Tryd.prog o a W K Q else E := by
  have hw : Region.wanted o (yielded ops a.tmps) = true := by simp [Region.wanted, hgd]
  rw [if_pos hw]
  obtain ⟨v', w', hr, h1, h2⟩ := run_rowG (t := 29) (ty := o.type) (bytes := 1) (fun _ => rfl) Tryd.underlying29 Tryd.info5 base W v zs ys ax n c hn hown hrow (by omega) hlen hbase
  unfold Oper.wp execOp
  simp only [ho, resolve, invoke, builtin, Sem.run_bind, Sem.run_pure, Result.andThen_ok, List.map_toArray, List.map_cons, List.map_nil, hs, hx, hr]
  exact h v' w' h1 h2

/-- what is held through the drawn region: the ask's row, and all that lay there -/
def Held (WX : World) (A : Addr) (u : Value) (W : World) : Prop := W.cell? A = some u ∧ Hid (Below WX.heap.size WX W)
theorem Held.next {WX W W' : World} {A : Addr} {u : Value} (h : W.cell? A = some u ∧ Hid (Below WX.heap.size WX W)) (hb : Below W.heap.size W W') : W'.cell? A = some u ∧ Hid (Below WX.heap.size WX W') :=
  ⟨(hb.cell (p := A) (World.block_lt_of_cell? _ _ h.1)).trans h.1, Lib.hid (h.2.out.trans (hb.mono h.2.out.size))⟩
theorem Held.box {WX W : World} {A : Addr} {u : Value} (h : W.cell? A = some u ∧ Hid (Below WX.heap.size WX W)) (o : Obj) : (W.alloc o).cell? A = some u ∧ Hid (Below WX.heap.size WX (W.alloc o)) := Held.next h (box_bel W o)
theorem Held.grown {WX W W' : World} {A : Addr} {u : Value} {row : Option Nat} (h : W.cell? A = some u ∧ Hid (Below WX.heap.size WX W)) (hg : W.grownBy W' row) (hA : A.block < WX.heap.size) (hr : ∀ g, row = some g → WX.heap.size ≤ g) : W'.cell? A = some u ∧ Hid (Below WX.heap.size WX W') :=
  ⟨hg.cell h.1 (fun e => by have := hr _ e.symm; omega), Lib.hid (h.2.out.grown hg h.2.out.size hr)⟩
theorem bel12 {WX W : World} {g : Nat} (h : Below WX.heap.size WX W) (hg : WX.heap.size ≤ g) (u0 u1 u2 u3 u4 u5 u6 u7 u8 u9 u10 u11 : Value) : Below WX.heap.size WX ((((((((((((W.setCell ⟨g, 0, none⟩ u0).setCell ⟨g, 1, none⟩ u1).setCell ⟨g, 2, none⟩ u2).setCell ⟨g, 3, none⟩ u3).setCell ⟨g, 4, none⟩ u4).setCell ⟨g, 5, none⟩ u5).setCell ⟨g, 6, none⟩ u6).setCell ⟨g, 7, none⟩ u7).setCell ⟨g, 8, none⟩ u8).setCell ⟨g, 9, none⟩ u9).setCell ⟨g, 10, none⟩ u10).setCell ⟨g, 11, none⟩ u11) := ((((((((((((h.setCell (p := ⟨g, 0, none⟩) hg u0).setCell (p := ⟨g, 1, none⟩) hg u1).setCell (p := ⟨g, 2, none⟩) hg u2).setCell (p := ⟨g, 3, none⟩) hg u3).setCell (p := ⟨g, 4, none⟩) hg u4).setCell (p := ⟨g, 5, none⟩) hg u5).setCell (p := ⟨g, 6, none⟩) hg u6).setCell (p := ⟨g, 7, none⟩) hg u7).setCell (p := ⟨g, 8, none⟩) hg u8).setCell (p := ⟨g, 9, none⟩) hg u9).setCell (p := ⟨g, 10, none⟩) hg u10).setCell (p := ⟨g, 11, none⟩) hg u11)
theorem Held.set12 {WX W : World} {b o g : Nat} {u : Value} (hb : b < WX.heap.size) (hg : WX.heap.size ≤ g) (h : W.cell? ⟨b, o, none⟩ = some u ∧ Hid (Below WX.heap.size WX W)) (u0 u1 u2 u3 u4 u5 u6 u7 u8 u9 u10 u11 : Value) : ((((((((((((W.setCell ⟨g, 0, none⟩ u0).setCell ⟨g, 1, none⟩ u1).setCell ⟨g, 2, none⟩ u2).setCell ⟨g, 3, none⟩ u3).setCell ⟨g, 4, none⟩ u4).setCell ⟨g, 5, none⟩ u5).setCell ⟨g, 6, none⟩ u6).setCell ⟨g, 7, none⟩ u7).setCell ⟨g, 8, none⟩ u8).setCell ⟨g, 9, none⟩ u9).setCell ⟨g, 10, none⟩ u10).setCell ⟨g, 11, none⟩ u11).cell? ⟨b, o, none⟩ = some u ∧ Hid (Below WX.heap.size WX ((((((((((((W.setCell ⟨g, 0, none⟩ u0).setCell ⟨g, 1, none⟩ u1).setCell ⟨g, 2, none⟩ u2).setCell ⟨g, 3, none⟩ u3).setCell ⟨g, 4, none⟩ u4).setCell ⟨g, 5, none⟩ u5).setCell ⟨g, 6, none⟩ u6).setCell ⟨g, 7, none⟩ u7).setCell ⟨g, 8, none⟩ u8).setCell ⟨g, 9, none⟩ u9).setCell ⟨g, 10, none⟩ u10).setCell ⟨g, 11, none⟩ u11)) :=
  ⟨far12 (by omega) h.1 _ _ _ _ _ _ _ _ _ _ _ _, Lib.hid (bel12 h.2.out hg _ _ _ _ _ _ _ _ _ _ _ _)⟩
theorem blkz_drew {V w8 : World} (hb : Below (V.alloc (.cells #[.int .i64 0, .int .i64 0, .int .i64 0, .slice none 0 0, .int .i64 0, .int .i64 0, .int .i64 0, .int .i64 0, .int .i64 0, .string ⟨#[]⟩, .int .i64 0, .int .i64 0] 28)).drew.heap.size (V.alloc (.cells #[.int .i64 0, .int .i64 0, .int .i64 0, .slice none 0 0, .int .i64 0, .int .i64 0, .int .i64 0, .int .i64 0, .int .i64 0, .string ⟨#[]⟩, .int .i64 0, .int .i64 0] 28)).drew w8) : Blk w8 V.heap.size (zR.cells 0 (.slice none 0 0)) := (blk_new V).drew.next hb
theorem blkz_after {V w8 : World} (hb : Below (V.alloc (.cells #[.int .i64 0, .int .i64 0, .int .i64 0, .slice none 0 0, .int .i64 0, .int .i64 0, .int .i64 0, .int .i64 0, .int .i64 0, .string ⟨#[]⟩, .int .i64 0, .int .i64 0] 28)).heap.size (V.alloc (.cells #[.int .i64 0, .int .i64 0, .int .i64 0, .slice none 0 0, .int .i64 0, .int .i64 0, .int .i64 0, .int .i64 0, .int .i64 0, .string ⟨#[]⟩, .int .i64 0, .int .i64 0] 28)) w8) : Blk w8 V.heap.size (zR.cells 0 (.slice none 0 0)) := (blk_new V).next hb

structure QZ (WX W : World) (g : Nat) : Prop where
  blk : Blk W g (zR.cells 0 (.slice none 0 0))
  ge : WX.heap.size ≤ g
theorem QZ.next {WX W W' : World} {g : Nat} (h : QZ WX W g) (hb : Below W.heap.size W W') : QZ WX W' g := ⟨h.blk.next hb, h.ge⟩
theorem QZ.grown {WX W W' : World} {g : Nat} {v : Value} (h : QZ WX W g ∧ v.ownBlock ≠ some g) (hg : W.grownBy W' v.ownBlock) : QZ WX W' g := ⟨h.1.blk.grown hg (Ne.symm h.2), h.1.ge⟩
theorem qa_mk {WX w8 : World} {v8 : Value} {bs : List Int} (hb : Below (WX.alloc (.cells #[.int .i64 0, .int .i64 0, .int .i64 0, .slice none 0 0, .int .i64 0, .int .i64 0, .int .i64 0, .int .i64 0, .int .i64 0, .string ⟨#[]⟩, .int .i64 0, .int .i64 0] 28)).drew.heap.size (WX.alloc (.cells #[.int .i64 0, .int .i64 0, .int .i64 0, .slice none 0 0, .int .i64 0, .int .i64 0, .int .i64 0, .int .i64 0, .int .i64 0, .string ⟨#[]⟩, .int .i64 0, .int .i64 0] 28)).drew w8) (ho : OwnK .u8 5 w8 (WX.alloc (.cells #[.int .i64 0, .int .i64 0, .int .i64 0, .slice none 0 0, .int .i64 0, .int .i64 0, .int .i64 0, .int .i64 0, .int .i64 0, .string ⟨#[]⟩, .int .i64 0, .int .i64 0] 28)).drew.heap.size v8 bs) : QZ WX w8 WX.heap.size ∧ v8.ownBlock ≠ some WX.heap.size :=
  ⟨⟨blkz_drew hb, Nat.le_refl _⟩, fun e => by have h1 := (ho.lt e).1; have h2 : (WX.alloc (.cells #[.int .i64 0, .int .i64 0, .int .i64 0, .slice none 0 0, .int .i64 0, .int .i64 0, .int .i64 0, .int .i64 0, .int .i64 0, .string ⟨#[]⟩, .int .i64 0, .int .i64 0] 28)).drew.heap.size = WX.heap.size + 1 := World.size_alloc _ _; omega⟩
theorem qb_mk {WX w8 w9 : World} {v8 : Value} {bs : List Int} (hs : WX.heap.size ≤ w8.heap.size) (ho : OwnK .u8 5 w8 WX.heap.size v8 bs) (hg : (w8.alloc (.cells #[.int .i64 0, .int .i64 0, .int .i64 0, .slice none 0 0, .int .i64 0, .int .i64 0, .int .i64 0, .int .i64 0, .int .i64 0, .string ⟨#[]⟩, .int .i64 0, .int .i64 0] 28)).grownBy w9 v8.ownBlock) : QZ WX w9 w8.heap.size :=
  ⟨(blk_new w8).grown hg (fun e => by have h1 := (ho.lt e.symm).2; omega), hs⟩
theorem qc_mk {WX w9 w10 : World} (hs : WX.heap.size ≤ w9.heap.size) (hb : Below (w9.alloc (.cells #[.int .i64 0, .int .i64 0, .int .i64 0, .slice none 0 0, .int .i64 0, .int .i64 0, .int .i64 0, .int .i64 0, .int .i64 0, .string ⟨#[]⟩, .int .i64 0, .int .i64 0] 28)).heap.size (w9.alloc (.cells #[.int .i64 0, .int .i64 0, .int .i64 0, .slice none 0 0, .int .i64 0, .int .i64 0, .int .i64 0, .int .i64 0, .int .i64 0, .string ⟨#[]⟩, .int .i64 0, .int .i64 0] 28)) w10) : QZ WX w10 w9.heap.size := ⟨blkz_after hb, hs⟩
theorem held_own {WX W w8 : World} {A : Addr} {u : Value} (hS : W.cell? A = some u ∧ Hid (Below WX.heap.size WX W)) {kd : IntKind} {e : TypeId} {v : Value} {zs : List Int} (ho : OwnK kd e w8 W.heap.size v zs) : OwnK kd e w8 WX.heap.size v zs := ho.mono hS.2.out.size

set_option maxHeartbeats 16000000 in
set_option maxRecDepth 100000 in
theorem opBack_walk (a : Option Addr) (n cap : Nat) (w : World) (ht : Pr.Tab w) (h : AsksIs w a n) :
    Calls Tryd.prog 5 #[.slice a n cap] w (BoolPost w true) := by
  have mixed : Tryd.prog.follows .mixedOrders = true := by kernel_rfl
  have HA := Lib.hid h
  have HT0 := Lib.hid ht
  clear h ht
  go_enter Tryd.func5, Tryd.ntmps5
  go_wp2
  go_loopg [3] 12 (fun g1 v wr => ∃ i : Nat, v = .int .i64 i ∧ i ≤ 12 ∧ 12 - i ≤ g1 ∧ Hid (Below w.heap.size w wr))
  case atStart => exact ⟨0, rfl, by omega, by omega, Below.refl _ _⟩
  case round =>
    obtain ⟨i, rfl, hi12, hg1, HB⟩ := hrel
    have HT := Lib.hid (HT0.out.below HB.out HT0.out.lt)
    by_cases hin : i < n
    · have hinz : decide ((i : Int) < (n : Int)) = true := decide_eq_true (by omega)
      have hiny : (i : Int) < (n : Int) := by omega
      by_cases hi : i < 12
      · have hiz : decide ((i : Int) < 12) = true := decide_eq_true (by omega)
        have hiy : (i : Int) < 12 := by omega
        obtain ⟨b, off, t, r, q, da, ds, dn, dc, k, nt, nr, pt, pr, s, p, v, ax, xs, nx, cx, rfl, hask, hrows⟩ := HA.out i hin
        have HP : Hid (PA w wr b (off + i * 13) t r q da ds dn dc k nt nr pt pr s p v ax xs nx cx) := ⟨hask.below HB.out hask.o_.lt, hrows.below HB.out, HB.out, HT.out, hask.o_.lt⟩
        clear hask hrows
        have HV := Lib.hid (heavy_op t r q da ds dn dc k nt nr pt pr s p v ax nx cx wr)
        obtain ⟨⟨c0, c1, c2, c3, c4, c5, c6, c7, c8, c9, c10, c11⟩, cx'⟩ := HP.out.ask
        go_wp2_with fail
        refine (HV.out).mono ?_
        rintro e w1 ⟨hv, rfl, hnx, hb1⟩
        have HP1 := Lib.hid (HP.out.next hb1)
        have HNX3 := Lib.hid hnx
        clear hb1 HV hnx c0 c1 c2 c3 c4 c5 c6 c7 c8 c9 c10 c11 cx'
        cases hv
        case true =>
          go_wp2
          go_ret
          exact ⟨rfl, HP1.out.bel⟩
        have hnx3 := HNX3.out rfl
        clear HNX3
        obtain ⟨⟨c0, c1, c2, c3, c4, c5, c6, c7, c8, c9, c10, c11⟩, cx'⟩ := HP1.out.ask
        cases hok : opB t r q ds k nt nr pt pr s p v
        · -- MA
          have C1 := Lib.hid (opBytes_no t r q da ds dn dc k nt nr pt pr s p v w1 HP1.out.tab HP1.out.rows.rd HP1.out.rows.dl (by have := HP1.out.rows.dm; omega) hok)
          clear hok
          go_wp2_with fail
          refine (C1.out).mono ?_
          rintro e w2 ⟨v2, rfl, ho2, hb2⟩
          obtain ⟨a2, n2, c2', rfl, hn2, hr2, hc2⟩ := ho2.form'
          have HP2 := Lib.hid (HP1.out.next hb2)
          clear ho2 hb2 hr2 hn2 hc2 C1
          clear c0 c1 c2 c3 c4 c5 c6 c7 c8 c9 c10 c11 cx'
          have CN := Lib.hid (fun W => num15_any 1 W)
          go_wp2_with fail
          refine (CN.out _).mono ?_
          rintro e w2' ⟨rfl, rfl⟩
          obtain ⟨⟨⟨t1, r1, ds1, k1, nt1, nr1, pt1, pr1, s1, p1, v1⟩, q1, kk, ee⟩, hT⟩ : ∃ Z, tkO xs = Z := ⟨_, rfl⟩
          have HTK1 := Lib.hid hT
          have cx' := HP2.out.ask.x_
          have C2 := Lib.hid (opTake_any ax xs nx cx w2 HP2.out.tab HP2.out.rows.xl HP2.out.rows.rx HP2.out.rows.isB HP2.out.rows.xc (by have := HP2.out.rows.xl; omega))
          rw [HTK1.out] at C2
          clear hT
          go_wp2_with fail
          refine (C2.out).mono ?_
          rintro e y3 ⟨a3, n3, c3', rfl, ho3, hb3⟩
          obtain ⟨hr3, hn3, _⟩ := RowK.ofOwn ho3
          have HPy := Lib.hid ((HP2.out.next hb3).box (.cells #[.int .i64 t1, .int .i64 r1, .int .i64 q1, .slice a3 n3 c3', .int .i64 k1, .int .i64 nt1, .int .i64 nr1, .int .i64 pt1, .int .i64 pr1, .string s1, .int .i64 p1, .int .i64 v1] 28))
          have HA3 := Lib.hid (OpAt.new y3 t1 r1 q1 a3 ds1 n3 c3' k1 nt1 nr1 pt1 pr1 s1 p1 v1)
          have HR3 := Lib.hid (hr3.alloc (.cells #[.int .i64 t1, .int .i64 r1, .int .i64 q1, .slice a3 n3 c3', .int .i64 k1, .int .i64 nt1, .int .i64 nr1, .int .i64 pt1, .int .i64 pr1, .string s1, .int .i64 p1, .int .i64 v1] 28))
          have HN3 := Lib.hid hn3
          clear ho3 hb3 hr3 hn3 C2 cx'
          have CN2 := Lib.hid (fun W => num15_any ee W)
          go_wp2_with fail
          generalize y3.alloc (.cells #[.int .i64 t1, .int .i64 r1, .int .i64 q1, .slice a3 n3 c3', .int .i64 k1, .int .i64 nt1, .int .i64 nr1, .int .i64 pt1, .int .i64 pr1, .string s1, .int .i64 p1, .int .i64 v1] 28) = Y3 at *
          generalize y3.heap.size = g3 at *
          refine (CN2.out _).mono ?_
          rintro e y4 ⟨rfl, rfl⟩
          by_cases hee : ee = 0
          · subst hee
            have hbk := tkO_back HPy.out.rows.isB (by rw [HTK1.out])
            rw [HTK1.out] at hbk
            obtain ⟨bk1, bk2, bk3⟩ := hbk
            have HK1 : Hid (opB t1 r1 q1 ds1 k1 nt1 nr1 pt1 pr1 s1 p1 v1 = true) := bk1
            have HK2 : Hid (kk ≤ xs.length) := bk2
            have HK3 : Hid (encO t1 r1 ds1 k1 nt1 nr1 pt1 pr1 s1 p1 v1 = xs.take kk) := bk3
            clear bk1 bk2 bk3
            have hdl : ds1.length ≤ 16 := by have := Hv.vecB_len (cntB_parts (opB_parts HK1.out).2.2.1).1; omega
            obtain ⟨x0, x1, x2, x3, x4, x5, x6, x7, x8, x9, x10, x11⟩ := HA3.out
            have C4 := Lib.hid (opBytes_yes t1 r1 q1 a3 ds1 n3 c3' k1 nt1 nr1 pt1 pr1 s1 p1 v1 Y3 HPy.out.tab HR3.out HN3.out (by omega) HK1.out)
            rw [HK3.out] at C4
            go_wp2_with fail
            refine (C4.out).mono ?_
            rintro e y5 ⟨v5, rfl, ho5, hb5⟩
            obtain ⟨a5, n5, c5', rfl, hn5, hr5, hc5⟩ := ho5.form'
            have HPz := Lib.hid (HPy.out.next hb5)
            have cx' := HPz.out.ask.x_
            have hsl := fun W => slice_h W ax nx cx kk (kk : Int) rfl (by have := HK2.out; have := HPz.out.rows.xc; omega)
            have CQ := Lib.hid (eqB_bel a5 (partA ax 0 cx) (xs.take kk) n5 kk c5' cx y5 hr5 (HPz.out.rows.rx.first kk cx HPz.out.rows.xc) hn5 (by rw [List.length_take]; have := HK2.out; omega) (by rw [List.length_take]; have := HPz.out.rows.xl; omega))
            have hkx : kk ≤ nx := by rw [HPz.out.rows.xl]; exact HK2.out
            have CN3 := Lib.hid (fun W => num15_any 0 W)
            clear ho5 hb5 hn5 hr5 hc5 C4 x0 x1 x2 x3 x4 x5 x6 x7 x8 x9 x10 x11 hdl
            go_wp2_with fail
            refine (CN3.out _).mono ?_
            rintro e y6 ⟨rfl, rfl⟩
            go_wp2_with fail
            refine (CQ.out).mono ?_
            rintro e y7 ⟨rfl, hb7⟩
            have HPq := Lib.hid (HPz.out.next hb7)
            clear hb7 CQ
            go_wp2
            go_roundg (12 - (i + 1))
            case measure => omega
            case rel => exact ⟨i + 1, by go_num, by omega, by omega, HPq.out.bel⟩
          · have hee' : (ee == 0) = false := by simpa using hee
            go_wp2
            go_roundg (12 - (i + 1))
            case measure => omega
            case rel => exact ⟨i + 1, by go_num, by omega, by omega, HPy.out.bel⟩
        · -- MB
          have C1 := Lib.hid (opBytes_yes t r q da ds dn dc k nt nr pt pr s p v w1 HP1.out.tab HP1.out.rows.rd HP1.out.rows.dl (by have := HP1.out.rows.dm; omega) hok)
          have HLN := Lib.hid (encO_len hok)
          have HIB := Lib.hid (encO_isB t r ds k nt nr pt pr s p v)
          have HTK : Hid (tkO (encO t r ds k nt nr pt pr s p v ++ xs) = (⟨t, r, ds, k, nt, nr, pt, pr, s, p, v⟩, q, (encO t r ds k nt nr pt pr s p v).length, 0)) := tkO_enc (R := ⟨t, r, ds, k, nt, nr, pt, pr, s, p, v⟩) (q := q) hok xs
          have HCUT : Hid (∀ j, j < (encO t r ds k nt nr pt pr s p v).length → tkO ((encO t r ds k nt nr pt pr s p v).take j) = (zR, 0, 0, 7)) := fun j hj => tkO_cut (R := ⟨t, r, ds, k, nt, nr, pt, pr, s, p, v⟩) (q := q) hok hj
          clear hok
          generalize encO t r ds k nt nr pt pr s p v = bs at *
          go_wp2_with fail
          refine (C1.out).mono ?_
          rintro e w2 ⟨v2, rfl, ho2, hb2⟩
          obtain ⟨a2, n2, c2', rfl, hn2, hr2, hc2⟩ := ho2.form'
          have HP2 := Lib.hid (HP1.out.next hb2)
          have HR2 := Lib.hid hr2
          have HN2 := Lib.hid hn2
          have HC2 := Lib.hid hc2
          rw [← hn2] at HTK
          clear ho2 hb2 hr2 hn2 hc2 C1
          clear c0 c1 c2 c3 c4 c5 c6 c7 c8 c9 c10 c11 cx'
          have cx' := HP2.out.ask.x_
          have CN := Lib.hid (fun W => num15_any 0 W)
          go_wp2_with fail
          refine (CN.out _).mono ?_
          rintro e w2' ⟨rfl, rfl⟩
          have HBLT : Hid (b < w2.heap.size) := (by have h1 := HP2.out.lt; have h2 := HP2.out.bel.size; omega : b < w2.heap.size)
          have HNX := Lib.hid HP2.out.rows.xl
          have hS0 : w2.drew.cell? ⟨b, off + i * 13 + 12, none⟩ = some (.slice ax nx cx) ∧ Hid (Below w2.heap.size w2 w2.drew) := ⟨cx', (Below.refl w2.heap.size w2).drew⟩
          have hSa : (w2.alloc (.cells #[.int .i64 0, .int .i64 0, .int .i64 0, .slice none 0 0, .int .i64 0, .int .i64 0, .int .i64 0, .int .i64 0, .int .i64 0, .string ⟨#[]⟩, .int .i64 0, .int .i64 0] 28)).drew.cell? ⟨b, off + i * 13 + 12, none⟩ = some (.slice ax nx cx) ∧ Hid (Below w2.heap.size w2 (w2.alloc (.cells #[.int .i64 0, .int .i64 0, .int .i64 0, .slice none 0 0, .int .i64 0, .int .i64 0, .int .i64 0, .int .i64 0, .int .i64 0, .string ⟨#[]⟩, .int .i64 0, .int .i64 0] 28)).drew) := Held.next (WX := w2) (W := w2) ⟨cx', Below.refl _ _⟩ (box_bel w2 (.cells #[.int .i64 0, .int .i64 0, .int .i64 0, .slice none 0 0, .int .i64 0, .int .i64 0, .int .i64 0, .int .i64 0, .int .i64 0, .string ⟨#[]⟩, .int .i64 0, .int .i64 0] 28)).drew
          have C20 := Lib.hid (fun W (hS : W.cell? ⟨b, off + i * 13 + 12, none⟩ = some (.slice ax nx cx) ∧ Hid (Below w2.heap.size w2 W)) => copyB_any a2 bs n2 c2' W (HR2.out.below hS.2.out (Nat.le_refl _)) HN2.out (by have := HLN.out; omega))
          have HRX := Lib.hid (fun W (hS : W.cell? ⟨b, off + i * 13 + 12, none⟩ = some (.slice ax nx cx) ∧ Hid (Below w2.heap.size w2 W)) => HP2.out.rows.rx.below hS.2.out (Nat.le_refl _))
          have CTK : Hid (∀ a9 n9 c9' W, (W.cell? ⟨b, off + i * 13 + 12, none⟩ = some (.slice ax nx cx) ∧ Hid (Below w2.heap.size w2 W)) → RowK .u8 W a9 (bs ++ xs) → n9 = (bs ++ xs).length → (bs ++ xs).length ≤ c9' → Calls Tryd.prog 21 #[.slice a9 n9 c9'] W (TakeOp ⟨t, r, ds, k, nt, nr, pt, pr, s, p, v⟩ q n2 0 W)) := fun a9 n9 c9' W hS hr hn9 hc9 => by
            have h := opTake_any a9 (bs ++ xs) n9 c9' W (HP2.out.tab.below hS.2.out HP2.out.tab.lt) hn9 hr (HIB.out.app HP2.out.rows.isB) hc9 (by rw [List.length_append]; have h1 := HLN.out; have h2 := HNX.out; omega)
            rw [HTK.out] at h
            exact h
          go_wp2_with fail
          go_region_held3 (fun w' => w'.cell? ⟨b, off + i * 13 + 12, none⟩ = some (.slice ax nx cx) ∧ Hid (Below w2.heap.size w2 w')) (first | with_reducible assumption | with_reducible exact Held.box (by with_reducible assumption) _ | with_reducible exact Held.set12 HBLT.out HQ10.out.ge (by with_reducible assumption) _ _ _ _ _ _ _ _ _ _ _ _) (first
            | (go_at_call 20
               (with_reducible refine (C20.out _ (by with_reducible assumption)).mono ?_)
               rintro e w8 ⟨v8, rfl, ho8, hb8⟩
               have hS8 := Held.next (WX := w2) (by with_reducible assumption) hb8
               have HO8 := Lib.hid (held_own (WX := w2) (A := ⟨b, off + i * 13 + 12, none⟩) (u := .slice ax nx cx) (by with_reducible assumption) ho8)
               first
                 | (with_reducible have HQ := Lib.hid (qa_mk (WX := w2) hb8 ho8))
                 | skip
               clear ho8 hb8)
            | (refine stepB_rowG (by rfl) _ _ (by rfl) w2.heap.size w8 v8 bs xs ax nx cx HNX.out (by rfl) HO8.out (by rfl) (HRX.out w8 hS8) (by have h1 := HLN.out; have h2 := HNX.out; omega) hS8.2.out.size ?_
               intro v9 w9 ho9 hg9
               have hS9 := Held.grown hS8 hg9 HBLT.out (fun g e => (HO8.out.lt e).1)
               first
                 | (have HQ9 := Lib.hid (QZ.grown HQ.out hg9))
                 | skip
               obtain ⟨a9, n9, c9', rfl, hn9, hr9, hc9⟩ := ho9.form'
               have HT9 := Lib.hid (fun W (hS : W.cell? ⟨b, off + i * 13 + 12, none⟩ = some (.slice ax nx cx) ∧ Hid (Below w2.heap.size w2 W)) (hr : RowK .u8 W a9 (bs ++ xs)) => CTK.out a9 n9 c9' W hS hr hn9 hc9)
               have HR9 := Lib.hid hr9
               clear ho9 hg9 hn9 hr9 hc9)
            | (refine stepB_rowG (by rfl) _ _ (by rfl) w2.heap.size (w8.alloc (.cells #[.int .i64 0, .int .i64 0, .int .i64 0, .slice none 0 0, .int .i64 0, .int .i64 0, .int .i64 0, .int .i64 0, .int .i64 0, .string ⟨#[]⟩, .int .i64 0, .int .i64 0] 28)) v8 bs xs ax nx cx HNX.out (by rfl) (HO8.out.alloc _) (by rfl) (HRX.out _ (Held.box hS8 _)) (by have h1 := HLN.out; have h2 := HNX.out; omega) (Held.box hS8 _).2.out.size ?_
               intro v9 w9 ho9 hg9
               have hS9 := Held.grown (Held.box hS8 (.cells #[.int .i64 0, .int .i64 0, .int .i64 0, .slice none 0 0, .int .i64 0, .int .i64 0, .int .i64 0, .int .i64 0, .int .i64 0, .string ⟨#[]⟩, .int .i64 0, .int .i64 0] 28)) hg9 HBLT.out (fun g e => (HO8.out.lt e).1)
               have HQ9 := Lib.hid (qb_mk (WX := w2) hS8.2.out.size HO8.out hg9)
               obtain ⟨a9, n9, c9', rfl, hn9, hr9, hc9⟩ := ho9.form'
               have HT9 := Lib.hid (fun W (hS : W.cell? ⟨b, off + i * 13 + 12, none⟩ = some (.slice ax nx cx) ∧ Hid (Below w2.heap.size w2 W)) (hr : RowK .u8 W a9 (bs ++ xs)) => CTK.out a9 n9 c9' W hS hr hn9 hc9)
               have HR9 := Lib.hid hr9
               clear ho9 hg9 hn9 hr9 hc9)
            | (go_at_call 21
               first
                 | (with_reducible refine (HT9.out w9 hS9 HR9.out).mono ?_)
                 | (with_reducible refine (HT9.out (w9.alloc (.cells #[.int .i64 0, .int .i64 0, .int .i64 0, .slice none 0 0, .int .i64 0, .int .i64 0, .int .i64 0, .int .i64 0, .int .i64 0, .string ⟨#[]⟩, .int .i64 0, .int .i64 0] 28)) (Held.box hS9 _) (HR9.out.alloc _)).mono ?_)
               rintro e w10 ⟨a10, n10, c10, rfl, ho10, hb10⟩
               have HN10 : Hid (n10 = ds.length) := (RowK.ofOwn ho10).2.1
               have HO10 := Lib.hid ho10
               first
                 | (have hS10 := Held.next hS9 hb10)
                 | (have hS10 := Held.next (Held.box hS9 (.cells #[.int .i64 0, .int .i64 0, .int .i64 0, .slice none 0 0, .int .i64 0, .int .i64 0, .int .i64 0, .int .i64 0, .int .i64 0, .string ⟨#[]⟩, .int .i64 0, .int .i64 0] 28)) hb10)
               first
                 | (have HQ10 := Lib.hid (HQ9.out.next hb10)
                    have HO10q := Lib.hid (ho10.mono (Nat.succ_le_of_lt HQ9.out.blk.lt))
                    have zc0 := HQ10.out.blk.cell 0 _ rfl
                    have zf0 := HQ10.out.blk.free 0 _ rfl
                    have zc1 := HQ10.out.blk.cell 1 _ rfl
                    have zf1 := HQ10.out.blk.free 1 _ rfl
                    have zc2 := HQ10.out.blk.cell 2 _ rfl
                    have zf2 := HQ10.out.blk.free 2 _ rfl
                    have zc3 := HQ10.out.blk.cell 3 _ rfl
                    have zf3 := HQ10.out.blk.free 3 _ rfl
                    have zc4 := HQ10.out.blk.cell 4 _ rfl
                    have zf4 := HQ10.out.blk.free 4 _ rfl
                    have zc5 := HQ10.out.blk.cell 5 _ rfl
                    have zf5 := HQ10.out.blk.free 5 _ rfl
                    have zc6 := HQ10.out.blk.cell 6 _ rfl
                    have zf6 := HQ10.out.blk.free 6 _ rfl
                    have zc7 := HQ10.out.blk.cell 7 _ rfl
                    have zf7 := HQ10.out.blk.free 7 _ rfl
                    have zc8 := HQ10.out.blk.cell 8 _ rfl
                    have zf8 := HQ10.out.blk.free 8 _ rfl
                    have zc9 := HQ10.out.blk.cell 9 _ rfl
                    have zf9 := HQ10.out.blk.free 9 _ rfl
                    have zc10 := HQ10.out.blk.cell 10 _ rfl
                    have zf10 := HQ10.out.blk.free 10 _ rfl
                    have zc11 := HQ10.out.blk.cell 11 _ rfl
                    have zf11 := HQ10.out.blk.free 11 _ rfl)
                 | (with_reducible have HQ10 := Lib.hid (qc_mk (WX := w2) hS9.2.out.size hb10)
                    have HO10q := Lib.hid (ho10.mono (show w9.heap.size + 1 ≤ (w9.alloc (.cells #[.int .i64 0, .int .i64 0, .int .i64 0, .slice none 0 0, .int .i64 0, .int .i64 0, .int .i64 0, .int .i64 0, .int .i64 0, .string ⟨#[]⟩, .int .i64 0, .int .i64 0] 28)).heap.size from Nat.le_of_eq (World.size_alloc _ _).symm))
                    have zc0 := HQ10.out.blk.cell 0 _ rfl
                    have zf0 := HQ10.out.blk.free 0 _ rfl
                    have zc1 := HQ10.out.blk.cell 1 _ rfl
                    have zf1 := HQ10.out.blk.free 1 _ rfl
                    have zc2 := HQ10.out.blk.cell 2 _ rfl
                    have zf2 := HQ10.out.blk.free 2 _ rfl
                    have zc3 := HQ10.out.blk.cell 3 _ rfl
                    have zf3 := HQ10.out.blk.free 3 _ rfl
                    have zc4 := HQ10.out.blk.cell 4 _ rfl
                    have zf4 := HQ10.out.blk.free 4 _ rfl
                    have zc5 := HQ10.out.blk.cell 5 _ rfl
                    have zf5 := HQ10.out.blk.free 5 _ rfl
                    have zc6 := HQ10.out.blk.cell 6 _ rfl
                    have zf6 := HQ10.out.blk.free 6 _ rfl
                    have zc7 := HQ10.out.blk.cell 7 _ rfl
                    have zf7 := HQ10.out.blk.free 7 _ rfl
                    have zc8 := HQ10.out.blk.cell 8 _ rfl
                    have zf8 := HQ10.out.blk.free 8 _ rfl
                    have zc9 := HQ10.out.blk.cell 9 _ rfl
                    have zf9 := HQ10.out.blk.free 9 _ rfl
                    have zc10 := HQ10.out.blk.cell 10 _ rfl
                    have zf10 := HQ10.out.blk.free 10 _ rfl
                    have zc11 := HQ10.out.blk.cell 11 _ rfl
                    have zf11 := HQ10.out.blk.free 11 _ rfl)
                 | skip
               clear ho10 hb10))
          all_goals (first
            | (have HQg : Hid (QZ w2 w10 (w2.heap.size)) := HQ10
               have HB11 : Hid (Below w2.heap.size w2 ((((((((((((w10.setCell ⟨w2.heap.size, 0, none⟩ (.int .i64 t)).setCell ⟨w2.heap.size, 1, none⟩ (.int .i64 r)).setCell ⟨w2.heap.size, 2, none⟩ (.int .i64 q)).setCell ⟨w2.heap.size, 3, none⟩ (.slice a10 n10 c10)).setCell ⟨w2.heap.size, 4, none⟩ (.int .i64 k)).setCell ⟨w2.heap.size, 5, none⟩ (.int .i64 nt)).setCell ⟨w2.heap.size, 6, none⟩ (.int .i64 nr)).setCell ⟨w2.heap.size, 7, none⟩ (.int .i64 pt)).setCell ⟨w2.heap.size, 8, none⟩ (.int .i64 pr)).setCell ⟨w2.heap.size, 9, none⟩ (.string s)).setCell ⟨w2.heap.size, 10, none⟩ (.int .i64 p)).setCell ⟨w2.heap.size, 11, none⟩ (.int .i64 v))) := bel12 hS10.2.out HQg.out.ge _ _ _ _ _ _ _ _ _ _ _ _
               have HZ := ((((((((((((HQ10.out.blk.set 0 (.int .i64 t)).set 1 (.int .i64 r)).set 2 (.int .i64 q)).set 3 (.slice a10 n10 c10)).set 4 (.int .i64 k)).set 5 (.int .i64 nt)).set 6 (.int .i64 nr)).set 7 (.int .i64 pt)).set 8 (.int .i64 pr)).set 9 (.string s)).set 10 (.int .i64 p)).set 11 (.int .i64 v))
               have HX11 : Hid (OpAt ((((((((((((w10.setCell ⟨w2.heap.size, 0, none⟩ (.int .i64 t)).setCell ⟨w2.heap.size, 1, none⟩ (.int .i64 r)).setCell ⟨w2.heap.size, 2, none⟩ (.int .i64 q)).setCell ⟨w2.heap.size, 3, none⟩ (.slice a10 n10 c10)).setCell ⟨w2.heap.size, 4, none⟩ (.int .i64 k)).setCell ⟨w2.heap.size, 5, none⟩ (.int .i64 nt)).setCell ⟨w2.heap.size, 6, none⟩ (.int .i64 nr)).setCell ⟨w2.heap.size, 7, none⟩ (.int .i64 pt)).setCell ⟨w2.heap.size, 8, none⟩ (.int .i64 pr)).setCell ⟨w2.heap.size, 9, none⟩ (.string s)).setCell ⟨w2.heap.size, 10, none⟩ (.int .i64 p)).setCell ⟨w2.heap.size, 11, none⟩ (.int .i64 v)) (w2.heap.size) 0 t r q a10 n10 c10 k nt nr pt pr s p v) := ⟨HZ.cell 0 _ rfl, HZ.cell 1 _ rfl, HZ.cell 2 _ rfl, HZ.cell 3 _ rfl, HZ.cell 4 _ rfl, HZ.cell 5 _ rfl, HZ.cell 6 _ rfl, HZ.cell 7 _ rfl, HZ.cell 8 _ rfl, HZ.cell 9 _ rfl, HZ.cell 10 _ rfl, HZ.cell 11 _ rfl⟩
               have HR11 : Hid (RowK .i64 ((((((((((((w10.setCell ⟨w2.heap.size, 0, none⟩ (.int .i64 t)).setCell ⟨w2.heap.size, 1, none⟩ (.int .i64 r)).setCell ⟨w2.heap.size, 2, none⟩ (.int .i64 q)).setCell ⟨w2.heap.size, 3, none⟩ (.slice a10 n10 c10)).setCell ⟨w2.heap.size, 4, none⟩ (.int .i64 k)).setCell ⟨w2.heap.size, 5, none⟩ (.int .i64 nt)).setCell ⟨w2.heap.size, 6, none⟩ (.int .i64 nr)).setCell ⟨w2.heap.size, 7, none⟩ (.int .i64 pt)).setCell ⟨w2.heap.size, 8, none⟩ (.int .i64 pr)).setCell ⟨w2.heap.size, 9, none⟩ (.string s)).setCell ⟨w2.heap.size, 10, none⟩ (.int .i64 p)).setCell ⟨w2.heap.size, 11, none⟩ (.int .i64 v)) a10 ds) := (RowK.ofOwn (((((((((((((HO10q.out.far (Nat.lt_succ_self _) 0 (.int .i64 t)).far (Nat.lt_succ_self _) 1 (.int .i64 r)).far (Nat.lt_succ_self _) 2 (.int .i64 q)).far (Nat.lt_succ_self _) 3 (.slice a10 n10 c10)).far (Nat.lt_succ_self _) 4 (.int .i64 k)).far (Nat.lt_succ_self _) 5 (.int .i64 nt)).far (Nat.lt_succ_self _) 6 (.int .i64 nr)).far (Nat.lt_succ_self _) 7 (.int .i64 pt)).far (Nat.lt_succ_self _) 8 (.int .i64 pr)).far (Nat.lt_succ_self _) 9 (.string s)).far (Nat.lt_succ_self _) 10 (.int .i64 p)).far (Nat.lt_succ_self _) 11 (.int .i64 v)))).1
               have HP11 := Lib.hid (HP2.out.next HB11.out)
               have HR2x := Lib.hid (HR2.out.below HB11.out (Nat.le_refl _))
               clear HB11 HZ HQg HQ10 HO10q hS10 zc0 zf0 zc1 zf1 zc2 zf2 zc3 zf3 zc4 zf4 zc5 zf5 zc6 zf6 zc7 zf7 zc8 zf8 zc9 zf9 zc10 zf10 zc11 zf11
               generalize ((((((((((((w10.setCell ⟨w2.heap.size, 0, none⟩ (.int .i64 t)).setCell ⟨w2.heap.size, 1, none⟩ (.int .i64 r)).setCell ⟨w2.heap.size, 2, none⟩ (.int .i64 q)).setCell ⟨w2.heap.size, 3, none⟩ (.slice a10 n10 c10)).setCell ⟨w2.heap.size, 4, none⟩ (.int .i64 k)).setCell ⟨w2.heap.size, 5, none⟩ (.int .i64 nt)).setCell ⟨w2.heap.size, 6, none⟩ (.int .i64 nr)).setCell ⟨w2.heap.size, 7, none⟩ (.int .i64 pt)).setCell ⟨w2.heap.size, 8, none⟩ (.int .i64 pr)).setCell ⟨w2.heap.size, 9, none⟩ (.string s)).setCell ⟨w2.heap.size, 10, none⟩ (.int .i64 p)).setCell ⟨w2.heap.size, 11, none⟩ (.int .i64 v)) = W11 at *
               generalize w2.heap.size = gx at *)
            | (have HQg : Hid (QZ w2 w10 (w8.heap.size)) := HQ10
               have HB11 : Hid (Below w2.heap.size w2 ((((((((((((w10.setCell ⟨w8.heap.size, 0, none⟩ (.int .i64 t)).setCell ⟨w8.heap.size, 1, none⟩ (.int .i64 r)).setCell ⟨w8.heap.size, 2, none⟩ (.int .i64 q)).setCell ⟨w8.heap.size, 3, none⟩ (.slice a10 n10 c10)).setCell ⟨w8.heap.size, 4, none⟩ (.int .i64 k)).setCell ⟨w8.heap.size, 5, none⟩ (.int .i64 nt)).setCell ⟨w8.heap.size, 6, none⟩ (.int .i64 nr)).setCell ⟨w8.heap.size, 7, none⟩ (.int .i64 pt)).setCell ⟨w8.heap.size, 8, none⟩ (.int .i64 pr)).setCell ⟨w8.heap.size, 9, none⟩ (.string s)).setCell ⟨w8.heap.size, 10, none⟩ (.int .i64 p)).setCell ⟨w8.heap.size, 11, none⟩ (.int .i64 v))) := bel12 hS10.2.out HQg.out.ge _ _ _ _ _ _ _ _ _ _ _ _
               have HZ := ((((((((((((HQ10.out.blk.set 0 (.int .i64 t)).set 1 (.int .i64 r)).set 2 (.int .i64 q)).set 3 (.slice a10 n10 c10)).set 4 (.int .i64 k)).set 5 (.int .i64 nt)).set 6 (.int .i64 nr)).set 7 (.int .i64 pt)).set 8 (.int .i64 pr)).set 9 (.string s)).set 10 (.int .i64 p)).set 11 (.int .i64 v))
               have HX11 : Hid (OpAt ((((((((((((w10.setCell ⟨w8.heap.size, 0, none⟩ (.int .i64 t)).setCell ⟨w8.heap.size, 1, none⟩ (.int .i64 r)).setCell ⟨w8.heap.size, 2, none⟩ (.int .i64 q)).setCell ⟨w8.heap.size, 3, none⟩ (.slice a10 n10 c10)).setCell ⟨w8.heap.size, 4, none⟩ (.int .i64 k)).setCell ⟨w8.heap.size, 5, none⟩ (.int .i64 nt)).setCell ⟨w8.heap.size, 6, none⟩ (.int .i64 nr)).setCell ⟨w8.heap.size, 7, none⟩ (.int .i64 pt)).setCell ⟨w8.heap.size, 8, none⟩ (.int .i64 pr)).setCell ⟨w8.heap.size, 9, none⟩ (.string s)).setCell ⟨w8.heap.size, 10, none⟩ (.int .i64 p)).setCell ⟨w8.heap.size, 11, none⟩ (.int .i64 v)) (w8.heap.size) 0 t r q a10 n10 c10 k nt nr pt pr s p v) := ⟨HZ.cell 0 _ rfl, HZ.cell 1 _ rfl, HZ.cell 2 _ rfl, HZ.cell 3 _ rfl, HZ.cell 4 _ rfl, HZ.cell 5 _ rfl, HZ.cell 6 _ rfl, HZ.cell 7 _ rfl, HZ.cell 8 _ rfl, HZ.cell 9 _ rfl, HZ.cell 10 _ rfl, HZ.cell 11 _ rfl⟩
               have HR11 : Hid (RowK .i64 ((((((((((((w10.setCell ⟨w8.heap.size, 0, none⟩ (.int .i64 t)).setCell ⟨w8.heap.size, 1, none⟩ (.int .i64 r)).setCell ⟨w8.heap.size, 2, none⟩ (.int .i64 q)).setCell ⟨w8.heap.size, 3, none⟩ (.slice a10 n10 c10)).setCell ⟨w8.heap.size, 4, none⟩ (.int .i64 k)).setCell ⟨w8.heap.size, 5, none⟩ (.int .i64 nt)).setCell ⟨w8.heap.size, 6, none⟩ (.int .i64 nr)).setCell ⟨w8.heap.size, 7, none⟩ (.int .i64 pt)).setCell ⟨w8.heap.size, 8, none⟩ (.int .i64 pr)).setCell ⟨w8.heap.size, 9, none⟩ (.string s)).setCell ⟨w8.heap.size, 10, none⟩ (.int .i64 p)).setCell ⟨w8.heap.size, 11, none⟩ (.int .i64 v)) a10 ds) := (RowK.ofOwn (((((((((((((HO10q.out.far (Nat.lt_succ_self _) 0 (.int .i64 t)).far (Nat.lt_succ_self _) 1 (.int .i64 r)).far (Nat.lt_succ_self _) 2 (.int .i64 q)).far (Nat.lt_succ_self _) 3 (.slice a10 n10 c10)).far (Nat.lt_succ_self _) 4 (.int .i64 k)).far (Nat.lt_succ_self _) 5 (.int .i64 nt)).far (Nat.lt_succ_self _) 6 (.int .i64 nr)).far (Nat.lt_succ_self _) 7 (.int .i64 pt)).far (Nat.lt_succ_self _) 8 (.int .i64 pr)).far (Nat.lt_succ_self _) 9 (.string s)).far (Nat.lt_succ_self _) 10 (.int .i64 p)).far (Nat.lt_succ_self _) 11 (.int .i64 v)))).1
               have HP11 := Lib.hid (HP2.out.next HB11.out)
               have HR2x := Lib.hid (HR2.out.below HB11.out (Nat.le_refl _))
               clear HB11 HZ HQg HQ10 HO10q hS10 zc0 zf0 zc1 zf1 zc2 zf2 zc3 zf3 zc4 zf4 zc5 zf5 zc6 zf6 zc7 zf7 zc8 zf8 zc9 zf9 zc10 zf10 zc11 zf11
               generalize ((((((((((((w10.setCell ⟨w8.heap.size, 0, none⟩ (.int .i64 t)).setCell ⟨w8.heap.size, 1, none⟩ (.int .i64 r)).setCell ⟨w8.heap.size, 2, none⟩ (.int .i64 q)).setCell ⟨w8.heap.size, 3, none⟩ (.slice a10 n10 c10)).setCell ⟨w8.heap.size, 4, none⟩ (.int .i64 k)).setCell ⟨w8.heap.size, 5, none⟩ (.int .i64 nt)).setCell ⟨w8.heap.size, 6, none⟩ (.int .i64 nr)).setCell ⟨w8.heap.size, 7, none⟩ (.int .i64 pt)).setCell ⟨w8.heap.size, 8, none⟩ (.int .i64 pr)).setCell ⟨w8.heap.size, 9, none⟩ (.string s)).setCell ⟨w8.heap.size, 10, none⟩ (.int .i64 p)).setCell ⟨w8.heap.size, 11, none⟩ (.int .i64 v)) = W11 at *
               generalize w8.heap.size = gx at *)
            | (have HQg : Hid (QZ w2 w10 (w9.heap.size)) := HQ10
               have HB11 : Hid (Below w2.heap.size w2 ((((((((((((w10.setCell ⟨w9.heap.size, 0, none⟩ (.int .i64 t)).setCell ⟨w9.heap.size, 1, none⟩ (.int .i64 r)).setCell ⟨w9.heap.size, 2, none⟩ (.int .i64 q)).setCell ⟨w9.heap.size, 3, none⟩ (.slice a10 n10 c10)).setCell ⟨w9.heap.size, 4, none⟩ (.int .i64 k)).setCell ⟨w9.heap.size, 5, none⟩ (.int .i64 nt)).setCell ⟨w9.heap.size, 6, none⟩ (.int .i64 nr)).setCell ⟨w9.heap.size, 7, none⟩ (.int .i64 pt)).setCell ⟨w9.heap.size, 8, none⟩ (.int .i64 pr)).setCell ⟨w9.heap.size, 9, none⟩ (.string s)).setCell ⟨w9.heap.size, 10, none⟩ (.int .i64 p)).setCell ⟨w9.heap.size, 11, none⟩ (.int .i64 v))) := bel12 hS10.2.out HQg.out.ge _ _ _ _ _ _ _ _ _ _ _ _
               have HZ := ((((((((((((HQ10.out.blk.set 0 (.int .i64 t)).set 1 (.int .i64 r)).set 2 (.int .i64 q)).set 3 (.slice a10 n10 c10)).set 4 (.int .i64 k)).set 5 (.int .i64 nt)).set 6 (.int .i64 nr)).set 7 (.int .i64 pt)).set 8 (.int .i64 pr)).set 9 (.string s)).set 10 (.int .i64 p)).set 11 (.int .i64 v))
               have HX11 : Hid (OpAt ((((((((((((w10.setCell ⟨w9.heap.size, 0, none⟩ (.int .i64 t)).setCell ⟨w9.heap.size, 1, none⟩ (.int .i64 r)).setCell ⟨w9.heap.size, 2, none⟩ (.int .i64 q)).setCell ⟨w9.heap.size, 3, none⟩ (.slice a10 n10 c10)).setCell ⟨w9.heap.size, 4, none⟩ (.int .i64 k)).setCell ⟨w9.heap.size, 5, none⟩ (.int .i64 nt)).setCell ⟨w9.heap.size, 6, none⟩ (.int .i64 nr)).setCell ⟨w9.heap.size, 7, none⟩ (.int .i64 pt)).setCell ⟨w9.heap.size, 8, none⟩ (.int .i64 pr)).setCell ⟨w9.heap.size, 9, none⟩ (.string s)).setCell ⟨w9.heap.size, 10, none⟩ (.int .i64 p)).setCell ⟨w9.heap.size, 11, none⟩ (.int .i64 v)) (w9.heap.size) 0 t r q a10 n10 c10 k nt nr pt pr s p v) := ⟨HZ.cell 0 _ rfl, HZ.cell 1 _ rfl, HZ.cell 2 _ rfl, HZ.cell 3 _ rfl, HZ.cell 4 _ rfl, HZ.cell 5 _ rfl, HZ.cell 6 _ rfl, HZ.cell 7 _ rfl, HZ.cell 8 _ rfl, HZ.cell 9 _ rfl, HZ.cell 10 _ rfl, HZ.cell 11 _ rfl⟩
               have HR11 : Hid (RowK .i64 ((((((((((((w10.setCell ⟨w9.heap.size, 0, none⟩ (.int .i64 t)).setCell ⟨w9.heap.size, 1, none⟩ (.int .i64 r)).setCell ⟨w9.heap.size, 2, none⟩ (.int .i64 q)).setCell ⟨w9.heap.size, 3, none⟩ (.slice a10 n10 c10)).setCell ⟨w9.heap.size, 4, none⟩ (.int .i64 k)).setCell ⟨w9.heap.size, 5, none⟩ (.int .i64 nt)).setCell ⟨w9.heap.size, 6, none⟩ (.int .i64 nr)).setCell ⟨w9.heap.size, 7, none⟩ (.int .i64 pt)).setCell ⟨w9.heap.size, 8, none⟩ (.int .i64 pr)).setCell ⟨w9.heap.size, 9, none⟩ (.string s)).setCell ⟨w9.heap.size, 10, none⟩ (.int .i64 p)).setCell ⟨w9.heap.size, 11, none⟩ (.int .i64 v)) a10 ds) := (RowK.ofOwn (((((((((((((HO10q.out.far (Nat.lt_succ_self _) 0 (.int .i64 t)).far (Nat.lt_succ_self _) 1 (.int .i64 r)).far (Nat.lt_succ_self _) 2 (.int .i64 q)).far (Nat.lt_succ_self _) 3 (.slice a10 n10 c10)).far (Nat.lt_succ_self _) 4 (.int .i64 k)).far (Nat.lt_succ_self _) 5 (.int .i64 nt)).far (Nat.lt_succ_self _) 6 (.int .i64 nr)).far (Nat.lt_succ_self _) 7 (.int .i64 pt)).far (Nat.lt_succ_self _) 8 (.int .i64 pr)).far (Nat.lt_succ_self _) 9 (.string s)).far (Nat.lt_succ_self _) 10 (.int .i64 p)).far (Nat.lt_succ_self _) 11 (.int .i64 v)))).1
               have HP11 := Lib.hid (HP2.out.next HB11.out)
               have HR2x := Lib.hid (HR2.out.below HB11.out (Nat.le_refl _))
               clear HB11 HZ HQg HQ10 HO10q hS10 zc0 zf0 zc1 zf1 zc2 zf2 zc3 zf3 zc4 zf4 zc5 zf5 zc6 zf6 zc7 zf7 zc8 zf8 zc9 zf9 zc10 zf10 zc11 zf11
               generalize ((((((((((((w10.setCell ⟨w9.heap.size, 0, none⟩ (.int .i64 t)).setCell ⟨w9.heap.size, 1, none⟩ (.int .i64 r)).setCell ⟨w9.heap.size, 2, none⟩ (.int .i64 q)).setCell ⟨w9.heap.size, 3, none⟩ (.slice a10 n10 c10)).setCell ⟨w9.heap.size, 4, none⟩ (.int .i64 k)).setCell ⟨w9.heap.size, 5, none⟩ (.int .i64 nt)).setCell ⟨w9.heap.size, 6, none⟩ (.int .i64 nr)).setCell ⟨w9.heap.size, 7, none⟩ (.int .i64 pt)).setCell ⟨w9.heap.size, 8, none⟩ (.int .i64 pr)).setCell ⟨w9.heap.size, 9, none⟩ (.string s)).setCell ⟨w9.heap.size, 10, none⟩ (.int .i64 p)).setCell ⟨w9.heap.size, 11, none⟩ (.int .i64 v)) = W11 at *
               generalize w9.heap.size = gx at *)
            | (have HB11 : Hid (Below w2.heap.size w2 (w10.alloc (.cells #[.int .i64 t, .int .i64 r, .int .i64 q, .slice a10 n10 c10, .int .i64 k, .int .i64 nt, .int .i64 nr, .int .i64 pt, .int .i64 pr, .string s, .int .i64 p, .int .i64 v] 28))) := hS10.2.out.trans ((box_bel w10 (.cells #[.int .i64 t, .int .i64 r, .int .i64 q, .slice a10 n10 c10, .int .i64 k, .int .i64 nt, .int .i64 nr, .int .i64 pt, .int .i64 pr, .string s, .int .i64 p, .int .i64 v] 28)).mono hS10.2.out.size)
               have HX11 := Lib.hid (OpAt.new w10 t r q a10 ds n10 c10 k nt nr pt pr s p v)
               have HR11 := Lib.hid ((RowK.ofOwn HO10.out).1.alloc (.cells #[.int .i64 t, .int .i64 r, .int .i64 q, .slice a10 n10 c10, .int .i64 k, .int .i64 nt, .int .i64 nr, .int .i64 pt, .int .i64 pr, .string s, .int .i64 p, .int .i64 v] 28))
               have HP11 := Lib.hid (HP2.out.next HB11.out)
               have HR2x := Lib.hid (HR2.out.below HB11.out (Nat.le_refl _))
               clear hS10 HB11
               generalize w10.alloc (.cells #[.int .i64 t, .int .i64 r, .int .i64 q, .slice a10 n10 c10, .int .i64 k, .int .i64 nt, .int .i64 nr, .int .i64 pt, .int .i64 pr, .string s, .int .i64 p, .int .i64 v] 28) = W11 at *
               generalize w10.heap.size = gx at *))
          all_goals (
            have k15 : St.RegrownTo W11 15 #[.int .i64 0] (.int .i64 0) := St.regrown_same fun W => num15_any 0 W
            have k18 : St.RegrownTo W11 18 #[.agg #[.int .i64 t, .int .i64 r, .int .i64 q, .slice a10 n10 c10, .int .i64 k, .int .i64 nt, .int .i64 nr, .int .i64 pt, .int .i64 pr, .string s, .int .i64 p, .int .i64 v], .agg #[.int .i64 t, .int .i64 r, .int .i64 q, .slice da dn dc, .int .i64 k, .int .i64 nt, .int .i64 nr, .int .i64 pt, .int .i64 pr, .string s, .int .i64 p, .int .i64 v]] (.bool true) := regrown_at fun W hb => eqOp_bel t r q a10 ds n10 c10 k nt nr pt pr s p v da dn dc W (HR11.out.below hb (Nat.le_refl _)) HN10.out (by have := HP11.out.rows.dm; omega) (HP11.out.rows.rd.below hb (Nat.le_refl _)) HP11.out.rows.dl
            obtain ⟨x0, x1, x2, x3, x4, x5, x6, x7, x8, x9, x10, x11⟩ := HX11.out.regrown
            obtain ⟨y0, y1, y2, y3, y4, y5, y6, y7, y8, y9, y10, y11⟩ := HP11.out.ask.o_.regrown
            have hnn : ((n2 : Int) != (n2 : Int)) = false := by simp
            go_wp2_with fail
            refine wp_region_quiet_below (by assumption) (by kernel_rfl) ?_
            repeat (go_big_quiet_step (first | (go_at_call 15; with_reducible exact k15 _ _) | (go_at_call 18; with_reducible exact k18 _ _)))
            refine wpQuiet_nil ?_
            intro _ hw'
            obtain ⟨⟨dq, osq⟩, hw''⟩ := hw'
            subst hw''
            have HP12 := Lib.hid (HP11.out.next (below_regrown W11 dq osq))
            replace HR2x := Lib.hid (HR2x.out.below (below_regrown W11 dq osq) (Nat.le_refl _))
            clear k15 k18 x0 x1 x2 x3 x4 x5 x6 x7 x8 x9 x10 x11 y0 y1 y2 y3 y4 y5 y6 y7 y8 y9 y10 y11 HX11 HR11 HP11 HN10
            generalize Go.Sort.grow (redrawn W11 dq) osq = wd at *
            go_wp2
            go_loopg [9] n2 (fun g2 vv wi => ∃ j : Nat, vv = .int .i64 j ∧ j ≤ n2 ∧ n2 - j ≤ g2 ∧ Hid (PA w wi b (off + i * 13) t r q da ds dn dc k nt nr pt pr s p v ax xs nx cx ∧ RowK .u8 wi a2 bs))
            case atStart => exact ⟨0, rfl, by omega, by omega, ⟨HP12.out, HR2x.out⟩⟩
            case round =>
              clear HP12 HR2x
              obtain ⟨j, rfl, hj4, hg2, HI⟩ := hrel
              have hn2b : n2 ≤ 918 := by have := HLN.out; have := HN2.out; omega
              by_cases hj : j < n2
              · have hjz : decide ((j : Int) < (n2 : Int)) = true := decide_eq_true (by omega)
                have hjy : (j : Int) < (n2 : Int) := by omega
                have hsl := fun W => slice_h W a2 n2 c2' j (j : Int) rfl (by have := HC2.out; have := HN2.out; omega)
                have hjn : j ≤ n2 := by omega
                have C6 := Lib.hid (opTake_any (partA a2 0 c2') (bs.take j) j c2' wr HI.out.1.tab (by rw [List.length_take]; have := HN2.out; omega) (HI.out.2.first j c2' HC2.out) (HIB.out.take j) (by rw [List.length_take]; have := HC2.out; omega) (by rw [List.length_take]; have := HLN.out; omega))
                rw [HCUT.out j (by have := HN2.out; omega)] at C6
                go_wp2_with fail
                refine (C6.out).mono ?_
                rintro e z3 ⟨a13, n13, c13, rfl, ho13, hb13⟩
                have HPj := Lib.hid ((HI.out.1.next hb13).box (.cells #[.int .i64 zR.t, .int .i64 zR.r, .int .i64 0, .slice a13 n13 c13, .int .i64 zR.k, .int .i64 zR.nt, .int .i64 zR.nr, .int .i64 zR.pt, .int .i64 zR.pr, .string zR.s, .int .i64 zR.p, .int .i64 zR.v] 28))
                have HRj := Lib.hid ((HI.out.2.below hb13 (Nat.le_refl _)).alloc (.cells #[.int .i64 zR.t, .int .i64 zR.r, .int .i64 0, .slice a13 n13 c13, .int .i64 zR.k, .int .i64 zR.nt, .int .i64 zR.nr, .int .i64 zR.pt, .int .i64 zR.pr, .string zR.s, .int .i64 zR.p, .int .i64 zR.v] 28))
                clear ho13 hb13 C6
                have CN7 := Lib.hid (fun W => num15_any 7 W)
                go_wp2_with fail
                generalize z3.alloc (.cells #[.int .i64 zR.t, .int .i64 zR.r, .int .i64 0, .slice a13 n13 c13, .int .i64 zR.k, .int .i64 zR.nt, .int .i64 zR.nr, .int .i64 zR.pt, .int .i64 zR.pr, .string zR.s, .int .i64 zR.p, .int .i64 zR.v] 28) = Z3 at *
                refine (CN7.out _).mono ?_
                rintro e z4 ⟨rfl, rfl⟩
                go_wp2
                go_roundg (n2 - (j + 1))
                case measure => omega
                case rel => exact ⟨j + 1, by go_num, by omega, by omega, ⟨HPj.out, HRj.out⟩⟩
              · have hjz : decide ((j : Int) < (n2 : Int)) = false := decide_eq_false (by omega)
                have hjy : ¬ (j : Int) < (n2 : Int) := by omega
                have HPt := Lib.hid HI.out.1
                obtain ⟨⟨⟨t1, r1, ds1, k1, nt1, nr1, pt1, pr1, s1, p1, v1⟩, q1, kk, ee⟩, hT⟩ : ∃ Z, tkO xs = Z := ⟨_, rfl⟩
                have HTK1 := Lib.hid hT
                have cx' := HPt.out.ask.x_
                have C2 := Lib.hid (opTake_any ax xs nx cx wr HPt.out.tab HPt.out.rows.xl HPt.out.rows.rx HPt.out.rows.isB HPt.out.rows.xc (by have := HPt.out.rows.xl; omega))
                rw [HTK1.out] at C2
                clear hT
                go_wp2_with fail
                refine (C2.out).mono ?_
                rintro e y3 ⟨a3, n3, c3', rfl, ho3, hb3⟩
                obtain ⟨hr3, hn3, _⟩ := RowK.ofOwn ho3
                have HPy := Lib.hid ((HPt.out.next hb3).box (.cells #[.int .i64 t1, .int .i64 r1, .int .i64 q1, .slice a3 n3 c3', .int .i64 k1, .int .i64 nt1, .int .i64 nr1, .int .i64 pt1, .int .i64 pr1, .string s1, .int .i64 p1, .int .i64 v1] 28))
                have HA3 := Lib.hid (OpAt.new y3 t1 r1 q1 a3 ds1 n3 c3' k1 nt1 nr1 pt1 pr1 s1 p1 v1)
                have HR3 := Lib.hid (hr3.alloc (.cells #[.int .i64 t1, .int .i64 r1, .int .i64 q1, .slice a3 n3 c3', .int .i64 k1, .int .i64 nt1, .int .i64 nr1, .int .i64 pt1, .int .i64 pr1, .string s1, .int .i64 p1, .int .i64 v1] 28))
                have HN3 := Lib.hid hn3
                clear ho3 hb3 hr3 hn3 C2 cx'
                have CN2 := Lib.hid (fun W => num15_any ee W)
                go_wp2_with fail
                generalize y3.alloc (.cells #[.int .i64 t1, .int .i64 r1, .int .i64 q1, .slice a3 n3 c3', .int .i64 k1, .int .i64 nt1, .int .i64 nr1, .int .i64 pt1, .int .i64 pr1, .string s1, .int .i64 p1, .int .i64 v1] 28) = Y3 at *
                generalize y3.heap.size = g3 at *
                refine (CN2.out _).mono ?_
                rintro e y4 ⟨rfl, rfl⟩
                by_cases hee : ee = 0
                · subst hee
                  have hbk := tkO_back HPy.out.rows.isB (by rw [HTK1.out])
                  rw [HTK1.out] at hbk
                  obtain ⟨bk1, bk2, bk3⟩ := hbk
                  have HK1 : Hid (opB t1 r1 q1 ds1 k1 nt1 nr1 pt1 pr1 s1 p1 v1 = true) := bk1
                  have HK2 : Hid (kk ≤ xs.length) := bk2
                  have HK3 : Hid (encO t1 r1 ds1 k1 nt1 nr1 pt1 pr1 s1 p1 v1 = xs.take kk) := bk3
                  clear bk1 bk2 bk3
                  have hdl : ds1.length ≤ 16 := by have := Hv.vecB_len (cntB_parts (opB_parts HK1.out).2.2.1).1; omega
                  obtain ⟨x0, x1, x2, x3, x4, x5, x6, x7, x8, x9, x10, x11⟩ := HA3.out
                  have C4 := Lib.hid (opBytes_yes t1 r1 q1 a3 ds1 n3 c3' k1 nt1 nr1 pt1 pr1 s1 p1 v1 Y3 HPy.out.tab HR3.out HN3.out (by omega) HK1.out)
                  rw [HK3.out] at C4
                  go_wp2_with fail
                  refine (C4.out).mono ?_
                  rintro e y5 ⟨v5, rfl, ho5, hb5⟩
                  obtain ⟨a5, n5, c5', rfl, hn5, hr5, hc5⟩ := ho5.form'
                  have HPz := Lib.hid (HPy.out.next hb5)
                  have cx' := HPz.out.ask.x_
                  have hsl := fun W => slice_h W ax nx cx kk (kk : Int) rfl (by have := HK2.out; have := HPz.out.rows.xc; omega)
                  have CQ := Lib.hid (eqB_bel a5 (partA ax 0 cx) (xs.take kk) n5 kk c5' cx y5 hr5 (HPz.out.rows.rx.first kk cx HPz.out.rows.xc) hn5 (by rw [List.length_take]; have := HK2.out; omega) (by rw [List.length_take]; have := HPz.out.rows.xl; omega))
                  have hkx : kk ≤ nx := by rw [HPz.out.rows.xl]; exact HK2.out
                  have CN3 := Lib.hid (fun W => num15_any 0 W)
                  clear ho5 hb5 hn5 hr5 hc5 C4 x0 x1 x2 x3 x4 x5 x6 x7 x8 x9 x10 x11 hdl
                  go_wp2_with fail
                  refine (CN3.out _).mono ?_
                  rintro e y6 ⟨rfl, rfl⟩
                  go_wp2_with fail
                  refine (CQ.out).mono ?_
                  rintro e y7 ⟨rfl, hb7⟩
                  have HPq := Lib.hid (HPz.out.next hb7)
                  clear hb7 CQ
                  go_wp2
                  go_roundg (12 - (i + 1))
                  case measure => omega
                  case rel => exact ⟨i + 1, by go_num, by omega, by omega, HPq.out.bel⟩
                · have hee' : (ee == 0) = false := by simpa using hee
                  go_wp2
                  go_roundg (12 - (i + 1))
                  case measure => omega
                  case rel => exact ⟨i + 1, by go_num, by omega, by omega, HPy.out.bel⟩)
      · have hiz : decide ((i : Int) < 12) = false := decide_eq_false (by omega)
        have hiy : ¬ (i : Int) < 12 := by omega
        go_wp2_with fail
        refine (wakes_op wr HT.out).mono ?_
        rintro e w1 ⟨rfl, hb1⟩
        have HB1 := Lib.hid (HB.out.trans (hb1.mono HB.out.size))
        clear hb1
        go_wp2
        go_ret
        exact ⟨rfl, HB1.out⟩
    · have hinz : decide ((i : Int) < (n : Int)) = false := decide_eq_false (by omega)
      have hiny : ¬ (i : Int) < (n : Int) := by omega
      go_wp2_with fail
      refine (wakes_op wr HT.out).mono ?_
      rintro e w1 ⟨rfl, hb1⟩
      have HB1 := Lib.hid (HB.out.trans (hb1.mono HB.out.size))
      clear hb1
      go_wp2
      go_ret
      exact ⟨rfl, HB1.out⟩
end Go.Proofs.YtknfpildkiekcaaDoor
