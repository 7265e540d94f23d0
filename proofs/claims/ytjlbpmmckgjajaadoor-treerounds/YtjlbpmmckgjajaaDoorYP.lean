/- Joined: TT2 TT3 TT4 TT5. -/
import Derived.Test.YtjlbpmmckgjajaaDoorYO
import Derived.Lib.AppendZerosOnto

/- Trees: rows of entries one behind the other (slices.Grow, slices.Concat). -/
namespace Go.Proofs.YtjlbpmmckgjajaaDoor
open Go.RowKit Go.Lib Go.Maps
set_option linter.unusedVariables false

theorem wpList_app {ops : Array Oper} {rest : List Oper} {o : Oper} {a : Act} {w w' : World} {Q : Exit → Act → World → Prop} (hgd : o.guard = none) (d s : Operand) (T1 T2 : TypeId)
    (ho : o.op = .call { callee := .builtin .append, args := #[d, s], argTypes := #[T1, T2] }) (v u : Value) (hd : a.eval d = v) (hs : a.eval s = u) {v' : Value}
    (hr : (Builtin.append_ #[T1, T2] o.type #[v, u]).run Tryd.prog w = .ok v' w') (h : wpList Tryd.prog ops Q rest (a.put o.dst v') w') : wpList Tryd.prog ops Q (o :: rest) a w := by
  refine wpList_plain hgd fun _ hK => ?_
  unfold Oper.wp execOp
  simp only [ho, resolve, invoke, builtin, Sem.run_bind, Sem.run_pure, Result.andThen_ok, List.map_toArray, List.map_cons, List.map_nil, hd, hs, hr]
  exact hK _ _ h
def GrowPost (w : World) (e : Ending) (w' : World) : Prop := ∃ (g c : Nat), e = .returned (.slice (some ⟨g, 0, none⟩) 0 c) ∧ OwnF 54 17 EV.enc w' w.heap.size (.slice (some ⟨g, 0, none⟩) 0 c) [] ∧ Below w.heap.size w w'
set_option maxHeartbeats 4000000 in
set_option maxRecDepth 100000 in
theorem grow_any (k : Nat) (w : World) (h0 : 1 ≤ k) (hk : k ≤ 1000) : Calls Tryd.prog 53 #[.slice none 0 0, .int .i64 (k : Int)] w (GrowPost w) := by
  have hinf : (Tryd.prog.info? 54).map (fun i => (i.zero, i.size, i.bytes)) = some (some (.agg #[.int .i64 0, .int .i64 0, .int .i64 0, .slice none 0 0, .int .i64 0, .int .i64 0, .int .i64 0, .int .i64 0, .int .i64 0, .string ⟨#[]⟩, .int .i64 0, .int .i64 0, .bool false, .int .i64 0, .int .i64 0, .string ⟨#[]⟩, .bool false]), 17, 168) := by kernel_rfl
  obtain ⟨i0, hi0, hz0, hzs, hzb⟩ := info_parts hinf
  obtain ⟨G, hG⟩ : ∃ G, grownCap w k 0 54 = G := ⟨_, rfl⟩
  have hGn : k ≤ G := by rw [← hG]; exact grownCap_ge w _ _ _
  have hGm : G ≤ maxLen := by rw [← hG]; exact grownCap_le_maxLen w k 0 _ (by unfold maxLen; omega)
  have hold : (Builtin.firstCells i0.size 0 (.slice none 0 0)).run Tryd.prog w.drew = .ok ([] : List Value).toArray w.drew := by simp [Builtin.firstCells]
  have hrz := fun ty => Lib.run_append_grow_zeros w 23 3 ty 54 i0 _ .i64 .i64 Tryd.underlying23 Tryd.underlying3 hi0 hz0 none 0 0 [] hold k (by omega) (by rw [hzs]; omega) (by omega) (by omega) (by rw [hzb]; omega) (by rw [hzb, Nat.zero_add]; exact growslice_fits (by omega) (by omega))
  simp only [Nat.zero_add, hG] at hrz
  obtain ⟨ROW, hROW⟩ : ∃ ROW : Array Value, ([] : List Value).toArray ++ Builtin.zeroCells (Value.agg #[.int .i64 0, .int .i64 0, .int .i64 0, .slice none 0 0, .int .i64 0, .int .i64 0, .int .i64 0, .int .i64 0, .int .i64 0, .string ⟨#[]⟩, .int .i64 0, .int .i64 0, .bool false, .int .i64 0, .int .i64 0, .string ⟨#[]⟩, .bool false]).cells k ++ Builtin.zeroCells (Value.agg #[.int .i64 0, .int .i64 0, .int .i64 0, .slice none 0 0, .int .i64 0, .int .i64 0, .int .i64 0, .int .i64 0, .int .i64 0, .string ⟨#[]⟩, .int .i64 0, .int .i64 0, .bool false, .int .i64 0, .int .i64 0, .string ⟨#[]⟩, .bool false]).cells (G - k) = ROW := ⟨_, rfl⟩
  rw [hROW] at hrz
  have hRs : ROW.size = G * 17 := by
    rw [← hROW]
    simp [Builtin.zeroCells, Value.cells]
    omega
  have HP : Hid (GrowPost w (.returned (.slice (some ⟨w.heap.size, 0, none⟩) 0 G)) (w.drew.alloc (.cells ROW 54))) := ⟨w.heap.size, G, rfl, World.ownsRow_made w.drew ROW G (Nat.le_refl _) hGm hRs, (Below.refl _ _).drew.trans (box_bel w.drew _)⟩
  have hs2 : ∀ W, (Instr.slice 23 (.slice (some ⟨w.heap.size, 0, none⟩) k G) none (some (.int .i64 0)) none).run Tryd.prog W = .ok (.slice (some ⟨w.heap.size, 0, none⟩) 0 G) W := fun W => by
    simp [Instr.slice, run_underlying Tryd.underlying23, Sem.run_bind, Result.andThen, go_sem]
  obtain ⟨w1, hw1⟩ : ∃ w1, w.drew.alloc (.cells ROW 54) = w1 := ⟨_, rfl⟩
  rw [hw1] at HP
  have hrz2 : ∀ ty, (Builtin.append_ #[23, 3] ty #[.slice none 0 0, .int .i64 (k : Int)]).run Tryd.prog w = .ok (.slice (some ⟨w.heap.size, 0, none⟩) k G) w1 := fun ty => by rw [hrz ty, ← hw1]
  have hkz : ¬ (k : Int) < 0 := by omega
  have hkp : (0 : Int) < (k : Int) := by omega
  clear hrz hROW hRs hold hG hGm hw1
  go_enter Tryd.func53, Tryd.ntmps53
  go_wp2_with (refine wpList_app rfl _ _ 23 3 rfl (.slice none 0 0) (.int .i64 (k : Int)) rfl rfl (hrz2 _) ?_)
  go_ret
  exact HP.out
def ConcatPost (w : World) (zs : List EV) (e : Ending) (w' : World) : Prop := ∃ v, e = .returned v ∧ OwnF 54 17 EV.enc w' w.heap.size v zs ∧ Below w.heap.size w w'
set_option maxHeartbeats 4000000 in
set_option maxRecDepth 100000 in
theorem concat_any (pb : Nat) (a1 : Option Addr) (n1 c1 : Nat) (a2 : Option Addr) (n2 c2 : Nat) (xs ys : List EV) (W : World) (h0 : W.cell? ⟨pb, 0, none⟩ = some (.slice a1 n1 c1)) (h1 : W.cell? ⟨pb, 1, none⟩ = some (.slice a2 n2 c2)) (hx : RowF 17 EV.enc W a1 xs) (hy : RowF 17 EV.enc W a2 ys) (hn1 : n1 = xs.length) (hn2 : n2 = ys.length) (hp : 1 ≤ n1 + n2) (hl : n1 + n2 ≤ 1000) :
    Calls Tryd.prog 28 #[.slice (some ⟨pb, 0, none⟩) 2 2] W (ConcatPost W (xs ++ ys)) := by
  have mixed : Tryd.prog.follows .mixedOrders = true := by kernel_rfl
  have HPB : Hid (pb < W.heap.size) := World.block_lt_of_cell? _ _ h0
  have HX := Lib.hid hx
  have HY := Lib.hid hy
  have HN1 := Lib.hid hn1
  have HN2 := Lib.hid hn2
  have HK : Hid (∀ w, Below W.heap.size W w → w.cell? ⟨pb, 0, none⟩ = some (.slice a1 n1 c1) ∧ w.cell? ⟨pb, 1, none⟩ = some (.slice a2 n2 c2)) := fun w hb => ⟨(hb.cell (p := ⟨pb, 0, none⟩) (World.block_lt_of_cell? _ _ h0)).trans h0, (hb.cell (p := ⟨pb, 1, none⟩) (World.block_lt_of_cell? _ _ h1)).trans h1⟩
  have C := Lib.hid (grow_any (n1 + n2) W hp hl)
  have hkz : ((n1 + n2 : Nat) : Int) = (n1 : Int) + (n2 : Int) := by omega
  rw [hkz] at C
  have hz1 : ¬ (n1 : Int) < 0 := by omega
  have hz2 : ¬ (n1 : Int) + (n2 : Int) < 0 := by omega
  have HLE1 : Hid ((([] : List EV).length + xs.length) * 168 ≤ 140737488355328) := by show _ ≤ _; simp only [List.length_nil]; omega
  have HLE2 : Hid (((([] : List EV) ++ xs).length + ys.length) * 168 ≤ 140737488355328) := by show _ ≤ _; simp only [List.nil_append]; omega
  clear hx hy hn1 hn2 hkz
  go_enter Tryd.func28, Tryd.ntmps28
  go_wp2
  refine wp_loop_rounds 3 ?_
  rw [rounds_succ]
  go_wp2
  rw [rounds_succ]
  go_wp2
  rw [rounds_succ]
  go_wp2_with (go_at_call 53
               (with_reducible refine (C.out).mono ?_)
               rintro e0 w1 ⟨g, c, rfl, ho1, hb1⟩
               have HO1 := Lib.hid ho1
               have HB1 := Lib.hid hb1
               obtain ⟨k0, k1⟩ := HK.out w1 hb1
               clear ho1 hb1)
  refine wp_loop_rounds 3 ?_
  rw [rounds_succ]
  go_wp2_with (at_builtin
               refine wpF_row flatE rfl _ _ rfl W.heap.size w1 w1 (World.grownBy.refl _ _) (.slice (some ⟨g, 0, none⟩) 0 c) [] xs a1 n1 c1 rfl HO1.out rfl HN1.out (HX.out.next flatE HB1.out) HLE1.out HB1.out.size ?_
               intro v2 w2 hp2
               have HO2 := Lib.hid hp2.own
               have HB2 : Hid (Below W.heap.size W w2) := hp2.bel HB1.out (Nat.le_refl _) HB1.out.size
               obtain ⟨m0, m1⟩ := HK.out w2 HB2.out
               clear hp2)
  rw [rounds_succ]
  go_wp2_with (at_builtin
               refine wpF_row flatE rfl _ _ rfl W.heap.size w2 w2 (World.grownBy.refl _ _) v2 ([] ++ xs) ys a2 n2 c2 rfl HO2.out rfl HN2.out (HY.out.next flatE HB2.out) HLE2.out HB2.out.size ?_
               intro v3 w3 hp3
               have HO3 := Lib.hid hp3.own
               have HB3 : Hid (Below W.heap.size W w3) := hp3.bel HB2.out (Nat.le_refl _) HB2.out.size
               clear hp3)
  rw [rounds_succ]
  go_wp2
  go_ret
  exact ⟨_, rfl, HO3.out, HB3.out⟩
end Go.Proofs.YtjlbpmmckgjajaaDoor

/- Trees: Apply: words. -/
namespace Go.Proofs.YtjlbpmmckgjajaaDoor
open Go.RowKit Go.Lib Go.Maps
set_option linter.unusedVariables false

theorem sliceE_l (w : World) (a : Option Addr) (len cap l : Nat) (h1 : l ≤ len) :
    (Instr.slice 23 (.slice a len cap) (some (.int .i64 (l : Int))) none none).run Tryd.prog w = .ok (.slice (partF 17 a l cap) (len - l) (cap - l)) w := by
  have ht' : Tryd.prog.underlying 23 = some (.slice (Tryd.prog.elem 23)) := by simp [Program.elem, Tryd.underlying23]
  have he : Tryd.prog.elem 23 = 54 := by simp [Program.elem, Tryd.underlying23]
  rw [run_slice_l w 23 _ _ _ ht' .i64 _ (by omega) (by omega), he, sizeE]
  simp [Result.andThen, sliced, partF]
theorem sliceE_h (w : World) (a : Option Addr) (len cap h : Nat) (h1 : h ≤ cap) :
    (Instr.slice 23 (.slice a len cap) none (some (.int .i64 (h : Int))) none).run Tryd.prog w = .ok (.slice (partF 17 a 0 cap) h cap) w := by
  have ht' : Tryd.prog.underlying 23 = some (.slice (Tryd.prog.elem 23)) := by simp [Program.elem, Tryd.underlying23]
  have he : Tryd.prog.elem 23 = 54 := by simp [Program.elem, Tryd.underlying23]
  rw [run_slice_h w 23 _ _ _ ht' .i64 _ (by omega) (by omega), he, sizeE]
  simp [Result.andThen, sliced, partF]
/-- what each call of Apply tells -/
def AppYes (W : World) (l : List OpD) (e : Ending) (w' : World) : Prop :=
  ∃ (na : Option Addr) (nn nc : Nat) (ma : Option Addr) (mn mc : Nat) (zs : List EV), e = .returned (.tuple #[valT na nn nc ma mn mc, .int .i64 0]) ∧ OwnF 44 5 ND.enc w' W.heap.size (.slice na nn nc) (nodesG l) ∧ OwnF 54 17 EV.enc w' W.heap.size (.slice ma mn mc) zs ∧ entsY zs = entsG l ∧ DepsF w' W.heap.size zs
def ApplyPost (W : World) (ns : List ND) (es : List ED) (o : OpD) (e : Ending) (w' : World) : Prop :=
  Below W.heap.size W w' ∧
  ((¬ (TreeP ns es ∧ moveB o = true) ∧ e = .returned (.tuple #[valT none 0 0 none 0 0, .int .i64 1])) ∨
   (TreeP ns es ∧ moveB o = true ∧ hereS (opsE es) o = true ∧ e = .returned (.tuple #[valT none 0 0 none 0 0, .int .i64 4])) ∨
   (TreeP ns es ∧ moveB o = true ∧ hereS (opsE es) o = false ∧ ∃ p, PosS (opsE es) o p ∧ AppYes W (insS (opsE es) o p) e w'))
theorem apply_results (tmps : Array Value) (b : Addr) (x : Value) (hp : tmps.getD 4 undef = .pointer (some b)) (hx : tmps.getD 5 undef = x) {w : World} {v : Value} (hv : (loadVar 25 b).run Tryd.prog w = .ok v w) : (results Tryd.f8 tmps).run Tryd.prog w = .ok (.tuple #[v, x]) w := by
  have hp2 : tmps[4]?.getD undef = .pointer (some b) := by rw [← hp]; simp
  have hx2 : tmps[5]?.getD undef = x := by rw [← hx]; simp
  simp [results, Tryd.results8, hp2, hx2, asAddr, hv, Result.andThen]
/-- a tree's two cells written over -/
theorem two_set {w : World} {g : Nat} {c d : Value} (h : Blk w g [c, d]) (s v : Value) : (loadVar 25 ⟨g, 0, none⟩).run Tryd.prog ((w.setCell ⟨g, 0, none⟩ s).setCell ⟨g, 1, none⟩ v) = .ok (.agg #[s, v]) ((w.setCell ⟨g, 0, none⟩ s).setCell ⟨g, 1, none⟩ v) :=
  loadVar_is aggT sizeT rfl ((h.set 0 s).set 1 v).cells
theorem two_grown (w : World) (g : Nat) (s v : Value) : w.grownBy ((w.setCell ⟨g, 0, none⟩ s).setCell ⟨g, 1, none⟩ v) (some g) := (grown_setCell w ⟨g, 0, none⟩ s).trans (grown_setCell _ ⟨g, 1, none⟩ v)
theorem two_bel {a w : World} {B g : Nat} (h : Below B a w) (hg : B ≤ g) (s v : Value) : Below B a ((w.setCell ⟨g, 0, none⟩ s).setCell ⟨g, 1, none⟩ v) := (h.setCell (p := ⟨g, 0, none⟩) hg s).setCell (p := ⟨g, 1, none⟩) hg v
/-- what an old tree and a move are parted into -/
theorem part_ents {ns : List ND} {es : List ED} (h : TreeP ns es) (p : Nat) (hp : p ≤ es.length) : es.drop p = (madeG ((opsE es).drop p) (nodesG ((opsE es).take p))).2 ∧ es.take p = entsG ((opsE es).take p) := by
  have e1 : (opsE es).take p ++ (opsE es).drop p = opsE es := List.take_append_drop _ _
  have h1 := h.ent
  have hl : ((opsE es).take p).length = p := by simp; omega
  constructor
  · have h2 := ents_drop ((opsE es).take p) ((opsE es).drop p)
    rw [e1, h1, hl] at h2
    exact h2
  · have h2 := ents_take ((opsE es).take p) ((opsE es).drop p)
    rw [e1, h1, hl] at h2
    exact h2
theorem ins_ents {l : List OpD} {o : OpD} {p : Nat} : entsG (insS l o p) = entsG (l.take p) ++ (madeG (o :: l.drop p) (nodesG (l.take p))).2 := by
  unfold insS
  exact ents_app _ _
theorem putN_key {ns : List ND} {n : ND} {K : Nat} (h : ∀ x ∈ ns, x.key.size ≤ K) (hn : n.key.size ≤ K) : ∀ x ∈ putN ns n, x.key.size ≤ K := fun x hx => by
  rcases putN_mem hx with rfl | hx
  · exact hn
  · exact h x hx
theorem made_key : ∀ (l : List OpD) {ns : List ND}, (∀ x ∈ ns, x.key.size ≤ 64) → AllM l → (∀ x ∈ (madeG l ns).1, x.key.size ≤ 64) ∧ (∀ y ∈ (madeG l ns).2, y.key.size ≤ 64)
  | [], _, h, _ => ⟨h, fun y hy => by simp [madeG] at hy⟩
  | o :: l, ns, h, hl => by
    have hd : ∀ x ∈ doneG ns o, x.key.size ≤ 64 := by
      unfold doneG
      split
      · exact h
      · exact putN_key h (moveB_key (hl o (List.mem_cons_self ..)))
    obtain ⟨h1, h2⟩ := made_key l hd fun x hx => hl x (List.mem_cons_of_mem _ hx)
    refine ⟨h1, fun y hy => ?_⟩
    rw [madeG] at hy
    rcases List.mem_cons.1 hy with rfl | hy
    · unfold entG
      cases hf : findN ns (nodeO o) with
      | none => show (ByteArray.size ⟨#[]⟩) ≤ 64; decide
      | some n => exact h n (find_mem hf).1
    · exact h2 y hy
theorem allM_ins {l : List OpD} {o : OpD} {p : Nat} (h : AllM l) (ho : moveB o = true) : AllM (insS l o p) := fun x hx => by
  rcases insS_mem.1 hx with rfl | hx
  · exact ho
  · exact h x hx
theorem TreeP.allM {ns : List ND} {es : List ED} (h : TreeP ns es) : AllM (opsE es) := fun o ho => by
  obtain ⟨e, he, rfl⟩ := List.mem_map.1 ho
  exact h.mv e he
theorem ents_ok {l : List OpD} (h : AllM l) {e : ED} (he : e ∈ entsG l) : moveB e.op = true ∧ e.key.size ≤ 65536 := by
  have h1 := (made_key l (ns := []) (fun x hx => by simp at hx) h).2 e he
  refine ⟨h e.op ?_, by omega⟩
  have h2 := madeG_ops l []
  rw [← h2]
  exact List.mem_map.2 ⟨e, he, rfl⟩
theorem nodes_key {l : List OpD} (h : AllM l) : ∀ n ∈ nodesG l, n.key.size ≤ 65536 := fun n hn => by
  have := (made_key l (ns := []) (fun x hx => by simp at hx) h).1 n hn
  omega
theorem AppYes.mk' {W w9 w10 : World} {q : Nat} {l : List OpD} {na : Option Addr} {nn nc : Nat} {ma : Option Addr} {mn mc : Nat} {zs : List EV} (hoN : OwnF 44 5 ND.enc w10 w9.heap.size (.slice na nn nc) (nodesG l)) (hoE : OwnF 54 17 EV.enc w10 w9.heap.size (.slice ma mn mc) zs) (heZ : entsY zs = entsG l) (hdZ : DepsF w10 w9.heap.size zs) (hq : q < w9.heap.size) (hW : W.heap.size ≤ w9.heap.size) :
    AppYes W l (.returned (.tuple #[valT na nn nc ma mn mc, .int .i64 0])) ((w10.setCell ⟨q, 0, none⟩ (.slice na nn nc)).setCell ⟨q, 1, none⟩ (.slice ma mn mc)) := by
  have g3 := two_grown w10 q (.slice na nn nc) (.slice ma mn mc)
  have hne : ∀ v : Value, (∀ b, v.ownBlock = some b → w9.heap.size ≤ b) → v.ownBlock = none ∨ v.ownBlock ≠ some q := fun v hv => by
    cases e : v.ownBlock with
    | none => exact .inl rfl
    | some b => exact .inr fun e2 => by injection e2 with e2; have := hv b e; omega
  refine ⟨na, nn, nc, ma, mn, mc, zs, rfl, (hoN.grown g3 (hne _ fun b e => (hoN.lt e).1)).mono hW, (hoE.grown g3 (hne _ fun b e => (hoE.lt e).1)).mono hW, heZ, fun y hy => ?_⟩
  obtain ⟨h1, h2, h3⟩ := hdZ y hy
  exact ⟨h1, (h2.grown g3 (hne _ fun b e => (h2.lt e).1)).mono hW, h3⟩
end Go.Proofs.YtjlbpmmckgjajaaDoor

/- Trees: Apply: the walk. -/
namespace Go.Proofs.YtjlbpmmckgjajaaDoor
open Go.RowKit Go.Lib Go.Maps
set_option linter.unusedVariables false

theorem opsY_ents (ys : List EV) : opsY ys = opsE (entsY ys) := by simp [opsY, opsE, entsY]
set_option maxHeartbeats 8000000 in
set_option maxRecDepth 100000 in
theorem apply_any (na : Option Addr) (ns : List ND) (nn nc : Nat) (ma : Option Addr) (ys : List EV) (mn mc : Nat) (o : OpD) (d : DV) (W : World) (ht : Pr.Tab W) (h : TrR W na ns nn ma ys mn) (hmc : mn ≤ mc) (hd : DepK W o d) (hl : ys.length ≤ 160) :
    Calls Tryd.prog 8 #[valT na nn nc ma mn mc, valOy o d] W (ApplyPost W ns (entsY ys) o) := by
  have mixed : Tryd.prog.follows .mixedOrders = true := by kernel_rfl
  obtain ⟨oa, on, oc⟩ := d
  obtain ⟨g, hg⟩ : ∃ g, W.heap.size = g := ⟨_, rfl⟩
  obtain ⟨es, hes⟩ : ∃ es, entsY ys = es := ⟨_, rfl⟩
  obtain ⟨W3, hW3⟩ : ∃ W3, ((W.alloc (objT na nn nc ma mn mc)).alloc (objO o oa on oc)).alloc zTr = W3 := ⟨_, rfl⟩
  have HB3 : Hid (Below W.heap.size W W3) := by
    show Below _ _ _
    rw [← hW3]
    exact (box_bel W _).trans (((box_bel _ (objO o oa on oc)).mono (by simp)).trans ((box_bel _ zTr).mono (by simp; omega)))
  have HS3 : Hid (W3.heap.size = g + 3) := by show _ = _; rw [← hW3]; simp [hg]
  have HT3 : Hid (Blk W3 g [.slice na nn nc, .slice ma mn mc]) := by
    show Blk _ _ _
    rw [← hW3, ← hg]
    exact ((objT_new W na nn nc ma mn mc).next (box_bel _ (objO o oa on oc))).next (box_bel _ zTr)
  have HO3 : Hid (Blk W3 (g + 1) (o.1.cells o.2 (.slice oa on oc))) := by
    have h1 := (blkX_new (W.alloc (objT na nn nc ma mn mc)) o oa on oc).next (box_bel _ zTr)
    rw [hW3, World.size_alloc, hg] at h1
    exact h1
  have HZ3 : Hid (Blk W3 (g + 2) [.slice none 0 0, .slice none 0 0]) := by
    have h1 := zTr_new ((W.alloc (objT na nn nc ma mn mc)).alloc (objO o oa on oc))
    rw [hW3, World.size_alloc, World.size_alloc, hg] at h1
    exact h1
  have HTT : Hid (∀ w, Below W3.heap.size W3 w → Blk w g [.slice na nn nc, .slice ma mn mc]) := fun w hb => HT3.out.next hb
  have HZZ : Hid (∀ w, Below W3.heap.size W3 w → Blk w (g + 2) [.slice none 0 0, .slice none 0 0]) := fun w hb => HZ3.out.next hb
  have HTR := Lib.hid (h.next HB3.out)
  have HTB := Lib.hid (ht.below HB3.out ht.lt)
  have HD3 := Lib.hid (hd.below HB3.out)
  have CG := Lib.hid (grown_any na ns nn nc ma ys mn mc W3 HTB.out HTR.out (by omega))
  rw [hes] at CG ⊢
  have HES := Lib.hid hes
  have HLY := Lib.hid hl
  have HML := Lib.hid h.ml
  have hmn : mn ≤ 160 := by rw [h.ml]; exact hl
  have HEL : Hid (es.length = mn) := by show _ = _; rw [← hes, entsY_len, h.ml]
  have HG := Lib.hid hg
  have t0 := HT3.out.cell 0 _ rfl
  have t1 := HT3.out.cell 1 _ rfl
  clear h ht hd hl hes
  go_enter Tryd.func8, Tryd.ntmps8
  go_wp2_with fail
  clear hW3 hg t0 t1
  refine (CG.out).mono ?_
  rintro e0 w1 ⟨hb1, hcase⟩
  have HB1 : Hid (Below W3.heap.size W3 w1) := hb1
  have HZ1 : Hid (Blk w1 (g + 2) [.slice none 0 0, .slice none 0 0]) := HZ3.out.next hb1
  clear hb1 CG
  rcases hcase with ⟨hT, fp, bm, sv, ps, sp, rfl, hfr, hfm, hln⟩ | ⟨hT, rfl⟩
  · have HTP := Lib.hid hT
    have HFR := Lib.hid hfr
    have HFM := Lib.hid hfm
    have HLN := Lib.hid hln
    have HO1 : Hid (Blk w1 (g + 1) (o.1.cells o.2 (.slice oa on oc))) := HO3.out.next HB1.out
    have HT1 : Hid (Blk w1 g [.slice na nn nc, .slice ma mn mc]) := HT3.out.next HB1.out
    have HBW1 : Hid (Below W.heap.size W w1) := HB3.out.trans (HB1.out.mono HB3.out.size)
    have CI := Lib.hid (isMove_any o ⟨oa, on, oc⟩ w1 (HTB.out.below HB1.out HTB.out.lt) (HD3.out.below HB1.out))
    have hbt : ∀ w, (Instr.build 25 #[]).run Tryd.prog w = .ok (.agg #[.slice none 0 0, .slice none 0 0]) w := fun w => run_build w 25 _ _ (by kernel_rfl)
    clear hT hfr hfm hln
    have e0 := HO1.out.cell 0 _ rfl
    have e1 := HO1.out.cell 1 _ rfl
    have e2 := HO1.out.cell 2 _ rfl
    have e3 := HO1.out.cell 3 _ rfl
    have e4 := HO1.out.cell 4 _ rfl
    have e5 := HO1.out.cell 5 _ rfl
    have e6 := HO1.out.cell 6 _ rfl
    have e7 := HO1.out.cell 7 _ rfl
    have e8 := HO1.out.cell 8 _ rfl
    have e9 := HO1.out.cell 9 _ rfl
    have e10 := HO1.out.cell 10 _ rfl
    have e11 := HO1.out.cell 11 _ rfl
    go_wp2_with fail
    clear e0 e1 e2 e3 e4 e5 e6 e7 e8 e9 e10 e11
    refine (CI.out).mono ?_
    rintro e0 w2 ⟨rfl, hb2⟩
    have HB2 : Hid (Below w1.heap.size w1 w2) := hb2
    have HZ2 : Hid (Blk w2 (g + 2) [.slice none 0 0, .slice none 0 0]) := HZ1.out.next hb2
    have HO2 : Hid (Blk w2 (g + 1) (o.1.cells o.2 (.slice oa on oc))) := HO1.out.next hb2
    have HT2 : Hid (Blk w2 g [.slice na nn nc, .slice ma mn mc]) := HT1.out.next hb2
    have HBW2 : Hid (Below W.heap.size W w2) := HBW1.out.trans (hb2.mono HBW1.out.size)
    clear hb2 CI HO1 HT1 HZ1 HO3 HT3 HZ3
    cases hmv : moveB o
    · have HMV := Lib.hid hmv
      clear hmv
      have z0 := HZ2.out.cell 0 _ rfl
      have z1 := HZ2.out.cell 1 _ rfl
      have f0 := HZ2.out.free 0 _ rfl
      have f1 := HZ2.out.free 1 _ rfl
      have HE := Lib.hid (two_set HZ2.out (.slice none 0 0) (.slice none 0 0))
      have HBE : Hid (Below W.heap.size W ((w2.setCell ⟨g + 2, 0, none⟩ (.slice none 0 0)).setCell ⟨g + 2, 1, none⟩ (.slice none 0 0))) := two_bel HBW2.out (by have := HG.out; omega) _ _
      go_wp2
      refine bodyPost_ret (apply_results _ ⟨g + 2, 0, none⟩ _ rfl rfl HE.out) rfl ?_
      exact ⟨HBE.out, .inl ⟨fun h => (by have h1 := h.2; rw [HMV.out] at h1; cases h1), rfl⟩⟩
    · have HMV := Lib.hid hmv
      clear hmv
      have hlo2 : (loadVar 39 ⟨g + 1, 0, none⟩).run Tryd.prog w2 = .ok (valO o oa on oc) w2 := loadVar_is aggO sizeO rfl HO2.out.cells
      have t1 := HT2.out.cell 1 _ rfl
      have HB12 : Hid (Below W3.heap.size W3 w2) := HB1.out.trans (HB2.out.mono HB1.out.size)
      have CS := Lib.hid (search_any ma ys mn mc o oa on oc w2 (HTR.out.mr.next HB12.out) HML.out (by omega) (by rw [opsY_ents, HES.out]; exact HTP.out.asc))
      rw [opsY_ents, HES.out] at CS
      go_wp2_with (refine wpList_loadS rfl _ 39 rfl (g + 1) 0 rfl _ hlo2 ?_)
      clear hlo2 t1
      refine (CS.out).mono ?_
      rintro e0 w3 ⟨p, rfl, hp, hb3⟩
      have HP := Lib.hid hp
      have HB23 : Hid (Below w2.heap.size w2 w3) := hb3
      have HZ4 : Hid (Blk w3 (g + 2) [.slice none 0 0, .slice none 0 0]) := HZ2.out.next hb3
      have HO4 : Hid (Blk w3 (g + 1) (o.1.cells o.2 (.slice oa on oc))) := HO2.out.next hb3
      have HT4 : Hid (Blk w3 g [.slice na nn nc, .slice ma mn mc]) := HT2.out.next hb3
      have HBW3 : Hid (Below W.heap.size W w3) := HBW2.out.trans (hb3.mono HBW2.out.size)
      have HB34 : Hid (Below W3.heap.size W3 w3) := HB12.out.trans (hb3.mono HB12.out.size)
      have HFR4 := Lib.hid ((HFR.out.next HB2.out).next HB23.out)
      clear hb3 CS HO2 HT2 HZ2 hp HFR HB2 HB23 HB12
      cases hh : hereS (opsE es) o
      · have HH := Lib.hid hh
        clear hh
        have hpm : p ≤ mn := by
          have h1 := HP.out.1
          have h2 := HEL.out
          simp only [opsE, List.length_map] at h1
          omega
        have HRA : Hid (RowM W3 (partF 17 ma 0 mc) (ys.take p)) := by
          have h1 := (HTR.out.mr.rest 0 mc (by have := HML.out; omega)).first p
          rwa [List.drop_zero] at h1
        have HRB : Hid (RowM W3 (partF 17 ma p mc) (ys.drop p)) := HTR.out.mr.rest p mc (by have := HML.out; omega)
        have s36 : ∀ w, (Instr.slice 23 (.slice ma mn mc) none (some (.int .i64 (p : Int))) none).run Tryd.prog w = .ok (.slice (partF 17 ma 0 mc) p mc) w := fun w => sliceE_h w ma mn mc p (by omega)
        have s41 : ∀ w, (Instr.slice 23 (.slice ma mn mc) (some (.int .i64 (p : Int))) none none).run Tryd.prog w = .ok (.slice (partF 17 ma p mc) (mn - p) (mc - p)) w := fun w => sliceE_l w ma mn mc p hpm
        have HAB : Hid ((opsE es).take p ++ (opsE es).drop p = opsE es) := List.take_append_drop _ _
        have HPE := Lib.hid (part_ents HTP.out p (by have := HEL.out; omega))
        have HNG : Hid (nodesG (opsE es) = ns) := HTP.out.nds
        have HAL := Lib.hid HTP.out.allM
        have CIn := Lib.hid (insert_any W3 w3.drew fp bm sv ps sp (partF 17 ma p mc) (ys.drop p) (mn - p) (mc - p) ((opsE es).take p) ((opsE es).drop p) o ⟨oa, on, oc⟩ HRB.out (by have := HML.out; rw [List.length_drop]; omega) (by rw [← HPE.out.1, ← HES.out]; simp [entsY, List.map_drop]) HB34.out.drew (HFR4.out.next (Below.refl _ _).drew) (by rw [HAB.out, HNG.out]; exact HFM.out) (by have h1 := HLN.out; have h2 := HEL.out; omega) (fun x hx => HAL.out x (List.mem_of_mem_take hx)) (fun x hx => HAL.out x (List.mem_of_mem_drop hx)) HMV.out HD3.out)
        obtain ⟨pa0, hpa0⟩ : ∃ pa0, partF 17 ma 0 mc = pa0 := ⟨_, rfl⟩
        obtain ⟨pa1, hpa1⟩ : ∃ pa1, partF 17 ma p mc = pa1 := ⟨_, rfl⟩
        rw [hpa0] at HRA s36
        rw [hpa1] at s41 CIn
        obtain ⟨q1, hq1⟩ : ∃ q1, mn - p = q1 := ⟨_, rfl⟩
        obtain ⟨q2, hq2⟩ : ∃ q2, mc - p = q2 := ⟨_, rfl⟩
        rw [hq1, hq2] at s41 CIn
        have HPM := Lib.hid hpm
        have HQ1 := Lib.hid hq1
        have HK4 : Hid (∀ w, Below w3.heap.size w3 w → w.cell? ⟨g, 1, none⟩ = some (.slice ma mn mc)) := fun w hb => (HT4.out.next hb).cell 1 _ rfl
        have k0 := HK4.out w3.drew (Below.refl _ _).drew
        have hO4 := HO4.out.drew
        have e0 := hO4.cell 0 _ rfl
        have e1 := hO4.cell 1 _ rfl
        have e2 := hO4.cell 2 _ rfl
        have e3 := hO4.cell 3 _ rfl
        have e4 := hO4.cell 4 _ rfl
        have e5 := hO4.cell 5 _ rfl
        have e6 := hO4.cell 6 _ rfl
        have e7 := hO4.cell 7 _ rfl
        have e8 := hO4.cell 8 _ rfl
        have e9 := hO4.cell 9 _ rfl
        have e10 := hO4.cell 10 _ rfl
        have e11 := hO4.cell 11 _ rfl
        clear hpa0 hpa1 hq1 hq2 hO4
        go_upto_region 7 with fail
        go_region_law (first
          | (go_simp
             go_at_call 29
             (with_reducible refine (CIn.out).mono ?_)
             rintro e0 w7 ⟨v7, zs7, sv7, ps7, sp7, rfl, ho7, he7, hd7, hf7, hm7, hb7⟩
             obtain ⟨a7, n7, c7, rfl, hn7, -, hr7, -⟩ := ho7.form flatE
             have HN7 := Lib.hid hn7
             have HE7 := Lib.hid he7
             have HD7 := Lib.hid hd7
             have HF7 := Lib.hid hf7
             have HM7 := Lib.hid hm7
             have HB7 := Lib.hid hb7
             have HR7 := Lib.hid hr7
             have h7k : ∀ o : Obj, (w7.alloc o).cell? ⟨g, 1, none⟩ = some (.slice ma mn mc) := fun o => (HTT.out (w7.alloc o) (hb7.trans ((box_bel w7 o).mono hb7.size))).cell 1 _ rfl
             have h7c : w7.cell? ⟨g, 1, none⟩ = some (.slice ma mn mc) := (HTT.out w7 hb7).cell 1 _ rfl
             have hzl : zs7.length = q1 + 1 := by
               have h1 := congrArg List.length he7
               rw [entsY_len, madeG_len, List.length_cons, List.length_drop] at h1
               have h2 := HEL.out
               have h3 := HQ1.out
               simp only [opsE, List.length_map] at h1
               omega
             have HZL := Lib.hid hzl
             have HEN : Hid (entsY (ys.take p ++ zs7) = entsG (insS (opsE es) o p)) := by
               show _ = _
               rw [entsY_app, he7, ins_ents, ← HPE.out.2, ← HES.out]
               simp [entsY, List.map_take]
             have CC := Lib.hid (concat_any w7.heap.size pa0 p mc a7 n7 c7 (ys.take p) zs7 (w7.alloc (.cells #[.slice pa0 p mc, .slice a7 n7 c7] 23)) (by simp) (by simp) (HRA.out.row.next flatE (hb7.trans ((box_bel w7 _).mono hb7.size))) (hr7.next flatE (box_bel w7 _)) (by have := HML.out; rw [List.length_take]; omega) hn7 (by omega) (by have h3 := HQ1.out; have h4 := HPM.out; omega))
             clear hzl ho7 he7 hd7 hf7 hm7 hb7 hn7 hr7)
          | (go_simp
             go_at_call 28
             (with_reducible refine (CC.out).mono ?_)
             rintro e0 w9 ⟨v9, rfl, ho9, hb9⟩
             obtain ⟨a9, n9, c9, rfl, hn9, -, hr9, -⟩ := ho9.form flatE
             have HB9 := Lib.hid hb9
             have HB79 : Hid (Below w7.heap.size w7 w9) := (box_bel w7 _).trans (hb9.mono (by simp))
             have HB39 : Hid (Below W3.heap.size W3 w9) := HB7.out.trans (HB79.out.mono HB7.out.size)
             have HALI : Hid (AllM (insS (opsE es) o p)) := allM_ins HAL.out HMV.out
             have CT := Lib.hid (tree_any w9 W3.heap.size fp bm sv7 ps7 sp7 (nodesG ((opsE es).take p ++ o :: (opsE es).drop p)) a9 (ys.take p ++ zs7) n9 c9 (HF7.out.next HB79.out) HM7.out (nodes_key HALI.out) (by have h1 := nodes_len ((opsE es).take p ++ o :: (opsE es).drop p); have h2 := HEL.out; rw [List.length_append, List.length_cons, List.length_take, List.length_drop] at h1; simp only [opsE, List.length_map] at h1 ⊢; omega) ⟨hr9, fun y hy => by
               rcases List.mem_append.1 hy with hy | hy
               · exact (HRA.out.dep y hy).below HB39.out
               · exact (HD7.out y hy).below HB39.out⟩ hn9 (by have h1 := HZL.out; have h3 := HQ1.out; rw [hn9, List.length_append, List.length_take]; omega) (fun y hy => ents_ok HALI.out (by rw [← HEN.out]; exact List.mem_map.2 ⟨y, hy, rfl⟩)))
             have HN9 := Lib.hid hn9
             clear ho9 hb9 hn9 hr9)
          | (go_simp
             go_at_call 27
             (with_reducible refine (CT.out).mono ?_)
             rintro e0 w10 ⟨na2, nn2, nc2, ma2, mn2, mc2, zs2, rfl, hoN, hoE, heZ, hdZ, hb10⟩
             have HON := Lib.hid hoN
             have HOE := Lib.hid hoE
             have HEZ := Lib.hid heZ
             have HDZ := Lib.hid hdZ
             have HB10 := Lib.hid hb10
             have HZ10 : Hid (Blk w10 (g + 2) [.slice none 0 0, .slice none 0 0]) := HZZ.out w10 (HB39.out.trans (hb10.mono HB39.out.size))
             have z0 := HZ10.out.cell 0 _ rfl
             have z1 := HZ10.out.cell 1 _ rfl
             have f0 := HZ10.out.free 0 _ rfl
             have f1 := HZ10.out.free 1 _ rfl
             clear hoN hoE heZ hdZ hb10))
        all_goals
          have HE := Lib.hid (two_set HZ10.out (.slice na2 nn2 nc2) (.slice ma2 mn2 mc2))
          go_wp2
          refine bodyPost_ret (apply_results _ ⟨g + 2, 0, none⟩ _ rfl rfl HE.out) rfl ?_
          exact ⟨two_bel (HB3.out.trans ((HB39.out.trans (HB10.out.mono HB39.out.size)).mono HB3.out.size)) (by have := HG.out; omega) _ _, .inr (.inr ⟨HTP.out, HMV.out, HH.out, p, HP.out, AppYes.mk' HON.out HOE.out (by rw [HEZ.out]; exact HEN.out) HDZ.out (by have h1 := HB39.out.size; have h2 := HS3.out; omega) (Nat.le_trans HB3.out.size HB39.out.size)⟩)⟩
      · have HH := Lib.hid hh
        clear hh
        have z0 := HZ4.out.cell 0 _ rfl
        have z1 := HZ4.out.cell 1 _ rfl
        have f0 := HZ4.out.free 0 _ rfl
        have f1 := HZ4.out.free 1 _ rfl
        have HE := Lib.hid (two_set HZ4.out (.slice none 0 0) (.slice none 0 0))
        have HBE : Hid (Below W.heap.size W ((w3.setCell ⟨g + 2, 0, none⟩ (.slice none 0 0)).setCell ⟨g + 2, 1, none⟩ (.slice none 0 0))) := two_bel HBW3.out (by have := HG.out; omega) _ _
        go_wp2
        refine bodyPost_ret (apply_results _ ⟨g + 2, 0, none⟩ _ rfl rfl HE.out) rfl ?_
        exact ⟨HBE.out, .inr (.inl ⟨HTP.out, HMV.out, HH.out, rfl⟩)⟩
  · have HTP := Lib.hid hT
    have z0 := HZ1.out.cell 0 _ rfl
    have z1 := HZ1.out.cell 1 _ rfl
    have f0 := HZ1.out.free 0 _ rfl
    have f1 := HZ1.out.free 1 _ rfl
    have HE := Lib.hid (two_set HZ1.out (.slice none 0 0) (.slice none 0 0))
    have HBE : Hid (Below W.heap.size W ((w1.setCell ⟨g + 2, 0, none⟩ (.slice none 0 0)).setCell ⟨g + 2, 1, none⟩ (.slice none 0 0))) := two_bel (HB3.out.trans (HB1.out.mono HB3.out.size)) (by have := HG.out; omega) _ _
    have hbt : ∀ w, (Instr.build 25 #[]).run Tryd.prog w = .ok (.agg #[.slice none 0 0, .slice none 0 0]) w := fun w => run_build w 25 _ _ (by kernel_rfl)
    clear hT
    go_wp2
    refine bodyPost_ret (apply_results _ ⟨g + 2, 0, none⟩ _ rfl rfl HE.out) rfl ?_
    exact ⟨HBE.out, .inl ⟨fun h => HTP.out h.1, rfl⟩⟩
end Go.Proofs.YtjlbpmmckgjajaaDoor

/- Trees: Check, Find. -/
namespace Go.Proofs.YtjlbpmmckgjajaaDoor
open Go.RowKit Go.Lib Go.Maps
set_option linter.unusedVariables false

def CheckPost (W : World) (ns : List ND) (es : List ED) (e : Ending) (w' : World) : Prop := Below W.heap.size W w' ∧ ((TreeP ns es ∧ e = .returned (.int .i64 0)) ∨ (¬ TreeP ns es ∧ e = .returned (.int .i64 1)))
set_option maxHeartbeats 2000000 in
set_option maxRecDepth 100000 in
theorem check_any (na : Option Addr) (ns : List ND) (nn nc : Nat) (ma : Option Addr) (ys : List EV) (mn mc : Nat) (W : World) (ht : Pr.Tab W) (h : TrR W na ns nn ma ys mn) (hl : ys.length ≤ 400) :
    Calls Tryd.prog 34 #[valT na nn nc ma mn mc] W (CheckPost W ns (entsY ys)) := by
  have HB := Lib.hid (box_bel W (objT na nn nc ma mn mc))
  have hT := objT_new W na nn nc ma mn mc
  have CG := Lib.hid (grown_any na ns nn nc ma ys mn mc (W.alloc (objT na nn nc ma mn mc)) (ht.alloc _) (h.next HB.out) hl)
  have t0 := hT.cell 0 _ rfl
  have t1 := hT.cell 1 _ rfl
  clear h ht hT
  go_enter Tryd.func34, Tryd.ntmps34
  go_wp2_with fail
  clear t0 t1
  refine (CG.out).mono ?_
  rintro e0 w1 ⟨hb1, hcase⟩
  have HB1 := Lib.hid (HB.out.trans (hb1.mono HB.out.size))
  clear hb1 CG
  rcases hcase with ⟨hT, fp, bm, sv, ps, sp, rfl, -, -, -⟩ | ⟨hT, rfl⟩
  · have HTP := Lib.hid hT
    clear hT
    go_wp2
    go_ret
    exact ⟨HB1.out, .inl ⟨HTP.out, rfl⟩⟩
  · have HTP := Lib.hid hT
    clear hT
    go_wp2
    go_ret
    exact ⟨HB1.out, .inr ⟨HTP.out, rfl⟩⟩
theorem find_results (tmps : Array Value) (b : Addr) (x : Value) (hp : tmps.getD 4 undef = .pointer (some b)) (hx : tmps.getD 5 undef = x) {w : World} {v : Value} (hv : (loadVar 44 b).run Tryd.prog w = .ok v w) : (results Tryd.f16 tmps).run Tryd.prog w = .ok (.tuple #[v, x]) w := by
  have hp2 : tmps[4]?.getD undef = .pointer (some b) := by rw [← hp]; simp
  have hx2 : tmps[5]?.getD undef = x := by rw [← hx]; simp
  simp [results, Tryd.results16, hp2, hx2, asAddr, hv, Result.andThen]
/-- a node written over one's own -/
theorem nd_set {w : World} {q : Nat} {y : ND} (h : Blk w q y.enc) (x : ND) : (storeVar 44 ⟨q, 0, none⟩ (valN x)).run Tryd.prog w = .ok () (setsF w q 0 x.enc 0) ∧ (loadVar 44 ⟨q, 0, none⟩).run Tryd.prog (setsF w q 0 x.enc 0) = .ok (valN x) (setsF w q 0 x.enc 0) ∧ w.grownBy (setsF w q 0 x.enc 0) (some q) := by
  refine ⟨storeVar_is (T := 44) (g := q) (o := 0) (cs := x.enc) sizeND rfl (flatN.one x) (fun j hj => ?_) (fun j hj => ?_), ?_, setsF_grown _ _ _ _ _⟩
  · rw [Nat.zero_add, h.cell j _ (List.getElem?_eq_getElem (show j < 5 from hj))]; rfl
  · rw [Nat.zero_add]; exact h.free j _ (List.getElem?_eq_getElem (show j < 5 from hj))
  · have h1 := h.sets x.enc 0
    rw [setsL_nd] at h1
    exact loadVar_is aggND sizeND rfl h1.cells
theorem stP_new (w : World) (t r : Int) : Blk (w.alloc (.cells #[.int .i64 t, .int .i64 r] 36)) w.heap.size [.int .i64 t, .int .i64 r] := by
  constructor
  · intro i u hi
    match i, hi with
    | 0, hi | 1, hi => simp at hi; subst hi; simp
    | _ + 2, hi => simp at hi
  · intro i u hi
    exact World.frozen?_alloc_at (w := w) _ _ _ _ rfl
theorem bel_own {a w w' : World} {B q : Nat} (hB : B ≤ a.heap.size) (h : Below B a w) (hg : w.grownBy w' (some q)) (hq : B ≤ q) : Below B a w' := ⟨hg.os.trans h.os, hg.tape.trans h.tape, hg.output.trans h.output, Nat.le_trans h.size hg.size, fun k hk => (hg.block k (Nat.lt_of_lt_of_le hk (Nat.le_trans hB h.size)) (fun e => by injection e with e; omega)).trans (h.block k hk)⟩
def FindTPost (W : World) (ns : List ND) (es : List ED) (s : Pl) (e : Ending) (w' : World) : Prop :=
  Below W.heap.size W w' ∧
  ((¬ TreeP ns es ∧ e = .returned (.tuple #[valN zND, .int .i64 1])) ∨
   (TreeP ns es ∧ findN ns s = none ∧ e = .returned (.tuple #[valN zND, .int .i64 3])) ∨
   (TreeP ns es ∧ ∃ n, findN ns s = some n ∧ e = .returned (.tuple #[valN n, .int .i64 0])))
set_option maxHeartbeats 4000000 in
set_option maxRecDepth 100000 in
theorem findT_any (na : Option Addr) (ns : List ND) (nn nc : Nat) (ma : Option Addr) (ys : List EV) (mn mc : Nat) (t r : Int) (W : World) (ht : Pr.Tab W) (h : TrR W na ns nn ma ys mn) (hl : ys.length ≤ 400) (hs : wfP (t, r)) :
    Calls Tryd.prog 16 #[valT na nn nc ma mn mc, .agg #[.int .i64 t, .int .i64 r]] W (FindTPost W ns (entsY ys) (t, r)) := by
  have mixed : Tryd.prog.follows .mixedOrders = true := by kernel_rfl
  obtain ⟨g, hg⟩ : ∃ g, W.heap.size = g := ⟨_, rfl⟩
  obtain ⟨es, hes⟩ : ∃ es, entsY ys = es := ⟨_, rfl⟩
  obtain ⟨W3, hW3⟩ : ∃ W3, ((W.alloc (objT na nn nc ma mn mc)).alloc (.cells #[.int .i64 t, .int .i64 r] 36)).alloc (.cells #[.int .i64 0, .int .i64 0, .int .i64 0, .int .i64 0, .string ⟨#[]⟩] 44) = W3 := ⟨_, rfl⟩
  have HB3 : Hid (Below W.heap.size W W3) := by
    show Below _ _ _
    rw [← hW3]
    exact (box_bel W _).trans (((box_bel _ (.cells #[.int .i64 t, .int .i64 r] 36)).mono (by simp)).trans ((box_bel _ (.cells #[.int .i64 0, .int .i64 0, .int .i64 0, .int .i64 0, .string ⟨#[]⟩] 44)).mono (by simp; omega)))
  have HT3 : Hid (Blk W3 g [.slice na nn nc, .slice ma mn mc]) := by
    show Blk _ _ _
    rw [← hW3, ← hg]
    exact ((objT_new W na nn nc ma mn mc).next (box_bel _ _)).next (box_bel _ _)
  have HZ3 : Hid (Blk W3 (g + 2) zND.enc) := by
    have h1 := objN_new ((W.alloc (objT na nn nc ma mn mc)).alloc (.cells #[.int .i64 t, .int .i64 r] 36)) zND
    rw [World.size_alloc, World.size_alloc, hg] at h1
    rw [← hW3]
    exact h1
  have HS3 : Hid (∀ w, Below W3.heap.size W3 w → w.cell? ⟨g + 1, 0, none⟩ = some (.int .i64 t) ∧ w.cell? ⟨g + 1, 1, none⟩ = some (.int .i64 r)) := fun w hb => by
    have h1 := (stP_new (W.alloc (objT na nn nc ma mn mc)) t r).next (box_bel _ (.cells #[.int .i64 0, .int .i64 0, .int .i64 0, .int .i64 0, .string ⟨#[]⟩] 44))
    rw [hW3, World.size_alloc, hg] at h1
    have h2 := h1.next hb
    exact ⟨h2.cell 0 _ rfl, h2.cell 1 _ rfl⟩
  have CG := Lib.hid (grown_any na ns nn nc ma ys mn mc W3 (ht.below HB3.out ht.lt) (h.next HB3.out) hl)
  rw [hes] at CG ⊢
  have HG := Lib.hid hg
  have HW := Lib.hid hs
  have t0 := HT3.out.cell 0 _ rfl
  have t1 := HT3.out.cell 1 _ rfl
  have hbn : ∀ w, (Instr.build 44 #[]).run Tryd.prog w = .ok (valN zND) w := fun w => run_build w 44 _ _ (by kernel_rfl)
  clear h ht hl hes hs
  go_enter Tryd.func16, Tryd.ntmps16
  go_wp2_with fail
  clear hW3 hg t0 t1
  refine (CG.out).mono ?_
  rintro e0 w1 ⟨hb1, hcase⟩
  have HB1 : Hid (Below W3.heap.size W3 w1) := hb1
  have HZ1 : Hid (Blk w1 (g + 2) zND.enc) := HZ3.out.next hb1
  have HBW1 : Hid (Below W.heap.size W w1) := HB3.out.trans (hb1.mono HB3.out.size)
  clear hb1 CG
  rcases hcase with ⟨hT, fp, bm, sv, ps, sp, rfl, hfr, hfm, hln⟩ | ⟨hT, rfl⟩
  · have HTP := Lib.hid hT
    have CF := Lib.hid (find_any w1 W3.heap.size fp bm sv ps sp ns t r hfr hfm HW.out)
    obtain ⟨k0, k1⟩ := HS3.out w1 HB1.out
    clear hT hfr hfm hln
    go_wp2_with fail
    clear k0 k1
    refine (CF.out).mono ?_
    rintro e0 w2 ⟨x, rfl, hx, hb2⟩
    have HX := Lib.hid hx
    have HZ2 : Hid (Blk (w2.alloc (objS x)) (g + 2) zND.enc) := (HZ1.out.next hb2).next (box_bel w2 _)
    have HBW2 : Hid (Below W.heap.size W (w2.alloc (objS x))) := (HBW1.out.trans (hb2.mono HBW1.out.size)).trans ((box_bel w2 _).mono (HBW1.out.trans (hb2.mono HBW1.out.size)).size)
    clear hx hb2 CF
    go_upto_region 5 with fail
    obtain ⟨w3, hw3⟩ : ∃ w3, w2.alloc (objS x) = w3 := ⟨_, rfl⟩
    have HS : Hid (Blk w3 w2.heap.size x.enc) := by show Blk _ _ _; rw [← hw3]; exact objS_new w2 x
    rw [hw3] at HZ2 HBW2 ⊢
    clear hw3
    have s0 := HS.out.cell 0 _ rfl
    have s1 := HS.out.cell 1 _ rfl
    have s2 := HS.out.cell 2 _ rfl
    have s3 := HS.out.cell 3 _ rfl
    have s4 := HS.out.cell 4 _ rfl
    have s5 := HS.out.cell 5 _ rfl
    have HKW : Hid (w2.heap.size ≤ w3.heap.size) := Nat.le_of_lt HS.out.lt
    cases hth : x.th
    · rw [hth] at s0
      have HFN : Hid (findN ns (t, r) = none) := by
        rcases HX.out with ⟨h1, -, -⟩ | ⟨h1, h2⟩
        · rw [hth] at h1; cases h1
        · exact h2
      obtain ⟨hst, hld, hgr⟩ := nd_set HZ2.out zND
      have HBE := Lib.hid (bel_own (Nat.le_refl _) HBW2.out hgr (by have := HG.out; omega))
      have HLD := Lib.hid hld
      clear hld hgr
      generalize setsF w3 (g + 2) 0 zND.enc 0 = w5 at hst HBE HLD
      go_wp2_with (refine wpList_storeS rfl _ _ 44 rfl (g + 2) 0 rfl _ rfl hst ?_)
      refine bodyPost_ret (find_results _ ⟨g + 2, 0, none⟩ _ rfl rfl HLD.out) rfl ?_
      exact ⟨HBE.out, .inr (.inl ⟨HTP.out, HFN.out, rfl⟩)⟩
    · rw [hth] at s0
      have HFN : Hid (findN ns (t, r) = some x.n) := by
        rcases HX.out with ⟨-, h2, -⟩ | ⟨h1, h2⟩
        · exact h2
        · rw [h1] at hth; cases hth
      have CA := Lib.hid (apart_any x.n w3 (by
        have h1 := nodes_key HTP.out.allM
        rw [HTP.out.nds] at h1
        exact h1 x.n (find_mem HFN.out).1))
      go_wp2_with fail
      clear s0 s1 s2 s3 s4 s5
      refine (CA.out).mono ?_
      rintro e0 w4 ⟨rfl, hb4⟩
      have HB4 := Lib.hid (HBW2.out.trans (hb4.mono HBW2.out.size))
      obtain ⟨hst, hld, hgr⟩ := nd_set (HZ2.out.next hb4) x.n
      have HBE := Lib.hid (bel_own (Nat.le_refl _) HB4.out hgr (by have := HG.out; omega))
      have HLD := Lib.hid hld
      clear hld hgr hb4
      generalize setsF w4 (g + 2) 0 x.n.enc 0 = w5 at hst HBE HLD
      go_wp2_with (refine wpList_storeS rfl _ _ 44 rfl (g + 2) 0 rfl _ rfl hst ?_)
      refine bodyPost_ret (find_results _ ⟨g + 2, 0, none⟩ _ rfl rfl HLD.out) rfl ?_
      exact ⟨HBE.out, .inr (.inr ⟨HTP.out, x.n, HFN.out, rfl⟩)⟩
  · have HTP := Lib.hid hT
    obtain ⟨hst, hld, hgr⟩ := nd_set HZ1.out zND
    have HBE := Lib.hid (bel_own (Nat.le_refl _) HBW1.out hgr (by have := HG.out; omega))
    have HLD := Lib.hid hld
    clear hT hld hgr
    generalize setsF w1 (g + 2) 0 zND.enc 0 = w5 at hst HBE HLD
    go_wp2_with (refine wpList_storeS rfl _ _ 44 rfl (g + 2) 0 rfl _ rfl hst ?_)
    refine bodyPost_ret (find_results _ ⟨g + 2, 0, none⟩ _ rfl rfl HLD.out) rfl ?_
    exact ⟨HBE.out, .inl ⟨HTP.out, rfl⟩⟩
end Go.Proofs.YtjlbpmmckgjajaaDoor
