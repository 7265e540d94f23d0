/- Registers: words for rows of them, read and owned; one more, a row more behind them; a part. -/
import Derived.Test.YtjpjjckokonkpaaDoorH10
import Derived.Test.YtjpjjckokonkpaaDoorS2
import Derived.Test.YtjpjjckokonkpaaDoorP6
import Derived.Deep.AppendLies
namespace Go.Proofs.YtjpjjckokonkpaaDoor
open Go.RowKit Go.Lib
set_option linter.unusedVariables false

/-- a register: property, value, time, replica -/
structure RgD where
  p : Int
  v : Int
  t : Int
  r : Int
  deriving DecidableEq
abbrev valG (x : RgD) : Value := .agg #[.int .i64 x.p, .int .i64 x.v, .int .i64 x.t, .int .i64 x.r]
abbrev objG (x : RgD) : Obj := .cells #[.int .i64 x.p, .int .i64 x.v, .int .i64 x.t, .int .i64 x.r] 51
def RgD.vals (x : RgD) : List Value := [.int .i64 x.p, .int .i64 x.v, .int .i64 x.t, .int .i64 x.r]
theorem bel1 (w : World) (o : Obj) : Below w.heap.size w (w.alloc o) := (Below.refl _ _).alloc (Nat.le_refl _) _
/-- a register at a place -/
structure RgAt (w : World) (b o : Nat) (x : RgD) : Prop where
  c0 : w.cell? ⟨b, o, none⟩ = some (.int .i64 x.p)
  c1 : w.cell? ⟨b, o + 1, none⟩ = some (.int .i64 x.v)
  c2 : w.cell? ⟨b, o + 2, none⟩ = some (.int .i64 x.t)
  c3 : w.cell? ⟨b, o + 3, none⟩ = some (.int .i64 x.r)
theorem RgAt.lt {w : World} {b o : Nat} {x : RgD} (h : RgAt w b o x) : b < w.heap.size := World.block_lt_of_cell? _ _ h.c0
theorem RgAt.below {w w' : World} {b o B : Nat} {x : RgD} (h : RgAt w b o x) (hb : Below B w w') (hB : b < B) : RgAt w' b o x :=
  ⟨(hb.cell (p := ⟨b, o, none⟩) hB).trans h.c0, (hb.cell (p := ⟨b, o + 1, none⟩) hB).trans h.c1, (hb.cell (p := ⟨b, o + 2, none⟩) hB).trans h.c2, (hb.cell (p := ⟨b, o + 3, none⟩) hB).trans h.c3⟩
theorem RgAt.next {w w' : World} {b o : Nat} {x : RgD} (h : RgAt w b o x) (hb : Below w.heap.size w w') : RgAt w' b o x := h.below hb h.lt
theorem RgAt.new (w : World) (x : RgD) : RgAt (w.alloc (objG x)) w.heap.size 0 x := ⟨by simp, by simp, by simp, by simp⟩
/-- a row of registers, in a world -/
def RowG (w : World) (a : Option Addr) (xs : List RgD) : Prop := ∀ (i : Nat) (x : RgD), xs[i]? = some x → ∃ b off, a = some ⟨b, off, none⟩ ∧ RgAt w b (off + i * 4) x
theorem RowG.nil (w : World) (a : Option Addr) : RowG w a [] := fun i x hi => by simp at hi
theorem RowG.below {w w' : World} {a : Option Addr} {xs : List RgD} {B : Nat} (h : RowG w a xs) (hb : Below B w w') (hB : w.heap.size ≤ B) : RowG w' a xs := fun i x hi => by
  obtain ⟨b, off, rfl, hc⟩ := h i x hi
  exact ⟨b, off, rfl, hc.below hb (by have := hc.lt; omega)⟩
theorem RowG.next {w w' : World} {a : Option Addr} {xs : List RgD} (h : RowG w a xs) (hb : Below w.heap.size w w') : RowG w' a xs := h.below hb (Nat.le_refl _)
/-- where a part of a row of registers begins -/
def partG (a : Option Addr) (l cap : Nat) : Option Addr := if cap = l then a else a.map (·.add (l * 4))
theorem RowG.rest {w : World} {a : Option Addr} {xs : List RgD} (h : RowG w a xs) (l cap : Nat) (hn : xs.length ≤ cap) : RowG w (partG a l cap) (xs.drop l) := fun i x hi => by
  rw [List.getElem?_drop] at hi
  have hlt := (List.getElem?_eq_some_iff.1 hi).1
  obtain ⟨b, off, rfl, h1⟩ := h _ x hi
  refine ⟨b, off + l * 4, ?_, ?_⟩
  · unfold partG
    rw [if_neg (by omega), Option.map_some, addr_add]
  · rw [show off + l * 4 + i * 4 = off + (l + i) * 4 by omega]
    exact h1
theorem Tryd.info51 : (Tryd.prog.info? 51).map (fun i => (i.zero, i.size, i.bytes)) = some (some (.agg #[.int .i64 0, .int .i64 0, .int .i64 0, .int .i64 0]), 4, 32) := by kernel_rfl
theorem sizeG (w : World) : (Go.sizeOf 51).run Tryd.prog w = .ok 4 w := by
  obtain ⟨i0, hi, hz0, hz1, hz2⟩ := info_parts Tryd.info51
  simp [Go.sizeOf, typeInfo, hi, hz1]
theorem sliceG_l (w : World) (a : Option Addr) (len cap l : Nat) (zl : Int) (el : zl = (l : Int)) (h1 : l ≤ len) :
    (Instr.slice 22 (.slice a len cap) (some (.int .i64 zl)) none none).run Tryd.prog w = .ok (.slice (partG a l cap) (len - l) (cap - l)) w := by
  subst el
  have ht' : Tryd.prog.underlying 22 = some (.slice (Tryd.prog.elem 22)) := by simp [Program.elem, Tryd.underlying22]
  have he : Tryd.prog.elem 22 = 51 := by simp [Program.elem, Tryd.underlying22]
  rw [run_slice_l w 22 _ _ _ ht' .i64 _ (by omega) (by omega), he, sizeG]
  simp [Result.andThen, sliced, partG]

def cellsG : List RgD → List Value
  | x :: r => x.vals ++ cellsG r
  | [] => []
theorem vals4 (x : RgD) : x.vals.length = 4 := rfl
theorem cellsG_app : ∀ (xs ys : List RgD), cellsG (xs ++ ys) = cellsG xs ++ cellsG ys
  | [], ys => rfl
  | x :: r, ys => by rw [List.cons_append, cellsG, cellsG, cellsG_app r ys, List.append_assoc]
theorem cellsG_len : ∀ (xs : List RgD), (cellsG xs).length = xs.length * 4
  | [] => rfl
  | x :: r => by
    rw [cellsG, List.length_append, vals4, cellsG_len r, List.length_cons]
    omega
theorem cellsG_at : ∀ {xs : List RgD} (i : Nat) {x : RgD}, xs[i]? = some x → ∀ j u, x.vals[j]? = some u → (cellsG xs)[i * 4 + j]? = some u
  | [], _, _, h, _, _, _ => by simp at h
  | y :: r, 0, x, hx, j, u, hu => by
    simp only [List.getElem?_cons_zero, Option.some.injEq] at hx
    subst hx
    have hj : j < 4 := by have := (List.getElem?_eq_some_iff.1 hu).1; rwa [vals4] at this
    rw [cellsG, Nat.zero_mul, Nat.zero_add, List.getElem?_append_left (by rw [vals4]; exact hj)]
    exact hu
  | y :: r, i + 1, x, hx, j, u, hu => by
    rw [List.getElem?_cons_succ] at hx
    rw [cellsG, List.getElem?_append_right (by rw [vals4]; omega), vals4, show (i + 1) * 4 + j - 4 = i * 4 + j by omega]
    exact cellsG_at i hx j u hu
theorem cellsG_one (xs : List RgD) : ∀ u ∈ cellsG xs, u.oneCell' = true := by
  induction xs with
  | nil => intro u hu; simp [cellsG] at hu
  | cons x r ih =>
    intro u hu
    rw [cellsG, List.mem_append] at hu
    rcases hu with hu | hu
    · simp only [RgD.vals, List.mem_cons, List.not_mem_nil, or_false] at hu
      rcases hu with rfl | rfl | rfl | rfl <;> rfl
    · exact ih u hu
/-- the cells of a row that is read -/
theorem RowG.cells {w : World} {b off : Nat} {xs : List RgD} (h : RowG w (some ⟨b, off, none⟩) xs) (j : Nat) (u : Value) (hu : (cellsG xs)[j]? = some u) : w.cell? ⟨b, off + j, none⟩ = some u := by
  have hj := (List.getElem?_eq_some_iff.1 hu).1
  rw [cellsG_len] at hj
  obtain ⟨x, hx⟩ : ∃ x, xs[j / 4]? = some x := ⟨_, List.getElem?_eq_getElem (by omega)⟩
  obtain ⟨b', off', e, hc⟩ := h _ x hx
  simp only [Option.some.injEq, Addr.mk.injEq] at e
  obtain ⟨rfl, rfl, _⟩ := e
  have hd : j / 4 * 4 + j % 4 = j := by omega
  have key : ∀ k v, k < 4 → x.vals[k]? = some v → j % 4 = k → v = u := fun k v hk hv e => by
    have := cellsG_at _ hx k v hv
    rw [← e, hd, hu] at this
    exact (Option.some.inj this).symm
  have hm : j % 4 = 0 ∨ j % 4 = 1 ∨ j % 4 = 2 ∨ j % 4 = 3 := by omega
  rcases hm with e | e | e | e
  · rw [← key 0 _ (by omega) rfl e]; have := hc.c0; rwa [show off + j / 4 * 4 = off + j by omega] at this
  · rw [← key 1 _ (by omega) rfl e]; have := hc.c1; rwa [show off + j / 4 * 4 + 1 = off + j by omega] at this
  · rw [← key 2 _ (by omega) rfl e]; have := hc.c2; rwa [show off + j / 4 * 4 + 2 = off + j by omega] at this
  · rw [← key 3 _ (by omega) rfl e]; have := hc.c3; rwa [show off + j / 4 * 4 + 3 = off + j by omega] at this

/-- a row of registers that the call owns -/
def OwnG (w : World) (base : Nat) (v : Value) (xs : List RgD) : Prop := w.ownsRow base 51 4 v xs.length (cellsG xs)
theorem OwnG.nil (w : World) (base : Nat) : OwnG w base (.slice none 0 0) [] := World.ownsRow_nil w base 51 4
theorem OwnG.grown {w w' : World} {base : Nat} {v : Value} {xs : List RgD} {row : Option Nat} (h : OwnG w base v xs) (hg : w.grownBy w' row) (hne : v.ownBlock = none ∨ v.ownBlock ≠ row) : OwnG w' base v xs := World.ownsRow.kept h hg hne
theorem OwnG.below {w w' : World} {base : Nat} {v : Value} {xs : List RgD} (h : OwnG w base v xs) (hb : Below w.heap.size w w') : OwnG w' base v xs := h.grown (row := none) ⟨hb.os, hb.tape, hb.output, hb.size, fun k hk _ => hb.block k hk⟩ (by cases h : v.ownBlock <;> simp)
theorem OwnG.alloc {w : World} {base : Nat} {v : Value} {xs : List RgD} (h : OwnG w base v xs) (o : Obj) : OwnG (w.alloc o) base v xs := h.below (bel1 w o)
theorem OwnG.mono {w : World} {base base' : Nat} {v : Value} {xs : List RgD} (h : OwnG w base v xs) (hb : base' ≤ base) : OwnG w base' v xs := by
  refine ⟨h.1, ?_⟩
  rcases h.2 with hn | ⟨g, cap, cur, e, h1, h2⟩
  · exact .inl hn
  · exact .inr ⟨g, cap, cur, e, by omega, h2⟩
theorem OwnG.lt {w : World} {base : Nat} {v : Value} {xs : List RgD} (h : OwnG w base v xs) {g : Nat} (hg : v.ownBlock = some g) : base ≤ g ∧ g < w.heap.size := World.ownsRow.lt h g hg
theorem OwnG.form {w : World} {base : Nat} {v : Value} {xs : List RgD} (h : OwnG w base v xs) : ∃ a n cap, v = .slice a n cap ∧ n = xs.length ∧ n ≤ cap ∧ RowG w a xs := by
  rcases h.2 with ⟨rfl, h0⟩ | ⟨g, cap, cur, rfl, hg, hh, hn, hm, hs, ht⟩
  · refine ⟨none, 0, 0, rfl, h0.symm, Nat.le_refl _, ?_⟩
    rw [List.eq_nil_of_length_eq_zero h0]
    exact RowG.nil _ _
  · refine ⟨_, _, cap, rfl, rfl, hn, fun i x hi => ⟨g, 0, rfl, ?_⟩⟩
    have hc : ∀ j u, x.vals[j]? = some u → w.cell? ⟨g, 0 + i * 4 + j, none⟩ = some u := fun j u hu => by
      have hc := World.ownsRow.cells h (g := g) rfl (i * 4 + j) u (cellsG_at i hi j u hu)
      rw [addr_add] at hc
      rw [Nat.add_assoc]
      exact hc
    exact ⟨hc 0 _ rfl, hc 1 _ rfl, hc 2 _ rfl, hc 3 _ rfl⟩

/-- what is told of the world behind more of them -/
structure GrewG (base : Nat) (W : World) (v : Value) (xs ys : List RgD) (v' : Value) (w' : World) : Prop where
  own : OwnG w' base v' (xs ++ ys)
  gr : W.grownBy w' v.ownBlock
  old : OwnG W base v xs
theorem GrewG.bel {base : Nat} {W w' : World} {v v' : Value} {xs ys : List RgD} (h : GrewG base W v xs ys v' w') {B : Nat} {a : World} (hb : Below B a W) (h1 : B ≤ base) (h2 : B ≤ W.heap.size) : Below B a w' := by
  refine hb.trans ⟨h.gr.os, h.gr.tape, h.gr.output, h.gr.size, fun k hk => h.gr.block k (by omega) fun e => ?_⟩
  have := (h.old.lt e.symm).1
  omega
theorem runG_row {ty : TypeId} (base : Nat) (W W1 : World) (v : Value) (xs ys : List RgD) (a : Option Addr) (n c : Nat) (hB : W.grownBy W1 none) (hn : n = ys.length) (hown : OwnG W base v xs) (hx : RowG W1 a ys) (hlen : (xs.length + ys.length) * 32 ≤ 140737488355328) (hbase : base ≤ W.heap.size) :
    ∃ v' w', (Builtin.append_ #[22, 22] ty #[v, .slice a n c]).run Tryd.prog W1 = .ok v' w' ∧ GrewG base W v xs ys v' w' := by
  subst hn
  obtain ⟨i0, hi, hz0, hz1, hz2⟩ := info_parts Tryd.info51
  have hown1 : OwnG W1 base v xs := hown.grown hB (by cases h : v.ownBlock <;> simp)
  have hWs := hB.size
  have hgr : ∀ w', W1.grownBy w' v.ownBlock → W.grownBy w' v.ownBlock := fun w' h => ⟨h.os.trans hB.os, h.tape.trans hB.tape, h.output.trans hB.output, Nat.le_trans hB.size h.size, fun k hk hne => (h.block k (Nat.lt_of_lt_of_le hk hB.size) hne).trans (hB.block k hk (by simp))⟩
  by_cases h0 : 0 < ys.length
  · obtain ⟨y, hy⟩ : ∃ y, ys[0]? = some y := ⟨_, List.getElem?_eq_getElem h0⟩
    obtain ⟨b, off, rfl, _⟩ := hx 0 y hy
    obtain ⟨v', w', hr, h2, h3, h4, h5⟩ := run_append_own_at (P := Tryd.prog) W1 base 22 ty 51 i0 _ 4 32 Tryd.underlying22 hi hz0 hz1 hz2 rfl (by decide) v xs.length (cellsG xs) hown1 ⟨b, off, none⟩ ys.length c (cellsG ys) (cellsG_len ys)
      (by
        intro j u hu
        rw [addr_add]
        exact hx.cells j u hu)
      (cellsG_one ys) (by unfold maxLen; omega) hlen (by omega)
    refine ⟨v', w', hr, ?_, hgr _ h3, hown⟩
    unfold OwnG
    rw [List.length_append, cellsG_app]
    exact h2
  · have hy : ys = [] := List.eq_nil_of_length_eq_zero (by omega)
    subst hy
    have hf : ∀ (x : Option Addr), (Builtin.firstCells 4 0 (.slice x 0 c)).run Tryd.prog W1 = .ok #[] W1 := by
      intro x; cases x <;> simp [Builtin.firstCells, loadCells, loadCellsFrom]
    have hrefl : W1.grownBy W1 v.ownBlock := World.grownBy.refl _ _
    rcases hown1.2 with ⟨rfl, hz⟩ | ⟨g, cap, cur, rfl, hg, hh, hnc, hm, hs, htk⟩
    · refine ⟨.slice none 0 0, W1, ?_, by rw [List.append_nil]; exact hown1, hgr _ hrefl, hown⟩
      simp [Builtin.append_, run_underlying Tryd.underlying22, Go.sizeOf, typeInfo, hi, hz1, Builtin.lenOf, hf]
    · refine ⟨.slice (some ⟨g, 0, none⟩) xs.length cap, W1, ?_, by rw [List.append_nil]; exact hown1, hgr _ hrefl, hown⟩
      simp [Builtin.append_, run_underlying Tryd.underlying22, Go.sizeOf, typeInfo, hi, hz1, Builtin.lenOf, hf, hnc, storeCells]
theorem oneG_row (W : World) (x : RgD) : RowG (W.alloc (objG x)) (some ⟨W.heap.size, 0, none⟩) [x] := by
  intro i y hi
  match i, hi with
  | 0, hi =>
    simp only [List.getElem?_cons_zero, Option.some.injEq] at hi
    subst hi
    exact ⟨W.heap.size, 0, rfl, RgAt.new W x⟩
  | _ + 1, hi => simp at hi

set_option maxHeartbeats 400000 in
theorem wpG_one {ops : Array Oper} {rest : List Oper} {o : Oper} {a : Act} {Q : Exit → Act → World → Prop} (hgd : o.guard = none) (s x : Operand)
    (ho : o.op = .call { callee := .builtin .append, args := #[s, x], argTypes := #[22, 22] }) (base : Nat) (W : World) (v : Value) (xs : List RgD) (z : RgD) (hs : a.eval s = v) (hown : OwnG W base v xs)
    (H : Nat) (hx : a.eval x = .slice (some ⟨H, 0, none⟩) 1 1) (hH : W.heap.size = H) (hlen : (xs.length + 1) * 32 ≤ 140737488355328) (hbase : base ≤ W.heap.size)
    (h : ∀ v' w', GrewG base W v xs [z] v' w' → wpList Tryd.prog ops Q rest (a.put o.dst v') w') : wpList Tryd.prog ops Q (o :: rest) a (W.alloc (objG z)) := by
  subst hH
  obtain ⟨v', w', hr, hg⟩ := runG_row (ty := o.type) base W _ v xs [z] _ 1 1 (World.grownBy_alloc W (objG z) none) rfl hown (oneG_row W z) (by simpa using hlen) hbase
  refine wpList_plain hgd fun _ hK => ?_
  unfold Oper.wp execOp
  simp only [ho, resolve, invoke, builtin, Sem.run_bind, Sem.run_pure, Result.andThen_ok, List.map_toArray, List.map_cons, List.map_nil, hs, hx, hr]
  exact hK _ _ (h v' w' hg)
set_option maxHeartbeats 400000 in
theorem wpG_row {ops : Array Oper} {rest : List Oper} {o : Oper} {a : Act} {Q : Exit → Act → World → Prop} (hgd : o.guard = none) (s x : Operand)
    (ho : o.op = .call { callee := .builtin .append, args := #[s, x], argTypes := #[22, 22] }) (base : Nat) (W : World) (v : Value) (xs ys : List RgD) (b : Option Addr) (n c : Nat) (hs : a.eval s = v) (hown : OwnG W base v xs)
    (hx : a.eval x = .slice b n c) (hn : n = ys.length) (hrow : RowG W b ys) (hlen : (xs.length + ys.length) * 32 ≤ 140737488355328) (hbase : base ≤ W.heap.size)
    (h : ∀ v' w', GrewG base W v xs ys v' w' → wpList Tryd.prog ops Q rest (a.put o.dst v') w') : wpList Tryd.prog ops Q (o :: rest) a W := by
  obtain ⟨v', w', hr, hg⟩ := runG_row (ty := o.type) base W W v xs ys b n c (World.grownBy.refl _ _) hn hown hrow hlen hbase
  refine wpList_plain hgd fun _ hK => ?_
  unfold Oper.wp execOp
  simp only [ho, resolve, invoke, builtin, Sem.run_bind, Sem.run_pure, Result.andThen_ok, List.map_toArray, List.map_cons, List.map_nil, hs, hx, hr]
  exact hK _ _ (h v' w' hg)
end Go.Proofs.YtjpjjckokonkpaaDoor
