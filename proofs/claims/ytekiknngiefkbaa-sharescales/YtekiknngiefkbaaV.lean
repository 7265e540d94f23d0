/- Words for rows of numbers: one that is read, one that the call owns, one number more behind it. -/
import Derived.Test.YtekiknngiefkbaaU3
import Derived.Test.YtekiknngiefkbaaD
import Derived.Maps.AppendAt
import Derived.OwnWalk
namespace Go.Proofs.Ytekiknngiefkbaa
open Go.Shelf Go.RowKit Go.Lib Go.Sort Go.Proofs

/-- a slice's elements, in a world -/
def RowIs (w : World) (a : Option Addr) (zs : List Int) : Prop :=
  ∀ i, i < zs.length → ∃ b off, a = some ⟨b, off, none⟩ ∧ w.cell? ⟨b, off + i, none⟩ = some (.int .i64 (zs.getD i 0))
theorem RowIs.below {w w' : World} {a : Option Addr} {zs : List Int} {B : Nat} (h : RowIs w a zs) (hb : Below B w w') (hB : w.heap.size ≤ B) : RowIs w' a zs := by
  intro i hi
  obtain ⟨b, off, rfl, hc⟩ := h i hi
  refine ⟨b, off, rfl, ?_⟩
  have := World.block_lt_of_cell? _ _ hc
  rw [hb.cell (p := ⟨b, off + i, none⟩) (by simp only at this ⊢; omega)]
  exact hc
/-- all blocks that the slice's elements lie in are below B -/
def RowLt (B : Nat) (a : Option Addr) (zs : List Int) : Prop := 0 < zs.length → ∃ b off, a = some ⟨b, off, none⟩ ∧ b < B
theorem RowIs.rowLt {w : World} {a : Option Addr} {zs : List Int} (h : RowIs w a zs) : RowLt w.heap.size a zs := fun h0 => by
  obtain ⟨b, off, rfl, hc⟩ := h 0 h0
  exact ⟨b, off, rfl, World.block_lt_of_cell? _ _ hc⟩
theorem RowIs.below' {w w' : World} {a : Option Addr} {zs : List Int} {B : Nat} (h : RowIs w a zs) (hl : RowLt B a zs) (hb : Below B w w') : RowIs w' a zs := by
  intro i hi
  obtain ⟨b, off, rfl, hc⟩ := h i hi
  refine ⟨b, off, rfl, ?_⟩
  obtain ⟨b', off', e, hlt⟩ := hl (by omega)
  simp only [Option.some.injEq, Addr.mk.injEq] at e
  rw [hb.cell (p := ⟨b, off + i, none⟩) (by simp only; omega)]
  exact hc

/-- a row of numbers that the call has made -/
def OwnI (w : World) (base : Nat) (v : Value) (zs : List Int) : Prop := w.ownsRow base 3 1 v zs.length (zs.map (Value.int .i64))
/-- two rows do not lie in one block -/
def Dj (v u : Value) : Prop := ∀ g, v.ownBlock = some g → u.ownBlock ≠ some g

theorem OwnI.nil (w : World) (base : Nat) : OwnI w base (.slice none 0 0) [] := World.ownsRow_nil w base 3 1
theorem Dj.nil_left (u : Value) : Dj (.slice none 0 0) u := fun g h => by simp [Value.ownBlock] at h
theorem Dj.symm {v u : Value} (h : Dj v u) : Dj u v := fun g h1 h2 => h g h2 h1
theorem OwnI.below {w w' : World} {base : Nat} {v : Value} {zs : List Int} (h : OwnI w base v zs) (hb : Below w.heap.size w w') : OwnI w' base v zs :=
  World.ownsRow.kept h (row := none) ⟨hb.os, hb.tape, hb.output, hb.size, fun k hk _ => hb.block k hk⟩ (by cases h : v.ownBlock <;> simp)
theorem OwnI.alloc {w : World} {base : Nat} {v : Value} {zs : List Int} (h : OwnI w base v zs) (o : Obj) : OwnI (w.alloc o) base v zs := World.ownsRow.alloc h o
theorem OwnI.lt {w : World} {base : Nat} {v : Value} {zs : List Int} (h : OwnI w base v zs) {g : Nat} (hg : v.ownBlock = some g) : base ≤ g ∧ g < w.heap.size := World.ownsRow.lt h g hg
theorem OwnI.mono {w : World} {base base' : Nat} {v : Value} {zs : List Int} (h : OwnI w base v zs) (hb : base' ≤ base) : OwnI w base' v zs := by
  refine ⟨h.1, ?_⟩
  rcases h.2 with hn | ⟨g, cap, cur, e, h1, h2⟩
  · exact .inl hn
  · exact .inr ⟨g, cap, cur, e, by omega, h2⟩
theorem OwnI.form {w : World} {base : Nat} {v : Value} {zs : List Int} (h : OwnI w base v zs) : ∃ a cap, v = .slice a zs.length cap ∧ RowIs w a zs ∧ (a = none ∨ ∃ g, a = some ⟨g, 0, none⟩ ∧ base ≤ g ∧ g < w.heap.size ∧ ∃ cs, Bk w g cs ∧ ∀ i, i < zs.length → cs[i]? = some (.int .i64 (zs.getD i 0))) := by
  rcases h.2 with ⟨rfl, h0⟩ | ⟨g, cap, cur, rfl, hg, hh, hn, hm, hs, ht⟩
  · exact ⟨none, 0, by rw [h0], fun i hi => by omega, .inl rfl⟩
  · have hc : ∀ i, i < zs.length → cur[i]? = some (.int .i64 (zs.getD i 0)) := by
      intro i hi
      have h1 : (cur.toList.take (zs.length * 1))[i]? = cur.toList[i]? := by rw [List.getElem?_take, if_pos (by omega)]
      rw [ht] at h1
      rw [← Array.getElem?_toList, ← h1, List.getElem?_map, List.getD_eq_getElem?_getD, List.getElem?_eq_getElem hi]
      rfl
    have hB : Bk w g cur := hh
    refine ⟨_, cap, rfl, fun i hi => ⟨g, 0, rfl, ?_⟩, .inr ⟨g, rfl, hg, hB.lt, cur, hB, hc⟩⟩
    rw [Nat.zero_add, hB.cell, hc i hi]

/-- what is told of the world behind one number more -/
structure Pushed (base : Nat) (W : World) (v : Value) (zs : List Int) (z : Int) (v' : Value) (w' : World) : Prop where
  own : OwnI w' base v' (zs ++ [z])
  size : W.heap.size ≤ w'.heap.size
  bel : ∀ B (a : World), Below B a W → B ≤ base → B ≤ W.heap.size → Below B a w'
  oth : ∀ b2 u ys, OwnI W b2 u ys → Dj v u → OwnI w' b2 u ys ∧ Dj v' u

set_option maxHeartbeats 400000 in
theorem wpList_push {ops : Array Oper} {rest : List Oper} {o : Oper} {a : Act} {Q : Exit → Act → World → Prop} (hgd : o.guard = none) (s x : Operand)
    (ho : o.op = .call { callee := .builtin .append, args := #[s, x], argTypes := #[23, 23] }) (base : Nat) (W : World) (v : Value) (zs : List Int) (z : Int) (hs : a.eval s = v) (hown : OwnI W base v zs)
    (hx : a.eval x = .slice (some ⟨W.heap.size, 0, none⟩) 1 1) (hlen : (zs.length + 1) * 8 ≤ 140737488355328) (hbase : base ≤ W.heap.size)
    (h : ∀ v' w', Pushed base W v zs z v' w' → wpList Try.prog ops Q rest (a.put o.dst v') w') : wpList Try.prog ops Q (o :: rest) a (W.alloc (.cells #[.int .i64 z] 3)) := by
  obtain ⟨i0, hi, hz0, hz1, hz2⟩ := info_parts Try.info3
  obtain ⟨v', w', hr, h2, h3, h4, h5⟩ := run_append_own_at (P := Try.prog) (W.alloc (.cells #[.int .i64 z] 3)) base 23 o.type 3 i0 (.int .i64 0) 1 8 Try.underlying23 hi hz0 hz1 hz2 rfl (by decide) v zs.length (zs.map (Value.int .i64)) (hown.alloc _) ⟨W.heap.size, 0, none⟩ 1 1 [.int .i64 z] rfl
    (by
      intro j u hu
      rcases j with _ | j
      · simp only [List.getElem?_cons_zero, Option.some.injEq] at hu
        subst hu
        simp [Addr.add]
      · simp at hu) (by intro u hu; simp only [List.mem_singleton] at hu; subst hu; rfl) (by unfold maxLen; omega) hlen (by simp; omega)
  refine wpList_plain hgd fun _ hK => ?_
  unfold Oper.wp execOp
  simp only [ho, resolve, invoke, builtin, Sem.run_bind, Sem.run_pure, Result.andThen_ok, List.map_toArray, List.map_cons, List.map_nil, hs, hx, hr]
  refine hK _ _ (h v' w' ⟨?_, ?_, ?_, ?_⟩)
  · unfold OwnI
    rw [List.length_append, List.map_append]
    exact h2
  · have := h3.size; simp at this; omega
  · intro B a0 hb hB hB2
    exact (hb.alloc hB2 _).grown h3 (by simp; omega) (fun g hg => by have := (hown.lt hg).1; omega)
  · intro b2 u ys hu hd
    refine ⟨World.ownsRow.kept (hu.alloc _) h3 ?_, ?_⟩
    · cases hub : u.ownBlock with
      | none => exact .inl rfl
      | some g => exact .inr fun e => hd g e.symm hub
    · intro g hg hug
      rcases h5 with h5 | h5
      · exact hd g (h5.symm.trans hg) hug
      · have := (hu.lt hug).2
        rw [h5, World.size_alloc] at hg
        injection hg with hg
        omega
end Go.Proofs.Ytekiknngiefkbaa
