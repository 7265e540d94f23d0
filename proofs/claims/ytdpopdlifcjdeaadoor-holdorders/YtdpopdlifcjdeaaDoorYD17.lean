/- Joined: D17. -/
import Derived.Test.YtdpopdlifcjdeaaDoorYD12
import Derived.Laws.CopyRow
import Derived.Lib.Overlaps
import Derived.Lib.AppendZerosOnto
import Derived.Laws.Externs
import Derived.Shelf.RegionOpenPlain

/- Hold: an operation laid into a row: copying within rows of operations. -/
namespace Go.Proofs.YtdpopdlifcjdeaaDoor
open Go.RowKit Go.Lib
set_option linter.unusedVariables false

theorem copyO_run (w : World) (ty : TypeId) (g o dLen dCap : Nat) (a : Addr) (sLen sCap : Nat) (cur : Array Value) (cs : List Value) (k : Nat) (hk : k = Nat.min sLen dLen) (hg : w.heap[g]? = some (.cells cur 32 (0, 0))) (hn : cs.length = k * 12)
    (hsrc : ∀ j v, cs[j]? = some v → w.cell? (a.add j) = some v) (hfit : o + cs.length ≤ cur.size) (h1 : ∀ v ∈ cs, v.oneCell' = true) :
    (Builtin.copy_ #[23, 23] ty #[.slice (some ⟨g, o, none⟩) dLen dCap, .slice (some a) sLen sCap]).run Tryd.prog w = .ok (goInt k) (w.setRow g (cur.toList.take o ++ cs ++ cur.toList.drop (o + cs.length)).toArray) := by
  have hl := run_loadCells_list (P := Tryd.prog) w a cs hsrc
  have hst := run_storeCells_at Tryd.prog g o 32 cs 0 cur w hg (by simpa using hfit) h1
  obtain ⟨i0, hi, hz0, hz1, hz2⟩ := info_parts Tryd.info32
  rw [hn] at hl
  simp [Builtin.copy_, run_underlying Tryd.underlying23, Builtin.lenOf, Builtin.firstCells, sizeOf, typeInfo, hi, hz1, ← hk, hl, hst, hn]
theorem wpList_copyO (w : World) {ops : Array Oper} {rest : List Oper} {o : Oper} {a : Act} {Q : Exit → Act → World → Prop} (hgd : o.guard = none) (d s : Operand)
    (ho : o.op = .call { callee := .builtin .copy, args := #[d, s], argTypes := #[23, 23] }) (v u : Value) (hd : a.eval d = v) (hs : a.eval s = u) {v' : Value} {w' : World}
    (hr : (Builtin.copy_ #[23, 23] o.type #[v, u]).run Tryd.prog w = .ok v' w') (h : wpList Tryd.prog ops Q rest (a.put o.dst v') w') : wpList Tryd.prog ops Q (o :: rest) a w := by
  refine wpList_plain hgd fun _ hK => ?_
  unfold Oper.wp execOp
  simp only [ho, resolve, invoke, builtin, Sem.run_bind, Sem.run_pure, Result.andThen_ok, List.map_toArray, List.map_cons, List.map_nil, hd, hs, hr]
  exact hK _ _ h
theorem step_copyO {ops : Array Oper} {o : Oper} {a : Act} {w : World} {K : Act → World → Prop} {Q : Exit → Act → World → Prop} {E : Prop} (hgd : o.guard = none) (d s : Operand)
    (ho : o.op = .call { callee := .builtin .copy, args := #[d, s], argTypes := #[23, 23] }) (v u : Value) (hd : a.eval d = v) (hs : a.eval s = u) {v' : Value} {w' : World}
    (hr : (Builtin.copy_ #[23, 23] o.type #[v, u]).run Tryd.prog w = .ok v' w') (h : K (a.put o.dst v') w') : if Region.wanted o (yielded ops a.tmps) = true then Oper.wp Tryd.prog o a w K Q else E := by
  have hw : Region.wanted o (yielded ops a.tmps) = true := by simp [Region.wanted, hgd]
  rw [if_pos hw]
  unfold Oper.wp execOp
  simp only [ho, resolve, invoke, builtin, Sem.run_bind, Sem.run_pure, Result.andThen_ok, List.map_toArray, List.map_cons, List.map_nil, hd, hs, hr]
  exact h
theorem cellsO_ins : ∀ {os : List OpD} {dl : List Value} (i : Nat) (x : OpD) (d : Value), dl.length = os.length → i ≤ os.length → cellsO (os.take i ++ x :: os.drop i) (dl.take i ++ d :: dl.drop i) = (cellsO os dl).take (i * 12) ++ x.1.cells x.2 d ++ (cellsO os dl).drop (i * 12)
  | os, dl, 0, x, d, _, _ => by simp [cellsO]
  | [], dl, i + 1, x, d, _, h => by simp at h
  | y :: os, [], i + 1, x, d, h, _ => by simp at h
  | y :: os, e :: dl, i + 1, x, d, h1, h2 => by
    have ih := cellsO_ins (os := os) (dl := dl) i x d (by simpa using h1) (by simpa using h2)
    rw [List.take_succ_cons, List.take_succ_cons, List.drop_succ_cons, List.drop_succ_cons, List.cons_append, List.cons_append, cellsO, ih, cellsO]
    have h12 : (y.1.cells y.2 e).length = 12 := rfl
    rw [show (i + 1) * 12 = (y.1.cells y.2 e).length + i * 12 by rw [h12]; omega, List.take_length_add_append, List.drop_length_add_append]
    simp
theorem cells_one (x : OpD) (da : Option Addr) (dn dc : Nat) : ∀ u ∈ x.1.cells x.2 (.slice da dn dc), u.oneCell' = true := by
  intro u hu
  simp only [OpR.cells, List.mem_cons, List.not_mem_nil, or_false] at hu
  rcases hu with rfl | rfl | rfl | rfl | rfl | rfl | rfl | rfl | rfl | rfl | rfl | rfl <;> rfl
/-- a row that the call owns, opened -/
theorem OwnO.heap {w : World} {base g n cap : Nat} {os : List OpD} {dl : List Value} (h : OwnO w base (.slice (some ⟨g, 0, none⟩) n cap) os dl) : n = os.length ∧ base ≤ g ∧ n ≤ cap ∧ cap ≤ maxLen ∧ ∃ cur : Array Value, w.heap[g]? = some (.cells cur 32 (0, 0)) ∧ cur.size = cap * 12 ∧ cur.toList.take (n * 12) = cellsO os dl := by
  rcases h.own.2 with ⟨e, _⟩ | ⟨g', cap', cur, e, h1, h2, h3, h4, h5, h6⟩
  · cases e
  · injection e with e1 e2 e3
    injection e1 with e1
    injection e1 with e1
    subst e1 e2 e3
    exact ⟨rfl, h1, h3, h4, cur, h2, h5, h6⟩
end Go.Proofs.YtdpopdlifcjdeaaDoor
