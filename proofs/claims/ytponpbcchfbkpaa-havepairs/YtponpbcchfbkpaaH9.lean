/- A row of bytes appended within a region that draws its order. -/
import Derived.Test.YtponpbcchfbkpaaH8
namespace Go.Proofs.Ytponpbcchfbkpaa
open Go.RowKit Go.Lib
set_option linter.unusedVariables false

theorem OwnK.form' {kd : IntKind} {e : TypeId} {w : World} {base : Nat} {v : Value} {zs : List Int} (h : OwnK kd e w base v zs) : ∃ a n cap, v = .slice a n cap ∧ n = zs.length ∧ RowK kd w a zs ∧ zs.length ≤ cap := by
  obtain ⟨a, c, e', hr, hc, _⟩ := h.form
  exact ⟨a, _, c, e', rfl, hr, hc⟩
set_option maxHeartbeats 400000 in
theorem stepB_row {ops : Array Oper} {o : Oper} {a : Act} {K : Act → World → Prop} {Q : Exit → Act → World → Prop} {E : Prop} (hgd : o.guard = none) (s x : Operand)
    (ho : o.op = .call { callee := .builtin .append, args := #[s, x], argTypes := #[24, 24] }) (base : Nat) (W : World) (v : Value) (zs ys : List Int) (ax : Option Addr) (n c : Nat) (hn : n = ys.length) (hs : a.eval s = v) (hown : OwnK .u8 5 W base v zs)
    (hx : a.eval x = .slice ax n c) (hrow : RowK .u8 W ax ys) (hlen : zs.length + ys.length ≤ 140737488355328) (hbase : base ≤ W.heap.size)
    (h : ∀ v' w', Grew .u8 5 base W v zs ys v' w' → K (a.put o.dst v') w') : if Region.wanted o (yielded ops a.tmps) = true then Oper.wp Try.prog o a W K Q else E := by
  have hw : Region.wanted o (yielded ops a.tmps) = true := by simp [Region.wanted, hgd]
  rw [if_pos hw]
  obtain ⟨v', w', hr, hg⟩ := run_row (t := 24) (ty := o.type) (bytes := 1) (fun _ => rfl) Try.underlying24 Try.info5 base W W v zs ys ax n c (Below.refl W.heap.size W) hn hown hrow (by omega) hlen hbase
  unfold Oper.wp execOp
  simp only [ho, resolve, invoke, builtin, Sem.run_bind, Sem.run_pure, Result.andThen_ok, List.map_toArray, List.map_cons, List.map_nil, hs, hx, hr]
  exact h v' w' hg

/-- a copy with a row behind it: what is told -/
theorem glued {w0 w2 w3 : World} {v2 v3 : Value} {zs ys : List Int} (ho : OwnK .u8 5 w2 w0.heap.size v2 zs) (hb : Below w0.heap.size w0 w2) (hg : Grew .u8 5 w0.heap.size w2 v2 zs ys v3 w3) : OwnK .u8 5 w3 w0.heap.size v3 (zs ++ ys) ∧ Below w0.heap.size w0 w3 :=
  ⟨hg.own, hg.bel _ _ hb (Nat.le_refl _) hb.size⟩
theorem quiet_vec {a : Option Addr} {l : List Int} {n c : Nat} {w : World} (hr : RowK .i64 w a l) (hn : n = l.length) (hl : l.length ≤ 140737488355328) {b : Bool} (h : vecB l = b) (k : Nat) : Calls Try.prog 13 #[.slice a n c] (w.drewN k) fun e w'' => e = .returned (.bool b) ∧ ∃ m, w'' = w.drewN m :=
  quiet_left (refVector_is a l n c (w.drewN k) (hr.drewN k) hn hl h)
end Go.Proofs.Ytponpbcchfbkpaa
