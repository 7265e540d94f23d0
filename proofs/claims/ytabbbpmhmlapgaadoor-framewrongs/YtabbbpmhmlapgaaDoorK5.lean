/- What CodeBack and CodeRows hold on to; a row appended within a region that draws its order. -/
import Derived.Test.YtabbbpmhmlapgaaDoorK0
import Derived.Deep.DrawnRows
namespace Go.Proofs.YtabbbpmhmlapgaaDoor
open Go.RowKit Go.Lib
set_option linter.unusedVariables false

theorem OwnK.form' {kd : IntKind} {e : TypeId} {w : World} {base : Nat} {v : Value} {zs : List Int} (h : OwnK kd e w base v zs) : ∃ a n cap, v = .slice a n cap ∧ n = zs.length ∧ RowK kd w a zs ∧ zs.length ≤ cap := by
  obtain ⟨a, c, e', hr, hc, _⟩ := h.form
  exact ⟨a, _, c, e', rfl, hr, hc⟩
theorem takeNum_n (a : Option Addr) (bs : List Int) (n cap : Nat) (w : World) (hn : n = bs.length) (hr : RowK .u8 w a bs) (hb : IsB bs) : Calls Tryd.prog 51 #[.slice a n cap] w (TakePost bs w) := by subst hn; exact takeNum_any a bs cap w hr hb
theorem takeText_n (a : Option Addr) (bs : List Int) (n cap : Nat) (w : World) (hn : n = bs.length) (hr : RowK .u8 w a bs) (hb : IsB bs) (hcap : bs.length ≤ cap) (hlen : bs.length ≤ 140737488355328) : Calls Tryd.prog 50 #[.slice a n cap] w (TextPost bs w) := by subst hn; exact takeText_any a bs cap w hr hb hcap hlen
theorem takeNums_n (a : Option Addr) (bs : List Int) (n cap : Nat) (w : World) (hn : n = bs.length) (hr : RowK .u8 w a bs) (hb : IsB bs) (hcap : bs.length ≤ cap) (hlen : bs.length ≤ 140737488355328) : Calls Tryd.prog 58 #[.slice a n cap] w (ListPost bs w) := by subst hn; exact takeNums_any a bs cap w hr hb hcap hlen

set_option maxHeartbeats 400000 in
theorem stepB_row {ops : Array Oper} {o : Oper} {a : Act} {K : Act → World → Prop} {Q : Exit → Act → World → Prop} {E : Prop} (hgd : o.guard = none) (s x : Operand)
    (ho : o.op = .call { callee := .builtin .append, args := #[s, x], argTypes := #[33, 33] }) (base : Nat) (W : World) (v : Value) (zs ys : List Int) (ax : Option Addr) (n c : Nat) (hn : n = ys.length) (hs : a.eval s = v) (hown : OwnK .u8 5 W base v zs)
    (hx : a.eval x = .slice ax n c) (hrow : RowK .u8 W ax ys) (hlen : zs.length + ys.length ≤ 140737488355328) (hbase : base ≤ W.heap.size)
    (h : ∀ v' w', Grew .u8 5 base W v zs ys v' w' → K (a.put o.dst v') w') : if Region.wanted o (yielded ops a.tmps) = true then Oper.wp Tryd.prog o a W K Q else E := by
  have hw : Region.wanted o (yielded ops a.tmps) = true := by simp [Region.wanted, hgd]
  rw [if_pos hw]
  obtain ⟨v', w', hr, hg⟩ := run_row (t := 33) (ty := o.type) (bytes := 1) (fun _ => rfl) Tryd.underlying33 Tryd.info5 base W W v zs ys ax n c (Below.refl W.heap.size W) hn hown hrow (by omega) hlen hbase
  unfold Oper.wp execOp
  simp only [ho, resolve, invoke, builtin, Sem.run_bind, Sem.run_pure, Result.andThen_ok, List.map_toArray, List.map_cons, List.map_nil, hs, hx, hr]
  exact h v' w' hg

/-- a copy with a row behind it: what is told -/
theorem glued {w0 w2 w3 : World} {v2 v3 : Value} {zs ys : List Int} (ho : OwnK .u8 5 w2 w0.heap.size v2 zs) (hb : Below w0.heap.size w0 w2) (hg : Grew .u8 5 w0.heap.size w2 v2 zs ys v3 w3) : OwnK .u8 5 w3 w0.heap.size v3 (zs ++ ys) ∧ Below w0.heap.size w0 w3 :=
  ⟨hg.own, hg.bel _ _ hb (Nat.le_refl _) hb.size⟩
end Go.Proofs.YtabbbpmhmlapgaaDoor
