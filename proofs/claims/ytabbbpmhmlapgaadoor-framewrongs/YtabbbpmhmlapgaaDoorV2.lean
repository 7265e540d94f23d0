/- One more, a row more, a text more: for the walk. The small functions. -/
import Derived.Test.YtabbbpmhmlapgaaDoorV1
namespace Go.Proofs.YtabbbpmhmlapgaaDoor
open Go.RowKit Go.Lib

theorem one_row (kd : IntKind) (e : TypeId) (W : World) (z : Int) : RowK kd (W.alloc (.cells #[.int kd z] e)) (some ⟨W.heap.size, 0, none⟩) [z] := by
  intro i hi
  simp only [List.length_cons, List.length_nil] at hi
  obtain rfl : i = 0 := by omega
  exact ⟨W.heap.size, 0, rfl, by simp⟩

set_option maxHeartbeats 400000 in
theorem wpB_one {ops : Array Oper} {rest : List Oper} {o : Oper} {a : Act} {Q : Exit → Act → World → Prop} (hgd : o.guard = none) (s x : Operand)
    (ho : o.op = .call { callee := .builtin .append, args := #[s, x], argTypes := #[33, 33] }) (base : Nat) (W : World) (v : Value) (zs : List Int) (z : Int) (hs : a.eval s = v) (hown : OwnK .u8 5 W base v zs)
    (hx : a.eval x = .slice (some ⟨W.heap.size, 0, none⟩) 1 1) (hlen : zs.length + 1 ≤ 140737488355328) (hbase : base ≤ W.heap.size)
    (h : ∀ v' w', Grew .u8 5 base W v zs [z] v' w' → wpList Tryd.prog ops Q rest (a.put o.dst v') w') : wpList Tryd.prog ops Q (o :: rest) a (W.alloc (.cells #[.int .u8 z] 5)) := by
  obtain ⟨v', w', hr, hg⟩ := run_row (t := 33) (ty := o.type) (bytes := 1) (fun _ => rfl) Tryd.underlying33 Tryd.info5 base W _ v zs [z] _ 1 1 ((Below.refl W.heap.size W).alloc (Nat.le_refl _) _) rfl hown (one_row .u8 5 W z) (by simpa using hlen) (by simpa using hlen) hbase
  refine wpList_plain hgd fun _ hK => ?_
  unfold Oper.wp execOp
  simp only [ho, resolve, invoke, builtin, Sem.run_bind, Sem.run_pure, Result.andThen_ok, List.map_toArray, List.map_cons, List.map_nil, hs, hx, hr]
  exact hK _ _ (h v' w' hg)

set_option maxHeartbeats 400000 in
theorem wpI_one {ops : Array Oper} {rest : List Oper} {o : Oper} {a : Act} {Q : Exit → Act → World → Prop} (hgd : o.guard = none) (s x : Operand)
    (ho : o.op = .call { callee := .builtin .append, args := #[s, x], argTypes := #[25, 25] }) (base : Nat) (W : World) (v : Value) (zs : List Int) (z : Int) (hs : a.eval s = v) (hown : OwnK .i64 3 W base v zs)
    (hx : a.eval x = .slice (some ⟨W.heap.size, 0, none⟩) 1 1) (hlen : (zs.length + 1) * 8 ≤ 140737488355328) (hbase : base ≤ W.heap.size)
    (h : ∀ v' w', Grew .i64 3 base W v zs [z] v' w' → wpList Tryd.prog ops Q rest (a.put o.dst v') w') : wpList Tryd.prog ops Q (o :: rest) a (W.alloc (.cells #[.int .i64 z] 3)) := by
  obtain ⟨v', w', hr, hg⟩ := run_row (t := 25) (ty := o.type) (bytes := 8) (fun _ => rfl) Tryd.underlying25 Tryd.info3 base W _ v zs [z] _ 1 1 ((Below.refl W.heap.size W).alloc (Nat.le_refl _) _) rfl hown (one_row .i64 3 W z) (by simpa using hlen) (by simp; omega) hbase
  refine wpList_plain hgd fun _ hK => ?_
  unfold Oper.wp execOp
  simp only [ho, resolve, invoke, builtin, Sem.run_bind, Sem.run_pure, Result.andThen_ok, List.map_toArray, List.map_cons, List.map_nil, hs, hx, hr]
  exact hK _ _ (h v' w' hg)

set_option maxHeartbeats 400000 in
theorem wpB_row {ops : Array Oper} {rest : List Oper} {o : Oper} {a : Act} {Q : Exit → Act → World → Prop} (hgd : o.guard = none) (s x : Operand)
    (ho : o.op = .call { callee := .builtin .append, args := #[s, x], argTypes := #[33, 33] }) (base : Nat) (W : World) (v : Value) (zs ys : List Int) (ax : Option Addr) (n c : Nat) (hn : n = ys.length) (hs : a.eval s = v) (hown : OwnK .u8 5 W base v zs)
    (hx : a.eval x = .slice ax n c) (hrow : RowK .u8 W ax ys) (hlen : zs.length + ys.length ≤ 140737488355328) (hbase : base ≤ W.heap.size)
    (h : ∀ v' w', Grew .u8 5 base W v zs ys v' w' → wpList Tryd.prog ops Q rest (a.put o.dst v') w') : wpList Tryd.prog ops Q (o :: rest) a W := by
  obtain ⟨v', w', hr, hg⟩ := run_row (t := 33) (ty := o.type) (bytes := 1) (fun _ => rfl) Tryd.underlying33 Tryd.info5 base W W v zs ys ax n c (Below.refl W.heap.size W) hn hown hrow (by omega) hlen hbase
  refine wpList_plain hgd fun _ hK => ?_
  unfold Oper.wp execOp
  simp only [ho, resolve, invoke, builtin, Sem.run_bind, Sem.run_pure, Result.andThen_ok, List.map_toArray, List.map_cons, List.map_nil, hs, hx, hr]
  exact hK _ _ (h v' w' hg)

theorem strCells_strN (s : ByteArray) : strCells s = (strN s).map (Value.int .u8) := by simp [strCells, strN]

set_option maxHeartbeats 400000 in
theorem wpB_str {ops : Array Oper} {rest : List Oper} {o : Oper} {a : Act} {Q : Exit → Act → World → Prop} (hgd : o.guard = none) (s x : Operand)
    (ho : o.op = .call { callee := .builtin .append, args := #[s, x], argTypes := #[33, 9] }) (base : Nat) (W : World) (v : Value) (zs : List Int) (t : ByteArray) (hs : a.eval s = v) (hown : OwnK .u8 5 W base v zs)
    (hx : a.eval x = .string t) (hlen : zs.length + t.size ≤ 140737488355328) (hbase : base ≤ W.heap.size)
    (h : ∀ v' w', OwnK .u8 5 w' base v' (zs ++ strN t) → Below base W w' → wpList Tryd.prog ops Q rest (a.put o.dst v') w') : wpList Tryd.prog ops Q (o :: rest) a W := by
  obtain ⟨i0, hi, hz0, hz1, hz2⟩ := info_parts Tryd.info5
  obtain ⟨v', w', hr, h2, h3, _⟩ := run_append_own_string (P := Tryd.prog) W base 33 9 o.type 5 i0 Tryd.underlying33 Tryd.underlying9 hi hz0 hz1 hz2 v zs.length _ hown t (by unfold maxLen; omega) hlen hbase
  refine wpList_plain hgd fun _ hK => ?_
  unfold Oper.wp execOp
  simp only [ho, resolve, invoke, builtin, Sem.run_bind, Sem.run_pure, Result.andThen_ok, List.map_toArray, List.map_cons, List.map_nil, hs, hx, hr]
  refine hK _ _ (h v' w' ?_ ((Below.refl base W).grown h3 hbase (fun g hg => (hown.lt hg).1)))
  unfold OwnK
  rw [List.length_append, List.map_append, strN_len, ← strCells_strN]
  exact h2

theorem ret_int {k : IntKind} {a b : Int} (h : a = b) : Ending.returned (.int k a) = .returned (.int k b) := by rw [h]
theorem ret_bool {a b : Bool} (h : a = b) : Ending.returned (.bool a) = .returned (.bool b) := by rw [h]

theorem numB_no {z : Int} (h : numB z = false) : z < 0 ∨ 4611686018427387904 < z := by simp [numB] at h; omega

set_option maxHeartbeats 400000 in
theorem isNum_any (z : Int) (w : World) : Calls Tryd.prog 52 #[.int .i64 z] w fun e w' => e = .returned (.bool (numB z)) ∧ w = w' := by
  by_cases g1 : 0 ≤ z
  · by_cases g2 : z ≤ 4611686018427387904
    · have hc : numB z = true := by simp [numB]; omega
      rw [hc]
      clear hc
      go_enter Tryd.func52, Tryd.ntmps52
      go_wp2
      go_ret
      exact ⟨rfl, rfl⟩
    · have hc : numB z = false := by simp [numB]; omega
      rw [hc]
      clear hc
      go_enter Tryd.func52, Tryd.ntmps52
      go_wp2
      go_ret
      exact ⟨rfl, rfl⟩
  · have hc : numB z = false := by simp [numB]; omega
    rw [hc]
    clear hc
    go_enter Tryd.func52, Tryd.ntmps52
    go_wp2
    go_ret
    exact ⟨rfl, rfl⟩

def needB (g k : Int) : Bool := decide (g = 0 ∧ 1 < k)
set_option maxHeartbeats 400000 in
theorem needless_any (g k : Int) (w : World) : Calls Tryd.prog 60 #[.int .i64 g, .int .i64 k] w fun e w' => e = .returned (.bool (needB g k)) ∧ w = w' := by
  by_cases g1 : g = 0
  · by_cases g2 : 1 < k
    · have hc : needB g k = true := by simp [needB]; omega
      rw [hc]
      clear hc
      subst g1
      go_enter Tryd.func60, Tryd.ntmps60
      go_wp2
      go_ret
      exact ⟨rfl, rfl⟩
    · have hc : needB g k = false := by simp [needB]; omega
      rw [hc]
      clear hc
      subst g1
      go_enter Tryd.func60, Tryd.ntmps60
      go_wp2
      go_ret
      exact ⟨rfl, rfl⟩
  · have hc : needB g k = false := by simp [needB]; omega
    rw [hc]
    clear hc
    go_enter Tryd.func60, Tryd.ntmps60
    go_wp2
    go_ret
    exact ⟨rfl, rfl⟩

def modW (z : Int) : Int := z % 4611686018427387904
end Go.Proofs.YtabbbpmhmlapgaaDoor
