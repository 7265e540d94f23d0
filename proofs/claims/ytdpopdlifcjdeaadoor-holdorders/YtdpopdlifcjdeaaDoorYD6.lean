/- Joined: D6. -/
import Derived.Test.YtdpopdlifcjdeaaDoorYD5
import Derived.Lib.Strings
import Derived.Lib.UnsafeStr
import Derived.Laws.MakeOwn
import Derived.Lib.BufferWrite
import Derived.Lib.LazyBuf

/- Hold: a row of numbers, a text, an operation copied. -/
namespace Go.Proofs.YtdpopdlifcjdeaaDoor
open Go.RowKit Go.Lib
set_option linter.unusedVariables false

theorem ownK_empty (w : World) : OwnK .i64 3 (w.alloc (.cells #[] 3)) w.heap.size (.slice (some ⟨w.heap.size, 0, none⟩) 0 0) [] :=
  ⟨rfl, .inr ⟨w.heap.size, 0, #[], rfl, Nat.le_refl _, heap_alloc_new w _, Nat.le_refl _, by simp [maxLen], rfl, rfl⟩⟩
theorem below_grew {w W w' : World} {v v' : Value} {zs ys : List Int} (hb : Below w.heap.size w W) (hg : Grew .i64 3 w.heap.size W v zs ys v' w') : Below w.heap.size w w' := hg.bel _ _ hb (Nat.le_refl _) hb.size
set_option maxHeartbeats 400000 in
theorem wpI_row {ops : Array Oper} {rest : List Oper} {o : Oper} {a : Act} {Q : Exit → Act → World → Prop} (hgd : o.guard = none) (s x : Operand)
    (ho : o.op = .call { callee := .builtin .append, args := #[s, x], argTypes := #[22, 22] }) (base : Nat) (W : World) (v : Value) (zs ys : List Int) (ax : Option Addr) (n c : Nat) (hn : n = ys.length) (hs : a.eval s = v) (hown : OwnK .i64 3 W base v zs)
    (hx : a.eval x = .slice ax n c) (hrow : RowK .i64 W ax ys) (hlen : (zs.length + ys.length) * 8 ≤ 140737488355328) (hbase : base ≤ W.heap.size)
    (h : ∀ v' w', Grew .i64 3 base W v zs ys v' w' → wpList Tryd.prog ops Q rest (a.put o.dst v') w') : wpList Tryd.prog ops Q (o :: rest) a W := by
  obtain ⟨v', w', hr, hg⟩ := run_row (t := 22) (ty := o.type) (bytes := 8) (fun _ => rfl) Tryd.underlying22 Tryd.info3 base W W v zs ys ax n c (Below.refl W.heap.size W) hn hown hrow hlen (by omega) hbase
  refine wpList_plain hgd fun _ hK => ?_
  unfold Oper.wp execOp
  simp only [ho, resolve, invoke, builtin, Sem.run_bind, Sem.run_pure, Result.andThen_ok, List.map_toArray, List.map_cons, List.map_nil, hs, hx, hr]
  exact hK _ _ (h v' w' hg)
def ClonePost (zs : List Int) (w : World) (e : Ending) (w' : World) : Prop := ∃ v, e = .returned v ∧ OwnK .i64 3 w' w.heap.size v zs ∧ Below w.heap.size w w'
set_option maxHeartbeats 1000000 in
set_option maxRecDepth 100000 in
theorem clone_any (a : Option Addr) (zs : List Int) (n c : Nat) (w : World) (hr : RowK .i64 w a zs) (hn : n = zs.length) (h1 : 1 ≤ zs.length) (hl : zs.length * 8 ≤ 140737488355328) : Calls Tryd.prog 40 #[.slice a n c] w (ClonePost zs w) := by
  obtain ⟨b, off, rfl, _⟩ := hr 0 (by omega)
  have HR := Lib.hid (hr.alloc (.cells #[] 3))
  have HN := Lib.hid hn
  have HO := Lib.hid (ownK_empty w)
  have HB := Lib.hid (box_bel w (.cells #[] 3))
  have hnil : ∀ W, (binOp .eql 22 (.slice (some ⟨b, off, none⟩) n c) (.slice none 0 0)).run Tryd.prog W = .ok (.bool false) W := fun W => run_eql_slice_nil W 22 3 (some ⟨b, off, none⟩) n c Tryd.underlying22
  clear hr hn
  go_enter Tryd.func40, Tryd.ntmps40
  go_wp2_with (at_builtin
               refine wpI_row rfl _ _ rfl w.heap.size _ (.slice (some ⟨w.heap.size, 0, none⟩) 0 0) [] zs (some ⟨b, off, none⟩) n c HN.out rfl HO.out rfl HR.out (by simp; omega) HB.out.size ?_
               intro v1 w1 hg1
               have HG := Lib.hid hg1
               clear hg1)
  go_ret
  exact ⟨_, rfl, by have := HG.out.own; rw [List.nil_append] at this; exact this, below_grew HB.out HG.out⟩

theorem Tryd.info5' : (Tryd.prog.info? 5).map (·.size) = some 1 := by kernel_rfl
set_option maxHeartbeats 4000000 in
set_option maxRecDepth 100000 in
theorem strClone0_any (s : ByteArray) (w : World) (hl : s.size ≤ 65536) : Calls Tryd.prog 80 #[.string s] w fun e w' => e = .returned (.string s) ∧ Below w.heap.size w w' := by
  by_cases h0 : s.size = 0
  · have hs : s = ⟨#[]⟩ := by
      apply ByteArray.ext
      exact Array.eq_empty_of_size_eq_zero h0
    subst hs
    go_enter Tryd.func80, Tryd.ntmps80
    go_wp2
    go_ret
    exact ⟨rfl, Below.refl _ _⟩
  · obtain ⟨i0, hi, hz0, hz1, hz2⟩ := info_parts Tryd.info5
    have hco : Tryd.prog.cellsOf 5 = 1 := by kernel_rfl
    obtain ⟨M, hM⟩ : ∃ M, M = madeCells (Value.int .u8 0).cells (((s.size : Nat) : Int).toNat * i0.size) := ⟨_, rfl⟩
    have hMs : M.size = s.size := by rw [hM, size_madeCells, hz1]; simp
    have hmk : ∀ W : World, (Instr.makeSlice 98 (.int .i64 (s.size : Int)) (.int .i64 (s.size : Int))).run Tryd.prog W = .ok (.slice (some ⟨W.heap.size, 0, none⟩) s.size s.size) (W.alloc (.cells M 5)) := fun W => by
      have h := run_make (P := Tryd.prog) W 98 5 i0 (.int .u8 0) Tryd.underlying98 hi hz0 .i64 .i64 (s.size : Int) (s.size : Int) (by omega) (by omega) (by rw [hz2]; omega) (by omega)
      rw [← hM] at h
      simpa using h
    clear hM
    have hcp := Lib.run_copy_row_string (P := Tryd.prog) (w.alloc (.cells M 5)) 98 9 3 5 w.heap.size 0 s.size s.size s M 5 Tryd.underlying98 Tryd.info5' (heap_alloc_new w _) (Nat.le_refl _) (by omega)
    obtain ⟨Y, hY⟩ : ∃ Y, Y = (M.toList.take 0 ++ Lib.byteCells s.data.toList ++ M.toList.drop (0 + s.size)).toArray := ⟨_, rfl⟩
    rw [← hY] at hcp
    have hYl : Y.toList = Lib.byteCells s.data.toList := by
      rw [hY, List.toList_toArray, List.take_zero, List.nil_append, List.drop_of_length_le (by rw [Array.length_toList]; omega), List.append_nil]
    have hYs : Y.size = s.size := by rw [← Array.length_toList, hYl, Lib.byteCells_length, ← Lib.size_eq]
    have hgY : ((w.alloc (.cells M 5)).setRow w.heap.size Y).heap[w.heap.size]? = some (.cells Y 5 (0, 0)) := setRow_heap _ _ M _ 5 (0, 0) (heap_alloc_new w _)
    have hne : s.data.toList ≠ [] := fun e => h0 (by rw [Lib.size_eq, e]; rfl)
    have hUS := Lib.run_unsafeString_row (P := Tryd.prog) ((w.alloc (.cells M 5)).setRow w.heap.size Y) 99 3 9 5 Tryd.underlying99 hco w.heap.size Y.size (by unfold World.shape?; rw [hgY]) s.data.toList hne (by rw [← Lib.size_eq]; omega) (by rw [← Lib.size_eq]; omega)
      (fun j x hx => Lib.cells_of_row hgY Y.size j _ (by rw [List.take_of_length_le (by rw [Array.length_toList]; exact Nat.le_refl _), hYl]; simp [Lib.byteCells, hx]))
    rw [← Lib.size_eq] at hUS
    clear hY
    go_enter Tryd.func80, Tryd.ntmps80
    go_wp2
    go_ret
    have hb1 : Below w.heap.size w (w.alloc (.cells M 5)) := box_bel w _
    have hb2 : Below w.heap.size (w.alloc (.cells M 5)) ((w.alloc (.cells M 5)).setRow w.heap.size Y) := ⟨rfl, rfl, rfl, by simp, fun k hk => setRow_other _ _ _ _ (by omega)⟩
    exact ⟨rfl, Lib.below_freeze (hb1.trans hb2) (p := ⟨w.heap.size, 0, none⟩) (Nat.le_refl _) _⟩
theorem strClone_any (s : ByteArray) (w : World) (hl : s.size ≤ 65536) : Calls Tryd.prog 67 #[.string s] w fun e w' => e = .returned (.string s) ∧ Below w.heap.size w w' := by
  have C := Lib.hid (strClone0_any s w hl)
  clear hl
  go_enter Tryd.func67, Tryd.ntmps67
  go_wp2_with fail
  refine (C.out).mono ?_
  rintro e w1 ⟨rfl, hb1⟩
  have HB1 := Lib.hid hb1
  clear hb1
  go_wp2
  go_ret
  exact ⟨rfl, HB1.out⟩
end Go.Proofs.YtdpopdlifcjdeaaDoor
