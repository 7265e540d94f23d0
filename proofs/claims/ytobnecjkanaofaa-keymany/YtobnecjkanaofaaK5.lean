/- Rows of texts: one that is read, one that the call owns, more behind it, a part of it; a copy. -/
import Derived.Test.YtobnecjkanaofaaW2
namespace Go.Proofs.Ytobnecjkanaofaa
open Go.RowKit Go.Lib
set_option linter.unusedVariables false

theorem Try.info9 : (Try.prog.info? 9).map (fun i => (i.zero, i.size, i.bytes)) = some (some (.string ⟨#[]⟩), 1, 16) := by kernel_rfl
theorem size9 (w : World) : (Go.sizeOf 9).run Try.prog w = .ok 1 w := by
  obtain ⟨i0, hi, hz0, hz1, hz2⟩ := info_parts Try.info9
  simp [Go.sizeOf, typeInfo, hi, hz1]
theorem sliceS_l (w : World) (a : Option Addr) (len cap l : Nat) (zl : Int) (el : zl = (l : Int)) (h1 : l ≤ len) :
    (Instr.slice 38 (.slice a len cap) (some (.int .i64 zl)) none none).run Try.prog w = .ok (.slice (partA a l cap) (len - l) (cap - l)) w := by
  subst el
  have ht' : Try.prog.underlying 38 = some (.slice (Try.prog.elem 38)) := by simp [Program.elem, Try.underlying38]
  have he : Try.prog.elem 38 = 9 := by simp [Program.elem, Try.underlying38]
  rw [run_slice_l w 38 _ _ _ ht' .i64 _ (by omega) (by omega), he, size9]
  simp [Result.andThen, sliced, partA]
theorem sliceS_h (w : World) (a : Option Addr) (len cap h : Nat) (zh : Int) (eh : zh = (h : Int)) (h1 : h ≤ cap) :
    (Instr.slice 38 (.slice a len cap) none (some (.int .i64 zh)) none).run Try.prog w = .ok (.slice (partA a 0 cap) h cap) w := by
  subst eh
  have ht' : Try.prog.underlying 38 = some (.slice (Try.prog.elem 38)) := by simp [Program.elem, Try.underlying38]
  have he : Try.prog.elem 38 = 9 := by simp [Program.elem, Try.underlying38]
  rw [run_slice_h w 38 _ _ _ ht' .i64 _ (by omega) (by omega), he, size9]
  simp [Result.andThen, sliced, partA]

/-- a slice's elements, in a world -/
def RowS (w : World) (a : Option Addr) (zs : List ByteArray) : Prop :=
  ∀ i, i < zs.length → ∃ b off, a = some ⟨b, off, none⟩ ∧ w.cell? ⟨b, off + i, none⟩ = some (.string (zs.getD i ⟨#[]⟩))
theorem RowS.nil (w : World) (a : Option Addr) : RowS w a [] := fun i hi => by simp at hi
theorem RowS.below {w w' : World} {a : Option Addr} {zs : List ByteArray} {B : Nat} (h : RowS w a zs) (hb : Below B w w') (hB : w.heap.size ≤ B) : RowS w' a zs := by
  intro i hi
  obtain ⟨b, off, rfl, hc⟩ := h i hi
  refine ⟨b, off, rfl, ?_⟩
  have := World.block_lt_of_cell? _ _ hc
  rw [hb.cell (p := ⟨b, off + i, none⟩) (by simp only at this ⊢; omega)]
  exact hc
theorem RowS.alloc {w : World} {a : Option Addr} {zs : List ByteArray} (h : RowS w a zs) (o : Obj) : RowS (w.alloc o) a zs := h.below ((Below.refl w.heap.size w).alloc (Nat.le_refl _) o) (Nat.le_refl _)
theorem RowS.drewN {w : World} {a : Option Addr} {zs : List ByteArray} (h : RowS w a zs) (n : Nat) : RowS (w.drewN n) a zs := h
theorem RowS.part {w : World} {a : Option Addr} {zs : List ByteArray} (h : RowS w a zs) (l n cap : Nat) (hn : zs.length ≤ cap) : RowS w (partA a l cap) ((zs.drop l).take n) := by
  intro i hi
  rw [List.length_take, List.length_drop] at hi
  obtain ⟨b, off, rfl, hc⟩ := h (l + i) (by omega)
  refine ⟨b, off + l, ?_, ?_⟩
  · unfold partA
    rw [if_neg (by omega), Option.map_some, addr_add]
  · rw [Nat.add_assoc, hc]
    congr 2
    simp [List.getD, show i < n by omega]
theorem RowS.rest {w : World} {a : Option Addr} {zs : List ByteArray} (h : RowS w a zs) (l cap : Nat) (hn : zs.length ≤ cap) : RowS w (partA a l cap) (zs.drop l) := by
  have := h.part l zs.length cap hn
  rw [List.take_of_length_le (by rw [List.length_drop]; omega)] at this
  exact this
theorem RowS.first {w : World} {a : Option Addr} {zs : List ByteArray} (h : RowS w a zs) (n cap : Nat) (hn : zs.length ≤ cap) : RowS w (partA a 0 cap) (zs.take n) := by
  have := h.part 0 n cap hn
  rw [List.drop_zero] at this
  exact this

/-- a row of texts that the call has made -/
def OwnS (w : World) (base : Nat) (v : Value) (zs : List ByteArray) : Prop := w.ownsRow base 9 1 v zs.length (zs.map (Value.string))

theorem OwnS.nil (w : World) (base : Nat) : OwnS w base (.slice none 0 0) [] := World.ownsRow_nil w base 9 1
theorem OwnS.below {w w' : World} {base : Nat} {v : Value} {zs : List ByteArray} (h : OwnS w base v zs) (hb : Below w.heap.size w w') : OwnS w' base v zs :=
  World.ownsRow.kept h (row := none) ⟨hb.os, hb.tape, hb.output, hb.size, fun k hk _ => hb.block k hk⟩ (by cases h : v.ownBlock <;> simp)
theorem OwnS.alloc {w : World} {base : Nat} {v : Value} {zs : List ByteArray} (h : OwnS w base v zs) (o : Obj) : OwnS (w.alloc o) base v zs := World.ownsRow.alloc h o
theorem OwnS.drewN {w : World} {base : Nat} {v : Value} {zs : List ByteArray} (h : OwnS w base v zs) (n : Nat) : OwnS (w.drewN n) base v zs := h
theorem OwnS.lt {w : World} {base : Nat} {v : Value} {zs : List ByteArray} (h : OwnS w base v zs) {g : Nat} (hg : v.ownBlock = some g) : base ≤ g ∧ g < w.heap.size := World.ownsRow.lt h g hg
theorem OwnS.mono {w : World} {base base' : Nat} {v : Value} {zs : List ByteArray} (h : OwnS w base v zs) (hb : base' ≤ base) : OwnS w base' v zs := by
  refine ⟨h.1, ?_⟩
  rcases h.2 with hn | ⟨g, cap, cur, e, h1, h2⟩
  · exact .inl hn
  · exact .inr ⟨g, cap, cur, e, by omega, h2⟩
theorem OwnS.form {w : World} {base : Nat} {v : Value} {zs : List ByteArray} (h : OwnS w base v zs) : ∃ a cap, v = .slice a zs.length cap ∧ RowS w a zs ∧ zs.length ≤ cap ∧ cap ≤ 9223372036854775807 := by
  rcases h.2 with ⟨rfl, h0⟩ | ⟨g, cap, cur, rfl, hg, hh, hn, hm, hs, ht⟩
  · exact ⟨none, 0, by rw [h0], fun i hi => by omega, by omega, by omega⟩
  · have hc : ∀ i, i < zs.length → cur[i]? = some (.string (zs.getD i ⟨#[]⟩)) := by
      intro i hi
      have h1 : (cur.toList.take (zs.length * 1))[i]? = cur.toList[i]? := by rw [List.getElem?_take, if_pos (by omega)]
      rw [ht] at h1
      rw [← Array.getElem?_toList, ← h1, List.getElem?_map, List.getD_eq_getElem?_getD, List.getElem?_eq_getElem hi]
      rfl
    refine ⟨_, cap, rfl, fun i hi => ⟨g, 0, rfl, ?_⟩, hn, by simp only [maxLen] at hm; omega⟩
    rw [Nat.zero_add]
    simp [World.cell?, hh, hc i hi]

/-- what is told of the world behind more of them -/
structure GrewS (base : Nat) (W : World) (v : Value) (zs ys : List ByteArray) (v' : Value) (w' : World) : Prop where
  own : OwnS w' base v' (zs ++ ys)
  size : W.heap.size ≤ w'.heap.size
  bel : ∀ B (a : World), Below B a W → B ≤ base → B ≤ W.heap.size → Below B a w'

theorem grewS_of {base : Nat} {W W1 : World} {v v' : Value} {zs ys : List ByteArray} {w' : World} (hB : Below W.heap.size W W1) (hown : OwnS W base v zs) (hs : W1.heap.size ≤ w'.heap.size)
    (h2 : OwnS w' base v' (zs ++ ys)) (h3 : W1.grownBy w' v.ownBlock) : GrewS base W v zs ys v' w' := by
  have hWs := hB.size
  refine ⟨h2, by omega, ?_⟩
  intro B a0 hb hB1 hB2
  exact (hb.trans (hB.mono hB2)).grown h3 (by omega) (fun g hg => by have := (hown.lt hg).1; omega)

theorem runS_row {ty : TypeId} (base : Nat) (W W1 : World) (v : Value) (zs ys : List ByteArray) (a : Option Addr) (n c : Nat) (hB : Below W.heap.size W W1) (hn : n = ys.length) (hown : OwnS W base v zs) (hx : RowS W1 a ys) (hlen : (zs.length + ys.length) * 16 ≤ 140737488355328) (hbase : base ≤ W.heap.size) :
    ∃ v' w', (Builtin.append_ #[38, 38] ty #[v, .slice a n c]).run Try.prog W1 = .ok v' w' ∧ GrewS base W v zs ys v' w' := by
  subst hn
  obtain ⟨i0, hi, hz0, hz1, hz2⟩ := info_parts Try.info9
  have hown1 := hown.below hB
  have hWs := hB.size
  by_cases h0 : 0 < ys.length
  · obtain ⟨b, off, rfl, _⟩ := hx 0 h0
    obtain ⟨v', w', hr, h2, h3, h4, h5⟩ := run_append_own_at (P := Try.prog) W1 base 38 ty 9 i0 (.string ⟨#[]⟩) 1 16 Try.underlying38 hi hz0 hz1 hz2 rfl (by decide) v zs.length (zs.map (Value.string)) hown1 ⟨b, off, none⟩ ys.length c (ys.map (Value.string)) (by simp)
      (by
        intro j u hu
        have hj : j < ys.length := by
          rcases Nat.lt_or_ge j ys.length with h | h
          · exact h
          · rw [List.getElem?_eq_none (by simpa using h)] at hu; cases hu
        obtain ⟨b', off', ee, hc⟩ := hx j hj
        simp only [Option.some.injEq, Addr.mk.injEq] at ee
        obtain ⟨rfl, rfl, _⟩ := ee
        rw [addr_add, hc, ← hu, List.getElem?_map, List.getD_eq_getElem?_getD, List.getElem?_eq_getElem hj]; rfl)
      (by intro u hu; simp only [List.mem_map] at hu; obtain ⟨z, _, rfl⟩ := hu; rfl) (by unfold maxLen; omega) hlen (by omega)
    refine ⟨v', w', hr, grewS_of hB hown h3.size ?_ h3⟩
    unfold OwnS
    rw [List.length_append, List.map_append]
    exact h2
  · have hy : ys = [] := List.eq_nil_of_length_eq_zero (by omega)
    subst hy
    have hf : ∀ (x : Option Addr), (Builtin.firstCells 1 0 (.slice x 0 c)).run Try.prog W1 = .ok #[] W1 := by
      intro x; cases x <;> simp [Builtin.firstCells, loadCells, loadCellsFrom]
    rcases hown1.2 with ⟨rfl, hz⟩ | ⟨g, cap, cur, rfl, hg, hh, hnc, hm, hs, htk⟩
    · refine ⟨.slice none 0 0, W1, ?_, ⟨by rw [List.append_nil]; exact hown1, hWs, fun B a0 hb h1 h2 => hb.trans (hB.mono h2)⟩⟩
      simp [Builtin.append_, run_underlying Try.underlying38, Go.sizeOf, typeInfo, hi, hz1, Builtin.lenOf, hf]
    · refine ⟨.slice (some ⟨g, 0, none⟩) zs.length cap, W1, ?_, ⟨by rw [List.append_nil]; exact hown1, hWs, fun B a0 hb h1 h2 => hb.trans (hB.mono h2)⟩⟩
      simp [Builtin.append_, run_underlying Try.underlying38, Go.sizeOf, typeInfo, hi, hz1, Builtin.lenOf, hf, hnc, storeCells]


theorem oneS_row (W : World) (z : ByteArray) : RowS (W.alloc (.cells #[.string z] 9)) (some ⟨W.heap.size, 0, none⟩) [z] := by
  intro i hi
  simp only [List.length_cons, List.length_nil] at hi
  obtain rfl : i = 0 := by omega
  exact ⟨W.heap.size, 0, rfl, by simp⟩

set_option maxHeartbeats 400000 in
theorem wpS_one {ops : Array Oper} {rest : List Oper} {o : Oper} {a : Act} {Q : Exit → Act → World → Prop} (hgd : o.guard = none) (s x : Operand)
    (ho : o.op = .call { callee := .builtin .append, args := #[s, x], argTypes := #[38, 38] }) (base : Nat) (W : World) (v : Value) (zs : List ByteArray) (z : ByteArray) (hs : a.eval s = v) (hown : OwnS W base v zs)
    (hx : a.eval x = .slice (some ⟨W.heap.size, 0, none⟩) 1 1) (hlen : (zs.length + 1) * 16 ≤ 140737488355328) (hbase : base ≤ W.heap.size)
    (h : ∀ v' w', GrewS base W v zs [z] v' w' → wpList Try.prog ops Q rest (a.put o.dst v') w') : wpList Try.prog ops Q (o :: rest) a (W.alloc (.cells #[.string z] 9)) := by
  obtain ⟨v', w', hr, hg⟩ := runS_row (ty := o.type) base W _ v zs [z] _ 1 1 ((Below.refl W.heap.size W).alloc (Nat.le_refl _) _) rfl hown (oneS_row W z) (by simpa using hlen) hbase
  refine wpList_plain hgd fun _ hK => ?_
  unfold Oper.wp execOp
  simp only [ho, resolve, invoke, builtin, Sem.run_bind, Sem.run_pure, Result.andThen_ok, List.map_toArray, List.map_cons, List.map_nil, hs, hx, hr]
  exact hK _ _ (h v' w' hg)
set_option maxHeartbeats 400000 in
theorem wpS_row {ops : Array Oper} {rest : List Oper} {o : Oper} {a : Act} {Q : Exit → Act → World → Prop} (hgd : o.guard = none) (s x : Operand)
    (ho : o.op = .call { callee := .builtin .append, args := #[s, x], argTypes := #[38, 38] }) (base : Nat) (W : World) (v : Value) (zs ys : List ByteArray) (ax : Option Addr) (n c : Nat) (hn : n = ys.length) (hs : a.eval s = v) (hown : OwnS W base v zs)
    (hx : a.eval x = .slice ax n c) (hrow : RowS W ax ys) (hlen : (zs.length + ys.length) * 16 ≤ 140737488355328) (hbase : base ≤ W.heap.size)
    (h : ∀ v' w', GrewS base W v zs ys v' w' → wpList Try.prog ops Q rest (a.put o.dst v') w') : wpList Try.prog ops Q (o :: rest) a W := by
  obtain ⟨v', w', hr, hg⟩ := runS_row (ty := o.type) base W W v zs ys ax n c (Below.refl W.heap.size W) hn hown hrow hlen hbase
  refine wpList_plain hgd fun _ hK => ?_
  unfold Oper.wp execOp
  simp only [ho, resolve, invoke, builtin, Sem.run_bind, Sem.run_pure, Result.andThen_ok, List.map_toArray, List.map_cons, List.map_nil, hs, hx, hr]
  exact hK _ _ (h v' w' hg)

theorem takeS_getD (zs : List ByteArray) (k : Nat) (h : k < zs.length) : zs.take (k + 1) = zs.take k ++ [zs.getD k ⟨#[]⟩] := by
  rw [List.take_add_one, List.getD_eq_getElem?_getD, List.getElem?_eq_getElem h]; rfl
def TextsPost (base : Nat) (w : World) (zs : List ByteArray) (e : Ending) (w' : World) : Prop := ∃ v', e = .returned v' ∧ OwnS w' base v' zs ∧ Below base w w'
set_option maxHeartbeats 400000 in
theorem copyS_any (a : Option Addr) (zs : List ByteArray) (n c : Nat) (w : World) (ha : RowS w a zs) (hn : n = zs.length) (hl : zs.length ≤ 65536) :
    Calls Try.prog 16 #[.slice a n c] w (TextsPost w.heap.size w zs) := by
  subst hn
  have HA := Lib.hid ha
  clear ha
  go_enter Try.func16, Try.ntmps16
  go_wp2
  go_loopg [3, 4] zs.length (fun g1 v i wr => ∃ k : Nat, i = .int .i64 k ∧ k ≤ zs.length ∧ zs.length - k ≤ g1 ∧ Hid (OwnS wr w.heap.size v (zs.take k) ∧ Below w.heap.size w wr))
  case atStart => exact ⟨0, rfl, Nat.zero_le _, by omega, ⟨OwnS.nil _ _, Below.refl _ _⟩⟩
  case round =>
    obtain ⟨k, rfl, hk, hg, HI⟩ := hrel
    by_cases hlt : k < zs.length
    · obtain ⟨b1, o1, rfl, hc1⟩ := HA.out k hlt
      have hbl := World.block_lt_of_cell? _ _ hc1
      have hsz := HI.out.2.size
      have hd1 : wr.cell? ⟨b1, o1 + k, none⟩ = some (.string (zs.getD k ⟨#[]⟩)) := (HI.out.2.cell (p := ⟨b1, o1 + k, none⟩) hbl).trans hc1
      have hltz : (k : Int) < (zs.length : Int) := by omega
      have HT := Lib.hid (takeS_getD zs k hlt)
      clear hc1 hbl
      generalize zs.getD k ⟨#[]⟩ = z at *
      go_wp2_with (at_builtin
                   refine wpS_one rfl _ _ rfl w.heap.size wr u3 (zs.take k) z rfl HI.out.1 rfl (by rw [List.length_take]; omega) (by omega) ?_
                   intro v1 w2 hp1
                   have HI2 : Hid (OwnS w2 w.heap.size v1 (zs.take (k + 1)) ∧ Below w.heap.size w w2) := ⟨by rw [HT.out]; exact hp1.own, hp1.bel _ _ HI.out.2 (Nat.le_refl _) (by omega)⟩
                   clear hp1 HI HT hd1)
      go_roundg (zs.length - (k + 1))
      case measure => omega
      case rel => exact ⟨k + 1, by go_num, by omega, by omega, HI2⟩
    · have hltz : ¬ (k : Int) < (zs.length : Int) := by omega
      have HF : Hid (TextsPost w.heap.size w zs (.returned u3) wr) := by
        have h1 := HI.out.1
        rw [List.take_of_length_le (by omega)] at h1
        exact ⟨u3, rfl, h1, HI.out.2⟩
      clear HI
      go_wp2
      go_ret
      exact HF.out
end Go.Proofs.Ytobnecjkanaofaa
