/- Words for rows of numbers of any kind: one that is read, one that the call owns, more behind it, a part of it. -/
import Derived.Test.YtjpjjckokonkpaaDoorM1
import Derived.WalkKit
import Derived.WalkSpells
import Derived.WalkLawsBesides
import Derived.Lib.Hide
import Derived.IntWalk
import Derived.WalkMore
import Derived.ScopeJumps
import Derived.Maps.AppendAt
import Derived.OwnWalk
import Derived.Lib.AppendStr
import Derived.Below
import Derived.BigQuiet
import Derived.Deep.LoopGhost
import Derived.Deep.RegionHeld3
import Derived.StillTailTactics
import Derived.Deep.DeepCutAuto
import Derived.Deep.QuietTactic
namespace Go.Proofs.YtjpjjckokonkpaaDoor
open Go.RowKit Go.Lib

theorem below_drewN {B : Nat} {a b : World} (h : Below B a b) (n : Nat) : Below B a (b.drewN n) := ⟨h.os, h.tape, h.output, h.size, h.block⟩

/-- a slice's elements, in a world -/
def RowK (kd : IntKind) (w : World) (a : Option Addr) (zs : List Int) : Prop :=
  ∀ i, i < zs.length → ∃ b off, a = some ⟨b, off, none⟩ ∧ w.cell? ⟨b, off + i, none⟩ = some (.int kd (zs.getD i 0))
theorem RowK.nil (kd : IntKind) (w : World) (a : Option Addr) : RowK kd w a [] := fun i hi => by simp at hi
theorem RowK.below {kd : IntKind} {w w' : World} {a : Option Addr} {zs : List Int} {B : Nat} (h : RowK kd w a zs) (hb : Below B w w') (hB : w.heap.size ≤ B) : RowK kd w' a zs := by
  intro i hi
  obtain ⟨b, off, rfl, hc⟩ := h i hi
  refine ⟨b, off, rfl, ?_⟩
  have := World.block_lt_of_cell? _ _ hc
  rw [hb.cell (p := ⟨b, off + i, none⟩) (by simp only at this ⊢; omega)]
  exact hc
theorem RowK.alloc {kd : IntKind} {w : World} {a : Option Addr} {zs : List Int} (h : RowK kd w a zs) (o : Obj) : RowK kd (w.alloc o) a zs := h.below ((Below.refl w.heap.size w).alloc (Nat.le_refl _) o) (Nat.le_refl _)
theorem RowK.drewN {kd : IntKind} {w : World} {a : Option Addr} {zs : List Int} (h : RowK kd w a zs) (n : Nat) : RowK kd (w.drewN n) a zs := h
/-- all blocks that the slice's elements lie in are below B -/
def RowLt (B : Nat) (a : Option Addr) (zs : List Int) : Prop := 0 < zs.length → ∃ b off, a = some ⟨b, off, none⟩ ∧ b < B
theorem RowK.rowLt {kd : IntKind} {w : World} {a : Option Addr} {zs : List Int} (h : RowK kd w a zs) : RowLt w.heap.size a zs := fun h0 => by
  obtain ⟨b, off, rfl, hc⟩ := h 0 h0
  exact ⟨b, off, rfl, World.block_lt_of_cell? _ _ hc⟩
theorem RowLt.mono {B B' : Nat} {a : Option Addr} {zs : List Int} (h : RowLt B a zs) (hb : B ≤ B') : RowLt B' a zs := fun h0 => by
  obtain ⟨b, off, e, hl⟩ := h h0
  exact ⟨b, off, e, by omega⟩
theorem RowK.below' {kd : IntKind} {w w' : World} {a : Option Addr} {zs : List Int} {B : Nat} (h : RowK kd w a zs) (hl : RowLt B a zs) (hb : Below B w w') : RowK kd w' a zs := by
  intro i hi
  obtain ⟨b, off, rfl, hc⟩ := h i hi
  refine ⟨b, off, rfl, ?_⟩
  obtain ⟨b', off', e, hlt⟩ := hl (by omega)
  simp only [Option.some.injEq, Addr.mk.injEq] at e
  rw [hb.cell (p := ⟨b, off + i, none⟩) (by simp only; omega)]
  exact hc

theorem addr_add (b off i : Nat) : (⟨b, off, none⟩ : Addr).add i = ⟨b, off + i, none⟩ := by unfold Addr.add; split <;> simp_all

/-- where a part of a slice begins -/
def partA (a : Option Addr) (l cap : Nat) : Option Addr := if cap = l then a else a.map (·.add l)
theorem RowK.part {kd : IntKind} {w : World} {a : Option Addr} {zs : List Int} (h : RowK kd w a zs) (l n cap : Nat) (hn : zs.length ≤ cap) : RowK kd w (partA a l cap) ((zs.drop l).take n) := by
  intro i hi
  rw [List.length_take, List.length_drop] at hi
  obtain ⟨b, off, rfl, hc⟩ := h (l + i) (by omega)
  refine ⟨b, off + l, ?_, ?_⟩
  · unfold partA
    rw [if_neg (by omega), Option.map_some, addr_add]
  · rw [Nat.add_assoc, hc]
    congr 2
    simp [List.getD, show i < n by omega]
theorem RowK.rest {kd : IntKind} {w : World} {a : Option Addr} {zs : List Int} (h : RowK kd w a zs) (l cap : Nat) (hn : zs.length ≤ cap) : RowK kd w (partA a l cap) (zs.drop l) := by
  have := h.part l zs.length cap hn
  rw [List.take_of_length_le (by rw [List.length_drop]; omega)] at this
  exact this
theorem RowK.first {kd : IntKind} {w : World} {a : Option Addr} {zs : List Int} (h : RowK kd w a zs) (n cap : Nat) (hn : zs.length ≤ cap) : RowK kd w (partA a 0 cap) (zs.take n) := by
  have := h.part 0 n cap hn
  rw [List.drop_zero] at this
  exact this

theorem Tryd.info3 : (Tryd.prog.info? 3).map (fun i => (i.zero, i.size, i.bytes)) = some (some (.int .i64 0), 1, 8) := by kernel_rfl
theorem Tryd.info5 : (Tryd.prog.info? 5).map (fun i => (i.zero, i.size, i.bytes)) = some (some (.int .u8 0), 1, 1) := by kernel_rfl
theorem size5 (w : World) : (Go.sizeOf 5).run Tryd.prog w = .ok 1 w := by
  obtain ⟨i0, hi, hz0, hz1, hz2⟩ := info_parts Tryd.info5
  simp [Go.sizeOf, typeInfo, hi, hz1]
/-- a row of numbers that the call has made -/
def OwnK (kd : IntKind) (e : TypeId) (w : World) (base : Nat) (v : Value) (zs : List Int) : Prop := w.ownsRow base e 1 v zs.length (zs.map (Value.int kd))

section
variable {kd : IntKind} {e : TypeId}
theorem OwnK.nil (kd : IntKind) (e : TypeId) (w : World) (base : Nat) : OwnK kd e w base (.slice none 0 0) [] := World.ownsRow_nil w base e 1
theorem OwnK.below {w w' : World} {base : Nat} {v : Value} {zs : List Int} (h : OwnK kd e w base v zs) (hb : Below w.heap.size w w') : OwnK kd e w' base v zs :=
  World.ownsRow.kept h (row := none) ⟨hb.os, hb.tape, hb.output, hb.size, fun k hk _ => hb.block k hk⟩ (by cases h : v.ownBlock <;> simp)
theorem OwnK.alloc {w : World} {base : Nat} {v : Value} {zs : List Int} (h : OwnK kd e w base v zs) (o : Obj) : OwnK kd e (w.alloc o) base v zs := World.ownsRow.alloc h o
theorem OwnK.drewN {w : World} {base : Nat} {v : Value} {zs : List Int} (h : OwnK kd e w base v zs) (n : Nat) : OwnK kd e (w.drewN n) base v zs := h
theorem OwnK.lt {w : World} {base : Nat} {v : Value} {zs : List Int} (h : OwnK kd e w base v zs) {g : Nat} (hg : v.ownBlock = some g) : base ≤ g ∧ g < w.heap.size := World.ownsRow.lt h g hg
theorem OwnK.mono {w : World} {base base' : Nat} {v : Value} {zs : List Int} (h : OwnK kd e w base v zs) (hb : base' ≤ base) : OwnK kd e w base' v zs := by
  refine ⟨h.1, ?_⟩
  rcases h.2 with hn | ⟨g, cap, cur, e, h1, h2⟩
  · exact .inl hn
  · exact .inr ⟨g, cap, cur, e, by omega, h2⟩
theorem OwnK.form {w : World} {base : Nat} {v : Value} {zs : List Int} (h : OwnK kd e w base v zs) : ∃ a cap, v = .slice a zs.length cap ∧ RowK kd w a zs ∧ zs.length ≤ cap ∧ cap ≤ 9223372036854775807 := by
  rcases h.2 with ⟨rfl, h0⟩ | ⟨g, cap, cur, rfl, hg, hh, hn, hm, hs, ht⟩
  · exact ⟨none, 0, by rw [h0], fun i hi => by omega, by omega, by omega⟩
  · have hc : ∀ i, i < zs.length → cur[i]? = some (.int kd (zs.getD i 0)) := by
      intro i hi
      have h1 : (cur.toList.take (zs.length * 1))[i]? = cur.toList[i]? := by rw [List.getElem?_take, if_pos (by omega)]
      rw [ht] at h1
      rw [← Array.getElem?_toList, ← h1, List.getElem?_map, List.getD_eq_getElem?_getD, List.getElem?_eq_getElem hi]
      rfl
    refine ⟨_, cap, rfl, fun i hi => ⟨g, 0, rfl, ?_⟩, hn, by simp only [maxLen] at hm; omega⟩
    rw [Nat.zero_add]
    simp [World.cell?, hh, hc i hi]

/-- none of the slice's elements lies in v's own row -/
def Ap (v : Value) (a : Option Addr) (zs : List Int) : Prop := 0 < zs.length → ∀ g, v.ownBlock = some g → ∃ b off, a = some ⟨b, off, none⟩ ∧ b ≠ g
theorem Ap.nil (a : Option Addr) (zs : List Int) : Ap (.slice none 0 0) a zs := fun _ g h => by simp [Value.ownBlock] at h
theorem Ap.of_lt {B : Nat} {v : Value} {a : Option Addr} {ys : List Int} (hl : RowLt B a ys) (hv : ∀ g, v.ownBlock = some g → B ≤ g) : Ap v a ys := fun h0 g hg => by
  obtain ⟨b, off, e, hb⟩ := hl h0
  exact ⟨b, off, e, by have := hv g hg; omega⟩
/-- all of the slice's elements lie from B on -/
def RowGe (B : Nat) (a : Option Addr) (zs : List Int) : Prop := 0 < zs.length → ∃ b off, a = some ⟨b, off, none⟩ ∧ B ≤ b
theorem Ap.of_ge {B : Nat} {v : Value} {a : Option Addr} {ys : List Int} (hl : RowGe B a ys) (hv : ∀ g, v.ownBlock = some g → g < B) : Ap v a ys := fun h0 g hg => by
  obtain ⟨b, off, e, hb⟩ := hl h0
  exact ⟨b, off, e, by have := hv g hg; omega⟩
theorem OwnK.rowGe {w : World} {base : Nat} {a : Option Addr} {n c : Nat} {zs : List Int} (h : OwnK kd e w base (.slice a n c) zs) : RowGe base a zs := fun h0 => by
  rcases h.2 with ⟨hv, h0'⟩ | ⟨g, cap, cur, hv, hg, _⟩
  · omega
  · simp only [Value.slice.injEq] at hv
    exact ⟨g, 0, hv.1, hg⟩

/-- what is told of the world behind more of them -/
structure Grew (kd : IntKind) (e : TypeId) (base : Nat) (W : World) (v : Value) (zs ys : List Int) (v' : Value) (w' : World) : Prop where
  own : OwnK kd e w' base v' (zs ++ ys)
  size : W.heap.size ≤ w'.heap.size
  bel : ∀ B (a : World), Below B a W → B ≤ base → B ≤ W.heap.size → Below B a w'
  oth : ∀ kd2 a2 us, RowK kd2 W a2 us → Ap v a2 us → RowK kd2 w' a2 us ∧ Ap v' a2 us

theorem grew_of {base : Nat} {W W1 : World} {v v' : Value} {zs ys : List Int} {w' : World} (hB : Below W.heap.size W W1) (hown : OwnK kd e W base v zs) (hs : W1.heap.size ≤ w'.heap.size)
    (h2 : OwnK kd e w' base v' (zs ++ ys)) (h3 : W1.grownBy w' v.ownBlock) (h5 : v'.ownBlock = v.ownBlock ∨ v'.ownBlock = some W1.heap.size) : Grew kd e base W v zs ys v' w' := by
  have hWs := hB.size
  refine ⟨h2, by omega, ?_, ?_⟩
  · intro B a0 hb hB1 hB2
    exact (hb.trans (hB.mono hB2)).grown h3 (by omega) (fun g hg => by have := (hown.lt hg).1; omega)
  · intro kd2 a2 us hr hd
    have hr1 : RowK kd2 W1 a2 us := hr.below hB (Nat.le_refl _)
    have hlt := hr.rowLt
    refine ⟨?_, ?_⟩
    · intro i hi
      obtain ⟨b, off, rfl, hc⟩ := hr1 i hi
      refine ⟨b, off, rfl, h3.cell hc ?_⟩
      intro hbv
      obtain ⟨b', off', ee, hne⟩ := hd (by omega) b hbv.symm
      simp only [Option.some.injEq, Addr.mk.injEq] at ee
      exact hne ee.1.symm
    · intro h0 g hg
      rcases h5 with h5 | h5
      · exact hd h0 g (h5.symm.trans hg)
      · obtain ⟨b, off, ee, hb⟩ := hlt h0
        rw [h5] at hg
        injection hg with hg
        exact ⟨b, off, ee, by omega⟩
end

theorem run_row {kd : IntKind} {e t ty : TypeId} {bytes : Nat} (hk : ∀ z, (Value.int kd z).oneCell' = true) (ht : Tryd.prog.underlying t = some (.slice e)) (hinfo : (Tryd.prog.info? e).map (fun i => (i.zero, i.size, i.bytes)) = some (some (.int kd 0), 1, bytes))
    (base : Nat) (W W1 : World) (v : Value) (zs ys : List Int) (a : Option Addr) (n c : Nat) (hB : Below W.heap.size W W1) (hn : n = ys.length) (hown : OwnK kd e W base v zs) (hx : RowK kd W1 a ys) (hlen : (zs.length + ys.length) * bytes ≤ 140737488355328) (hlen2 : zs.length + ys.length ≤ 140737488355328) (hbase : base ≤ W.heap.size) :
    ∃ v' w', (Builtin.append_ #[t, t] ty #[v, .slice a n c]).run Tryd.prog W1 = .ok v' w' ∧ Grew kd e base W v zs ys v' w' := by
  subst hn
  obtain ⟨i0, hi, hz0, hz1, hz2⟩ := info_parts hinfo
  have hown1 := hown.below hB
  have hWs := hB.size
  by_cases h0 : 0 < ys.length
  · obtain ⟨b, off, rfl, _⟩ := hx 0 h0
    obtain ⟨v', w', hr, h2, h3, h4, h5⟩ := run_append_own_at (P := Tryd.prog) W1 base t ty e i0 (.int kd 0) 1 bytes ht hi hz0 hz1 hz2 rfl (by decide) v zs.length (zs.map (Value.int kd)) hown1 ⟨b, off, none⟩ ys.length c (ys.map (Value.int kd)) (by simp)
      (by
        intro j u hu
        have hj : j < ys.length := by
          rcases Nat.lt_or_ge j ys.length with h | h
          · exact h
          · rw [List.getElem?_eq_none (by simpa using h)] at hu; cases hu
        obtain ⟨b', off', ee, hc⟩ := hx j hj
        simp only [Option.some.injEq, Addr.mk.injEq] at ee
        obtain ⟨rfl, rfl, _⟩ := ee
        rw [addr_add, hc, ← hu, List.getElem?_map, List.getD_eq_getElem?_getD, List.getElem?_eq_getElem hj]; rfl)
      (by intro u hu; simp only [List.mem_map] at hu; obtain ⟨z, _, rfl⟩ := hu; exact hk z) (by unfold maxLen; omega) hlen (by omega)
    refine ⟨v', w', hr, grew_of hB hown h3.size ?_ h3 h5⟩
    unfold OwnK
    rw [List.length_append, List.map_append]
    exact h2
  · have hy : ys = [] := List.eq_nil_of_length_eq_zero (by omega)
    subst hy
    have hf : ∀ (x : Option Addr), (Builtin.firstCells 1 0 (.slice x 0 c)).run Tryd.prog W1 = .ok #[] W1 := by
      intro x; cases x <;> simp [Builtin.firstCells, loadCells, loadCellsFrom]
    rcases hown1.2 with ⟨rfl, hz⟩ | ⟨g, cap, cur, rfl, hg, hh, hnc, hm, hs, htk⟩
    · refine ⟨.slice none 0 0, W1, ?_, ⟨by rw [List.append_nil]; exact hown1, hWs, fun B a0 hb h1 h2 => hb.trans (hB.mono h2), fun kd2 a2 us hr hd => ⟨hr.below hB (Nat.le_refl _), hd⟩⟩⟩
      simp [Builtin.append_, run_underlying ht, Go.sizeOf, typeInfo, hi, hz1, Builtin.lenOf, hf]
    · refine ⟨.slice (some ⟨g, 0, none⟩) zs.length cap, W1, ?_, ⟨by rw [List.append_nil]; exact hown1, hWs, fun B a0 hb h1 h2 => hb.trans (hB.mono h2), fun kd2 a2 us hr hd => ⟨hr.below hB (Nat.le_refl _), hd⟩⟩⟩
      simp [Builtin.append_, run_underlying ht, Go.sizeOf, typeInfo, hi, hz1, Builtin.lenOf, hf, hnc, storeCells]
end Go.Proofs.YtjpjjckokonkpaaDoor
