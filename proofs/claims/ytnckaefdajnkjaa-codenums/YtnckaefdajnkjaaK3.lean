/- The two small arrays of CodeNums. -/
import Derived.Test.YtnckaefdajnkjaaK0
namespace Go.Proofs.Ytnckaefdajnkjaa
open Go.RowKit Go.Lib
set_option linter.unusedVariables false

theorem ask_new (W : World) (N : Int) (s : ByteArray) (al ax : Option Addr) (nl cl nx cx : Nat) : AskAt (W.alloc (.cells #[.int .i64 N, .string s, .slice al nl cl, .slice ax nx cx] 26)) W.heap.size 0 N s al nl cl ax nx cx := ⟨by simp, by simp, by simp, by simp⟩

def RowG (B : Nat) (W : World) (b : Option Addr) (zs : List Int) : Prop := RowK .u8 W b zs ∧ RowGe B b zs
theorem RowG.below {B : Nat} {W W' : World} {b : Option Addr} {zs : List Int} (h : RowG B W b zs) (hb : Below W.heap.size W W') : RowG B W' b zs := ⟨h.1.below hb (Nat.le_refl _), h.2⟩
theorem RowG.set {B : Nat} {W : World} {b : Option Addr} {zs : List Int} (h : RowG B W b zs) {g : Nat} (hg : g < B) (j : Nat) (v : Value) : RowG B (W.setCell ⟨g, j, none⟩ v) b zs := by
  refine ⟨fun i hi => ?_, h.2⟩
  obtain ⟨b', off, rfl, hc⟩ := h.1 i hi
  obtain ⟨b2, off2, e, hB⟩ := h.2 (by omega)
  simp only [Option.some.injEq, Addr.mk.injEq] at e
  refine ⟨b', off, rfl, ?_⟩
  rw [World.cell?_setCell_other _ _ _ _ (by intro e'; simp only [Addr.mk.injEq] at e'; omega)]
  exact hc
theorem RowG.nil (B : Nat) (W : World) (b : Option Addr) : RowG B W b [] := ⟨RowK.nil _ _ _, fun h => by simp at h⟩

def Blk (W : World) (g : Nat) (cs : Array Value) (e : TypeId) : Prop := W.heap[g]? = some (.cells cs e (0, 0))
theorem Blk.lt {W : World} {g : Nat} {cs : Array Value} {e : TypeId} (h : Blk W g cs e) : g < W.heap.size := by
  rcases Nat.lt_or_ge g W.heap.size with h' | h'
  · exact h'
  · unfold Blk at h; rw [Array.getElem?_eq_none h'] at h; cases h
theorem Blk.cell {W : World} {g : Nat} {cs : Array Value} {e : TypeId} (h : Blk W g cs e) (i : Nat) : W.cell? ⟨g, i, none⟩ = cs[i]? := by
  have h' : W.heap[(⟨g, i, none⟩ : Addr).block]? = some (.cells cs e (0, 0)) := h
  simp [World.cell?, h']
theorem Blk.frozen {W : World} {g : Nat} {cs : Array Value} {e : TypeId} (h : Blk W g cs e) (i : Nat) : W.frozen? ⟨g, i, none⟩ = false := by
  have h' : W.heap[(⟨g, i, none⟩ : Addr).block]? = some (.cells cs e (0, 0)) := h
  simp [World.frozen?, h']
theorem Blk.set {W : World} {g : Nat} {cs : Array Value} {e : TypeId} (h : Blk W g cs e) (i : Nat) (v : Value) : Blk (W.setCell ⟨g, i, none⟩ v) g (cs.setIfInBounds i v) e := by
  unfold Blk at h ⊢
  simp [World.setCell, Array.getElem?_modify, h]
theorem Blk.other {W : World} {g : Nat} {cs : Array Value} {e : TypeId} (h : Blk W g cs e) {g2 : Nat} (hg : g ≠ g2) (i : Nat) (v : Value) : Blk (W.setCell ⟨g2, i, none⟩ v) g cs e := by
  unfold Blk
  rw [Below.heap_setCell _ _ _ _ hg]
  exact h
theorem Blk.below {W W' : World} {g : Nat} {cs : Array Value} {e : TypeId} (h : Blk W g cs e) (hb : Below W.heap.size W W') : Blk W' g cs e := (hb.block g h.lt).trans h

/-- the two arrays: what each holds -/
structure NA (Wq W : World) (gw gb : Nat) (b0 b1 b2 : Option Addr) (d0 d1 d2 : Nat) (z0 z1 z2 : List Int) (y0 y1 y2 : Int) : Prop where
  bq : Below Wq.heap.size Wq W
  A : Blk W gw #[.slice b0 z0.length d0, .slice b1 z1.length d1, .slice b2 z2.length d2] 33
  B : Blk W gb #[.int .i64 y0, .int .i64 y1, .int .i64 y2] 34
  gwe : Wq.heap.size ≤ gw
  gbe : gb = gw + 1
  r0 : RowG (gb + 1) W b0 z0
  r1 : RowG (gb + 1) W b1 z1
  r2 : RowG (gb + 1) W b2 z2
theorem na_new (Wq : World) : NA Wq ((Wq.alloc (.cells #[.slice none 0 0, .slice none 0 0, .slice none 0 0] 33)).alloc (.cells #[.int .i64 1, .int .i64 1, .int .i64 1] 34)) Wq.heap.size (Wq.heap.size + 1) none none none 0 0 0 [] [] [] 1 1 1 := by
  refine ⟨((Below.refl _ _).alloc (Nat.le_refl _) _).alloc (by simp) _, ?_, ?_, Nat.le_refl _, rfl, RowG.nil _ _ _, RowG.nil _ _ _, RowG.nil _ _ _⟩
  · unfold Blk
    rw [Below.heap_alloc _ _ _ (by simp), heap_alloc_new]
    rfl
  · unfold Blk
    have := heap_alloc_new (Wq.alloc (.cells #[.slice none 0 0, .slice none 0 0, .slice none 0 0] 33)) (.cells #[.int .i64 1, .int .i64 1, .int .i64 1] 34)
    rw [World.size_alloc] at this
    exact this
section
variable {Wq W : World} {gw gb : Nat} {b0 b1 b2 : Option Addr} {d0 d1 d2 : Nat} {z0 z1 z2 : List Int} {y0 y1 y2 : Int}
theorem NA.below {W' : World} (h : NA Wq W gw gb b0 b1 b2 d0 d1 d2 z0 z1 z2 y0 y1 y2) (hb : Below W.heap.size W W') : NA Wq W' gw gb b0 b1 b2 d0 d1 d2 z0 z1 z2 y0 y1 y2 :=
  ⟨h.bq.trans (hb.mono h.bq.size), h.A.below hb, h.B.below hb, h.gwe, h.gbe, h.r0.below hb, h.r1.below hb, h.r2.below hb⟩
theorem NA.set0 (h : NA Wq W gw gb b0 b1 b2 d0 d1 d2 z0 z1 z2 y0 y1 y2) {b : Option Addr} {zs : List Int} {d : Nat} (hr : RowG (gb + 1) W b zs) :
    NA Wq ((W.setCell ⟨gw, 0, none⟩ (.slice b zs.length d)).setCell ⟨gb, 0, none⟩ (.int .i64 0)) gw gb b b1 b2 d d1 d2 zs z1 z2 0 y1 y2 := by
  have e := h.gbe
  refine ⟨(h.bq.setCell h.gwe _).setCell (by have := h.gwe; simp only; omega) _, ((h.A.set 0 _).other (by omega) _ _), ((h.B.other (by omega) _ _).set 0 _), h.gwe, h.gbe, ?_, ?_, ?_⟩
  · exact (hr.set (by omega) _ _).set (by omega) _ _
  · exact (h.r1.set (by omega) _ _).set (by omega) _ _
  · exact (h.r2.set (by omega) _ _).set (by omega) _ _
theorem NA.set1 (h : NA Wq W gw gb b0 b1 b2 d0 d1 d2 z0 z1 z2 y0 y1 y2) {b : Option Addr} {zs : List Int} {d : Nat} (hr : RowG (gb + 1) W b zs) :
    NA Wq ((W.setCell ⟨gw, 1, none⟩ (.slice b zs.length d)).setCell ⟨gb, 1, none⟩ (.int .i64 0)) gw gb b0 b b2 d0 d d2 z0 zs z2 y0 0 y2 := by
  have e := h.gbe
  refine ⟨(h.bq.setCell h.gwe _).setCell (by have := h.gwe; simp only; omega) _, ((h.A.set 1 _).other (by omega) _ _), ((h.B.other (by omega) _ _).set 1 _), h.gwe, h.gbe, ?_, ?_, ?_⟩
  · exact (h.r0.set (by omega) _ _).set (by omega) _ _
  · exact (hr.set (by omega) _ _).set (by omega) _ _
  · exact (h.r2.set (by omega) _ _).set (by omega) _ _
theorem NA.set2 (h : NA Wq W gw gb b0 b1 b2 d0 d1 d2 z0 z1 z2 y0 y1 y2) {b : Option Addr} {zs : List Int} {d : Nat} (hr : RowG (gb + 1) W b zs) :
    NA Wq ((W.setCell ⟨gw, 2, none⟩ (.slice b zs.length d)).setCell ⟨gb, 2, none⟩ (.int .i64 0)) gw gb b0 b1 b d0 d1 d z0 z1 zs y0 y1 0 := by
  have e := h.gbe
  refine ⟨(h.bq.setCell h.gwe _).setCell (by have := h.gwe; simp only; omega) _, ((h.A.set 2 _).other (by omega) _ _), ((h.B.other (by omega) _ _).set 2 _), h.gwe, h.gbe, ?_, ?_, ?_⟩
  · exact (h.r0.set (by omega) _ _).set (by omega) _ _
  · exact (h.r1.set (by omega) _ _).set (by omega) _ _
  · exact (hr.set (by omega) _ _).set (by omega) _ _
end
end Go.Proofs.Ytnckaefdajnkjaa
