/- Stamps: the page's places; the next one; awake. -/
import Derived.Test.YtjpjjckokonkpaaDoorS2
import Derived.Lib.QuietBelow
namespace Go.Proofs.YtjpjjckokonkpaaDoor.St
open Go.RowKit Go.Lib
set_option linter.unusedVariables false

/-- a stamp at a place -/
structure StAt (w : World) (b o : Nat) (t r : Int) : Prop where
  c0 : w.cell? ⟨b, o, none⟩ = some (.int .i64 t)
  c1 : w.cell? ⟨b, o + 1, none⟩ = some (.int .i64 r)
theorem StAt.lt {w : World} {b o : Nat} {t r : Int} (h : StAt w b o t r) : b < w.heap.size := World.block_lt_of_cell? _ _ h.c0
theorem StAt.below {w w' : World} {b o B : Nat} {t r : Int} (h : StAt w b o t r) (hb : Below B w w') (hB : b < B) : StAt w' b o t r :=
  ⟨(hb.cell (p := ⟨b, o, none⟩) hB).trans h.c0, (hb.cell (p := ⟨b, o + 1, none⟩) hB).trans h.c1⟩
theorem StAt.next {w w' : World} {b o : Nat} {t r : Int} (h : StAt w b o t r) (hb : Below w.heap.size w w') : StAt w' b o t r := h.below hb h.lt
theorem StAt.drew {w : World} {b o : Nat} {t r : Int} (h : StAt w b o t r) : StAt w.drew b o t r := ⟨h.c0, h.c1⟩
theorem StAt.new (w : World) (t r : Int) : StAt (w.alloc (.cells #[.int .i64 t, .int .i64 r] 29)) w.heap.size 0 t r := ⟨by simp, by simp⟩

/-- what is held over a region: a stamp at a place, and that the world grew -/
def HeldS (w0 : World) (n b o : Nat) (t r : Int) (w1 : World) : Prop := w1.cell? ⟨b, o, none⟩ = some (.int .i64 t) ∧ w1.cell? ⟨b, o + 1, none⟩ = some (.int .i64 r) ∧ Hid (Below n w0 w1)
theorem heldS_mk {w0 w1 : World} {n b o : Nat} {t r : Int} (h : StAt w1 b o t r) (hB : Below n w0 w1) : w1.cell? ⟨b, o, none⟩ = some (.int .i64 t) ∧ w1.cell? ⟨b, o + 1, none⟩ = some (.int .i64 r) ∧ Hid (Below n w0 w1) := ⟨h.c0, h.c1, Lib.hid hB⟩
theorem heldS_next {w0 w1 w2 : World} {n b o : Nat} {t r : Int} (h : w1.cell? ⟨b, o, none⟩ = some (.int .i64 t) ∧ w1.cell? ⟨b, o + 1, none⟩ = some (.int .i64 r) ∧ Hid (Below n w0 w1)) (hB : Below w1.heap.size w1 w2) (hn : n ≤ w0.heap.size) : w2.cell? ⟨b, o, none⟩ = some (.int .i64 t) ∧ w2.cell? ⟨b, o + 1, none⟩ = some (.int .i64 r) ∧ Hid (Below n w0 w2) := by
  obtain ⟨h0, h1, HB⟩ := h
  have hA : StAt w1 b o t r := ⟨h0, h1⟩
  exact heldS_mk (hA.next hB) (HB.out.trans (hB.mono (Nat.le_trans hn HB.out.size)))

/-- a stamp, in a world that has grown -/
theorem StAt.regrown {w : World} {b o : Nat} {t r : Int} (h : StAt w b o t r) : (∀ d os, (Go.Sort.grow (redrawn w d) os).cell? ⟨b, o, none⟩ = some (.int .i64 t)) ∧ (∀ d os, (Go.Sort.grow (redrawn w d) os).cell? ⟨b, o + 1, none⟩ = some (.int .i64 r)) := ⟨cell_regrown h.c0, cell_regrown h.c1⟩
abbrev RegrownTo (W : World) (f : FuncId) (args : Array Value) (v : Value) : Prop := ∀ d os, Calls Tryd.prog f args (Go.Sort.grow (redrawn W d) os) fun e w'' => e = .returned v ∧ ∃ p : Regrown, w'' = Go.Sort.grow (redrawn W p.d) p.os
theorem regrown_same {W : World} {f : FuncId} {args : Array Value} {v : Value} (h : ∀ w, Calls Tryd.prog f args w fun e w' => e = .returned v ∧ w = w') : RegrownTo W f args v := fun d os => (h _).mono fun _ _ ⟨he, hw⟩ => ⟨he, ⟨d, os⟩, hw.symm⟩
theorem regrown_bel {W : World} {f : FuncId} {args : Array Value} {v : Value} (h : ∀ w, Calls Tryd.prog f args w fun e w' => e = .returned v ∧ Below w.heap.size w w') : RegrownTo W f args v := fun d os => Calls.regrown_of (h _)

end Go.Proofs.YtjpjjckokonkpaaDoor.St
