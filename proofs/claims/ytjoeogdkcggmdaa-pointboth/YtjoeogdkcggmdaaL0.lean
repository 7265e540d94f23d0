/- What is held over a region that takes an ask's numbers. -/
import Derived.Test.YtjoeogdkcggmdaaR2
import Derived.Test.YtjoeogdkcggmdaaR3
namespace Go.Proofs.Ytjoeogdkcggmdaa
open Go.RowKit
set_option linter.unusedVariables false

theorem held_mk {w0 w1 : World} {b o n : Nat} {x y : Int} {f : Nat → Nat} (h : AskAt w1 b o x y f) (hB : Below n w0 w1) : w1.cell? ⟨b, o, none⟩ = some (.int .i64 x) ∧ w1.cell? ⟨b, o + 1, none⟩ = some (.int .i64 y) ∧ w1.cell? ⟨b, o + 2, none⟩ = some (.float .f64 (f 0)) ∧ w1.cell? ⟨b, o + 3, none⟩ = some (.float .f64 (f 1)) ∧ w1.cell? ⟨b, o + 4, none⟩ = some (.float .f64 (f 2)) ∧ w1.cell? ⟨b, o + 5, none⟩ = some (.float .f64 (f 3)) ∧ w1.cell? ⟨b, o + 6, none⟩ = some (.float .f64 (f 4)) ∧ w1.cell? ⟨b, o + 7, none⟩ = some (.float .f64 (f 5)) ∧ w1.cell? ⟨b, o + 8, none⟩ = some (.float .f64 (f 6)) ∧ w1.cell? ⟨b, o + 9, none⟩ = some (.float .f64 (f 7)) ∧ Hid (Below n w0 w1) := by
  obtain ⟨h0, h1, h2, h3, h4, h5, h6, h7, h8, h9⟩ := h
  exact ⟨h0, h1, h2, h3, h4, h5, h6, h7, h8, h9, Lib.hid hB⟩
theorem held_next {w0 w1 w2 : World} {b o n : Nat} {x y : Int} {f : Nat → Nat} (h : w1.cell? ⟨b, o, none⟩ = some (.int .i64 x) ∧ w1.cell? ⟨b, o + 1, none⟩ = some (.int .i64 y) ∧ w1.cell? ⟨b, o + 2, none⟩ = some (.float .f64 (f 0)) ∧ w1.cell? ⟨b, o + 3, none⟩ = some (.float .f64 (f 1)) ∧ w1.cell? ⟨b, o + 4, none⟩ = some (.float .f64 (f 2)) ∧ w1.cell? ⟨b, o + 5, none⟩ = some (.float .f64 (f 3)) ∧ w1.cell? ⟨b, o + 6, none⟩ = some (.float .f64 (f 4)) ∧ w1.cell? ⟨b, o + 7, none⟩ = some (.float .f64 (f 5)) ∧ w1.cell? ⟨b, o + 8, none⟩ = some (.float .f64 (f 6)) ∧ w1.cell? ⟨b, o + 9, none⟩ = some (.float .f64 (f 7)) ∧ Hid (Below n w0 w1)) (hB : Below w1.heap.size w1 w2) (hn : n ≤ w0.heap.size) : w2.cell? ⟨b, o, none⟩ = some (.int .i64 x) ∧ w2.cell? ⟨b, o + 1, none⟩ = some (.int .i64 y) ∧ w2.cell? ⟨b, o + 2, none⟩ = some (.float .f64 (f 0)) ∧ w2.cell? ⟨b, o + 3, none⟩ = some (.float .f64 (f 1)) ∧ w2.cell? ⟨b, o + 4, none⟩ = some (.float .f64 (f 2)) ∧ w2.cell? ⟨b, o + 5, none⟩ = some (.float .f64 (f 3)) ∧ w2.cell? ⟨b, o + 6, none⟩ = some (.float .f64 (f 4)) ∧ w2.cell? ⟨b, o + 7, none⟩ = some (.float .f64 (f 5)) ∧ w2.cell? ⟨b, o + 8, none⟩ = some (.float .f64 (f 6)) ∧ w2.cell? ⟨b, o + 9, none⟩ = some (.float .f64 (f 7)) ∧ Hid (Below n w0 w2) := by
  obtain ⟨h0, h1, h2, h3, h4, h5, h6, h7, h8, h9, HB⟩ := h
  have hA : AskAt w1 b o x y f := ⟨h0, h1, h2, h3, h4, h5, h6, h7, h8, h9⟩
  exact held_mk (hA.below hA.lt hB) (HB.out.trans (hB.mono (Nat.le_trans hn HB.out.size)))
theorem held_out {w0 w1 : World} {b o n : Nat} {x y : Int} {f : Nat → Nat} (h : w1.cell? ⟨b, o, none⟩ = some (.int .i64 x) ∧ w1.cell? ⟨b, o + 1, none⟩ = some (.int .i64 y) ∧ w1.cell? ⟨b, o + 2, none⟩ = some (.float .f64 (f 0)) ∧ w1.cell? ⟨b, o + 3, none⟩ = some (.float .f64 (f 1)) ∧ w1.cell? ⟨b, o + 4, none⟩ = some (.float .f64 (f 2)) ∧ w1.cell? ⟨b, o + 5, none⟩ = some (.float .f64 (f 3)) ∧ w1.cell? ⟨b, o + 6, none⟩ = some (.float .f64 (f 4)) ∧ w1.cell? ⟨b, o + 7, none⟩ = some (.float .f64 (f 5)) ∧ w1.cell? ⟨b, o + 8, none⟩ = some (.float .f64 (f 6)) ∧ w1.cell? ⟨b, o + 9, none⟩ = some (.float .f64 (f 7)) ∧ Hid (Below n w0 w1)) : AskAt w1 b o x y f ∧ Below n w0 w1 := by
  obtain ⟨h0, h1, h2, h3, h4, h5, h6, h7, h8, h9, HB⟩ := h
  exact ⟨⟨h0, h1, h2, h3, h4, h5, h6, h7, h8, h9⟩, HB.out⟩
end Go.Proofs.Ytjoeogdkcggmdaa
