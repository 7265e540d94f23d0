/- An ask, as it lies in memory; one of its four complex numbers. -/
import Derived.Test.YtjoeogdkcggmdaaR1
import Derived.BigQuiet
import Derived.StillTailTactics
import Derived.Deep.RegionHeld3
import Derived.Deep.DeepCutAuto
namespace Go.Proofs.Ytjoeogdkcggmdaa
open Go.RowKit
set_option linter.unusedVariables false

theorem below_drewN {n : Nat} {w w' : World} (h : Below n w w') (k : Nat) : Below n w (w'.drewN k) := by
  induction k with
  | zero => exact h
  | succ k ih => exact ih.drew
theorem quiet_left {P : Program} {f : FuncId} {args : Array Value} {w : World} {n : Nat} {v : Value}
    (h : Calls P f args (w.drewN n) fun e w' => e = .returned v ∧ w.drewN n = w') : Calls P f args (w.drewN n) fun e w'' => e = .returned v ∧ ∃ m, w'' = w.drewN m :=
  h.mono fun _ _ ⟨he, hm⟩ => ⟨he, n, hm.symm⟩

set_option maxHeartbeats 1000000 in
theorem c0_any (x y : Int) (f : Nat → Nat) (w : World) :
    Calls Try.prog 14 #[.agg #[.int .i64 x, .int .i64 y, .float .f64 (f 0), .float .f64 (f 1), .float .f64 (f 2), .float .f64 (f 3), .float .f64 (f 4), .float .f64 (f 5), .float .f64 (f 6), .float .f64 (f 7)], .int .i64 0] w fun e w' => e = .returned (.complex .f64 (f 0) (f 1)) ∧ Below w.heap.size w w' := by
  have mixed : Try.prog.follows .mixedOrders = true := by kernel_rfl
  go_enter Try.func14, Try.ntmps14
  go_wp2_with fail
  go_quiet (fail)
  go_wp2_with fail
  go_ret
  exact ⟨rfl, below_drewN ((Below.refl _ _).alloc (Nat.le_refl _) _) _⟩

set_option maxHeartbeats 1000000 in
theorem c1_any (x y : Int) (f : Nat → Nat) (w : World) :
    Calls Try.prog 14 #[.agg #[.int .i64 x, .int .i64 y, .float .f64 (f 0), .float .f64 (f 1), .float .f64 (f 2), .float .f64 (f 3), .float .f64 (f 4), .float .f64 (f 5), .float .f64 (f 6), .float .f64 (f 7)], .int .i64 1] w fun e w' => e = .returned (.complex .f64 (f 2) (f 3)) ∧ Below w.heap.size w w' := by
  have mixed : Try.prog.follows .mixedOrders = true := by kernel_rfl
  go_enter Try.func14, Try.ntmps14
  go_wp2_with fail
  go_quiet (fail)
  go_wp2_with fail
  go_ret
  exact ⟨rfl, below_drewN ((Below.refl _ _).alloc (Nat.le_refl _) _) _⟩

set_option maxHeartbeats 1000000 in
theorem c2_any (x y : Int) (f : Nat → Nat) (w : World) :
    Calls Try.prog 14 #[.agg #[.int .i64 x, .int .i64 y, .float .f64 (f 0), .float .f64 (f 1), .float .f64 (f 2), .float .f64 (f 3), .float .f64 (f 4), .float .f64 (f 5), .float .f64 (f 6), .float .f64 (f 7)], .int .i64 2] w fun e w' => e = .returned (.complex .f64 (f 4) (f 5)) ∧ Below w.heap.size w w' := by
  have mixed : Try.prog.follows .mixedOrders = true := by kernel_rfl
  go_enter Try.func14, Try.ntmps14
  go_wp2_with fail
  go_quiet (fail)
  go_wp2_with fail
  go_ret
  exact ⟨rfl, below_drewN ((Below.refl _ _).alloc (Nat.le_refl _) _) _⟩

set_option maxHeartbeats 1000000 in
theorem c3_any (x y : Int) (f : Nat → Nat) (w : World) :
    Calls Try.prog 14 #[.agg #[.int .i64 x, .int .i64 y, .float .f64 (f 0), .float .f64 (f 1), .float .f64 (f 2), .float .f64 (f 3), .float .f64 (f 4), .float .f64 (f 5), .float .f64 (f 6), .float .f64 (f 7)], .int .i64 3] w fun e w' => e = .returned (.complex .f64 (f 6) (f 7)) ∧ Below w.heap.size w w' := by
  have mixed : Try.prog.follows .mixedOrders = true := by kernel_rfl
  go_enter Try.func14, Try.ntmps14
  go_wp2_with fail
  go_quiet (fail)
  go_wp2_with fail
  go_ret
  exact ⟨rfl, below_drewN ((Below.refl _ _).alloc (Nat.le_refl _) _) _⟩

theorem c_any (k : Nat) (hk : k < 4) (x y : Int) (f : Nat → Nat) (w : World) :
    Calls Try.prog 14 #[.agg #[.int .i64 x, .int .i64 y, .float .f64 (f 0), .float .f64 (f 1), .float .f64 (f 2), .float .f64 (f 3), .float .f64 (f 4), .float .f64 (f 5), .float .f64 (f 6), .float .f64 (f 7)], .int .i64 (k : Int)] w fun e w' => e = .returned (.complex .f64 (f (2 * k)) (f (2 * k + 1))) ∧ Below w.heap.size w w' := by
  match k, hk with
  | 0, _ => exact c0_any x y f w
  | 1, _ => exact c1_any x y f w
  | 2, _ => exact c2_any x y f w
  | 3, _ => exact c3_any x y f w

/-- an ask at a place -/
def AskAt (w : World) (b o : Nat) (x y : Int) (f : Nat → Nat) : Prop :=
  w.cell? ⟨b, o, none⟩ = some (.int .i64 x) ∧ w.cell? ⟨b, o + 1, none⟩ = some (.int .i64 y) ∧ w.cell? ⟨b, o + 2, none⟩ = some (.float .f64 (f 0)) ∧ w.cell? ⟨b, o + 3, none⟩ = some (.float .f64 (f 1)) ∧ w.cell? ⟨b, o + 4, none⟩ = some (.float .f64 (f 2)) ∧ w.cell? ⟨b, o + 5, none⟩ = some (.float .f64 (f 3)) ∧ w.cell? ⟨b, o + 6, none⟩ = some (.float .f64 (f 4)) ∧ w.cell? ⟨b, o + 7, none⟩ = some (.float .f64 (f 5)) ∧ w.cell? ⟨b, o + 8, none⟩ = some (.float .f64 (f 6)) ∧ w.cell? ⟨b, o + 9, none⟩ = some (.float .f64 (f 7))
theorem AskAt.below {w w' : World} {b o : Nat} {x y : Int} {f : Nat → Nat} (h : AskAt w b o x y f) {n : Nat} (hn : b < n) (hb : Below n w w') : AskAt w' b o x y f := by
  obtain ⟨h0, h1, h2, h3, h4, h5, h6, h7, h8, h9⟩ := h
  exact ⟨(hb.cell (p := ⟨b, o, none⟩) hn).trans h0, (hb.cell (p := ⟨b, o + 1, none⟩) hn).trans h1, (hb.cell (p := ⟨b, o + 2, none⟩) hn).trans h2, (hb.cell (p := ⟨b, o + 3, none⟩) hn).trans h3, (hb.cell (p := ⟨b, o + 4, none⟩) hn).trans h4, (hb.cell (p := ⟨b, o + 5, none⟩) hn).trans h5, (hb.cell (p := ⟨b, o + 6, none⟩) hn).trans h6, (hb.cell (p := ⟨b, o + 7, none⟩) hn).trans h7, (hb.cell (p := ⟨b, o + 8, none⟩) hn).trans h8, (hb.cell (p := ⟨b, o + 9, none⟩) hn).trans h9⟩
theorem AskAt.lt {w : World} {b o : Nat} {x y : Int} {f : Nat → Nat} (h : AskAt w b o x y f) : b < w.heap.size := World.block_lt_of_cell? _ _ h.1
theorem AskAt.drew {w : World} {b o : Nat} {x y : Int} {f : Nat → Nat} (h : AskAt w b o x y f) : AskAt w.drew b o x y f := h
/-- a list of asks that came in -/
def AsksIs (w : World) (a : Option Addr) (n : Nat) : Prop := ∀ i, i < n → ∃ b off x y f, a = some ⟨b, off, none⟩ ∧ AskAt w b (off + i * 10) x y f ∧ b < w.heap.size
end Go.Proofs.Ytjoeogdkcggmdaa
