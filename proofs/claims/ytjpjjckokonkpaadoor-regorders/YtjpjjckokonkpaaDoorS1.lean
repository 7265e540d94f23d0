/- Stamps: the small functions, of the program and of the page; two structs held against each other. -/
import Derived.Test.YtjpjjckokonkpaaDoorE8
import Derived.Laws.StructEq
namespace Go.Proofs.YtjpjjckokonkpaaDoor.St
open Go.RowKit Go.Lib
set_option linter.unusedVariables false

/-- the number of a replica -/
def repB (r : Int) : Bool := decide (0 ≤ r ∧ r < 16)
/-- a number from 0 to m -/
def upB (z m : Int) : Bool := decide (0 ≤ z ∧ z ≤ m)
/-- a stamp -/
def stB (t r : Int) : Bool := decide (1 ≤ t ∧ t ≤ 1099511627776 ∧ 0 ≤ r ∧ r < 16)
/-- the root or the trash -/
def rtB (t r : Int) : Bool := decide (t = 0 ∧ (r = 0 ∨ r = 1))
def plB (t r : Int) : Bool := stB t r || rtB t r
def cmpI (x y : Int) : Int := if x < y then -1 else if y < x then 1 else 0
def cmpS (t r u v : Int) : Int := if t = u then cmpI r v else cmpI t u
/-- whether something is refused -/
def errB (b : Bool) : Int := if b then 0 else 1

def IntBel (w : World) (z : Int) (e : Ending) (w' : World) : Prop := e = .returned (.int .i64 z) ∧ Below w.heap.size w w'
def StBel (w : World) (t r : Int) (e : Ending) (w' : World) : Prop := e = .returned (.agg #[.int .i64 t, .int .i64 r]) ∧ Below w.heap.size w w'

theorem st_equal (a b c d : Int) (w : World) : (Op.equalIn 10000 29 (.agg #[.int .i64 a, .int .i64 b]) (.agg #[.int .i64 c, .int .i64 d])).run Tryd.prog w = .ok (a == c && b == d) w := by
  have u3 := Tryd.underlying3
  have a3 := Tryd.isAgg3
  have z3 := Tryd.sizeOf3
  have hS : Tryd.prog.underlying 29 = some (.struct (Tryd.prog.fieldsOf 29)) := by kernel_rfl
  rw [show (10000 : Nat) = 9999 + 1 from rfl, run_equalIn_agg w 9999 29 _ _ hS (by kernel_rfl)]
  simp only [Program.fieldsOf, Tryd.underlying29]
  go_simp
  by_cases h1 : a = c <;> by_cases h2 : b = d <;> simp [h1, h2]
theorem st_eql (t r u v : Int) (w : World) : (binOp .eql 29 (.agg #[.int .i64 t, .int .i64 r]) (.agg #[.int .i64 u, .int .i64 v])).run Tryd.prog w = .ok (.bool (t == u && r == v)) w := by
  rw [run_eql_struct, st_equal]
  rfl
theorem st_neq (t r u v : Int) (w : World) : (binOp .neq 29 (.agg #[.int .i64 t, .int .i64 r]) (.agg #[.int .i64 u, .int .i64 v])).run Tryd.prog w = .ok (.bool (!(t == u && r == v))) w := by
  rw [run_neq_struct, st_equal]
  rfl
theorem st_guard (op : BinOp) (x y : Operand) (xs ys : Array Value) (w : World) : (eqGuard op 29 x y (.agg xs) (.agg ys)).run Tryd.prog w = .ok () w := run_eqGuard_agg w op 29 x y xs ys (by kernel_rfl)
theorem st_build (a b : Int) (w : World) : (Instr.build 29 #[(0, .int .i64 a), (1, .int .i64 b)]).run Tryd.prog w = .ok (.agg #[.int .i64 a, .int .i64 b]) w := run_build w 29 _ _ (by kernel_rfl)
theorem st_build0 (w : World) : (Instr.build 29 #[]).run Tryd.prog w = .ok (.agg #[.int .i64 0, .int .i64 0]) w := run_build w 29 _ _ (by kernel_rfl)
theorem st_build1 (b : Int) (w : World) : (Instr.build 29 #[(1, .int .i64 b)]).run Tryd.prog w = .ok (.agg #[.int .i64 0, .int .i64 b]) w := run_build w 29 _ _ (by kernel_rfl)

set_option maxHeartbeats 400000 in
theorem within_53 (w : World) : Calls Tryd.prog 23 #[.int .i64 5, .int .i64 3] w fun e w' => e = .returned (.int .i64 2) ∧ w = w' := by
  go_enter Tryd.func23, Tryd.ntmps23
  go_wp2
  go_ret
  exact ⟨rfl, rfl⟩

set_option maxHeartbeats 400000 in
theorem isNaN_any (x : Int) (w : World) : Calls Tryd.prog 39 #[.int .i64 x] w fun e w' => e = .returned (.bool false) ∧ w = w' := by
  have h : (x != x) = false := by simp
  go_enter Tryd.func39, Tryd.ntmps39
  go_wp2
  go_ret
  exact ⟨rfl, rfl⟩

set_option maxHeartbeats 400000 in
theorem compare_any (x y : Int) (w : World) : Calls Tryd.prog 35 #[.int .i64 x, .int .i64 y] w fun e w' => e = .returned (.int .i64 (cmpI x y)) ∧ w = w' := by
  have H1 := Lib.hid (fun W => isNaN_any x W)
  have H2 := Lib.hid (fun W => isNaN_any y W)
  unfold cmpI
  by_cases c1 : x < y
  · rw [if_pos c1]
    go_enter Tryd.func35, Tryd.ntmps35
    go_wp2_with fail
    refine (H1.out _).mono ?_
    rintro e w' ⟨rfl, rfl⟩
    go_wp2_with fail
    refine (H2.out _).mono ?_
    rintro e w' ⟨rfl, rfl⟩
    go_wp2
    go_ret
    exact ⟨rfl, rfl⟩
  · rw [if_neg c1]
    by_cases c2 : y < x
    · rw [if_pos c2]
      go_enter Tryd.func35, Tryd.ntmps35
      go_wp2_with fail
      refine (H1.out _).mono ?_
      rintro e w' ⟨rfl, rfl⟩
      go_wp2_with fail
      refine (H2.out _).mono ?_
      rintro e w' ⟨rfl, rfl⟩
      go_wp2
      go_ret
      exact ⟨rfl, rfl⟩
    · rw [if_neg c2]
      go_enter Tryd.func35, Tryd.ntmps35
      go_wp2_with fail
      refine (H1.out _).mono ?_
      rintro e w' ⟨rfl, rfl⟩
      go_wp2_with fail
      refine (H2.out _).mono ?_
      rintro e w' ⟨rfl, rfl⟩
      go_wp2
      go_ret
      exact ⟨rfl, rfl⟩

set_option maxHeartbeats 400000 in
theorem isRep_any (r : Int) (w : World) : Calls Tryd.prog 38 #[.int .i64 r] w fun e w' => e = .returned (.bool (repB r)) ∧ w = w' := by
  by_cases g1 : 0 ≤ r
  · by_cases g2 : r < 16
    · have hc : repB r = true := by simp [repB]; omega
      rw [hc]
      clear hc
      go_enter Tryd.func38, Tryd.ntmps38
      go_wp2
      go_ret
      exact ⟨rfl, rfl⟩
    · have hc : repB r = false := by simp [repB]; omega
      rw [hc]
      clear hc
      go_enter Tryd.func38, Tryd.ntmps38
      go_wp2
      go_ret
      exact ⟨rfl, rfl⟩
  · have hc : repB r = false := by simp [repB]; omega
    rw [hc]
    clear hc
    go_enter Tryd.func38, Tryd.ntmps38
    go_wp2
    go_ret
    exact ⟨rfl, rfl⟩

set_option maxHeartbeats 400000 in
theorem upTo_any (z m : Int) (w : World) : Calls Tryd.prog 32 #[.int .i64 z, .int .i64 m] w fun e w' => e = .returned (.bool (upB z m)) ∧ w = w' := by
  by_cases g1 : 0 ≤ z
  · by_cases g2 : z ≤ m
    · have hc : upB z m = true := by simp [upB]; omega
      rw [hc]
      clear hc
      go_enter Tryd.func32, Tryd.ntmps32
      go_wp2
      go_ret
      exact ⟨rfl, rfl⟩
    · have hc : upB z m = false := by simp [upB]; omega
      rw [hc]
      clear hc
      go_enter Tryd.func32, Tryd.ntmps32
      go_wp2
      go_ret
      exact ⟨rfl, rfl⟩
  · have hc : upB z m = false := by simp [upB]; omega
    rw [hc]
    clear hc
    go_enter Tryd.func32, Tryd.ntmps32
    go_wp2
    go_ret
    exact ⟨rfl, rfl⟩

end Go.Proofs.YtjpjjckokonkpaaDoor.St
