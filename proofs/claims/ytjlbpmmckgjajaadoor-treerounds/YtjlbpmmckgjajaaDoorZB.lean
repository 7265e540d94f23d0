/- Joined: S1 S2 S3 B1 B2 B3 B4 SW M2 KK P1 P2 P6. -/
import Derived.Test.YtjlbpmmckgjajaaDoorZA
import Derived.Laws.StructEq
import Derived.Lib.QuietBelow
import Derived.Deep.RegionWith
import Derived.ProofKit
import Derived.OpenShut
import Derived.Deep.Slices
import Derived.Deep.Fields
import Derived.ChangeSame
import Derived.ChangeSlices
import Derived.ChangeArms
import Derived.LaidMore
import Derived.Stop.Joined

/- Stamps: the small functions, of the program and of the page; two structs held against each other. -/
namespace Go.Proofs.YtjlbpmmckgjajaaDoor.St
open Go.RowKit Go.Lib
set_option linter.unusedVariables false

/-- the number of a replica -/
def repB (r : Int) : Bool := decide (0 ≤ r ∧ r < 16)
/-- a number from 0 to m -/
def upB (z m : Int) : Bool := decide (0 ≤ z ∧ z ≤ m)
/-- a stamp -/
def stB (t r : Int) : Bool := decide (1 ≤ t ∧ t ≤ 1099511627776 ∧ 0 ≤ r ∧ r < 16)
/-- the root or the trash -/
def rtB (t r : Int) : Bool := decide (t = 0 ∧ (r = 0 ∨ r = 1))
def plB (t r : Int) : Bool := stB t r || rtB t r
def cmpI (x y : Int) : Int := if x < y then -1 else if y < x then 1 else 0
def cmpS (t r u v : Int) : Int := if t = u then cmpI r v else cmpI t u
/-- whether something is refused -/
def errB (b : Bool) : Int := if b then 0 else 1

def IntBel (w : World) (z : Int) (e : Ending) (w' : World) : Prop := e = .returned (.int .i64 z) ∧ Below w.heap.size w w'
def StBel (w : World) (t r : Int) (e : Ending) (w' : World) : Prop := e = .returned (.agg #[.int .i64 t, .int .i64 r]) ∧ Below w.heap.size w w'

theorem st_equal (a b c d : Int) (w : World) : (Op.equalIn 10000 36 (.agg #[.int .i64 a, .int .i64 b]) (.agg #[.int .i64 c, .int .i64 d])).run Tryd.prog w = .ok (a == c && b == d) w := by
  have u3 := Tryd.underlying3
  have a3 := Tryd.isAgg3
  have z3 := Tryd.sizeOf3
  have hS : Tryd.prog.underlying 36 = some (.struct (Tryd.prog.fieldsOf 36)) := by kernel_rfl
  rw [show (10000 : Nat) = 9999 + 1 from rfl, run_equalIn_agg w 9999 36 _ _ hS (by kernel_rfl)]
  simp only [Program.fieldsOf, Tryd.underlying36]
  go_simp
  by_cases h1 : a = c <;> by_cases h2 : b = d <;> simp [h1, h2]
theorem st_eql (t r u v : Int) (w : World) : (binOp .eql 36 (.agg #[.int .i64 t, .int .i64 r]) (.agg #[.int .i64 u, .int .i64 v])).run Tryd.prog w = .ok (.bool (t == u && r == v)) w := by
  rw [run_eql_struct, st_equal]
  rfl
theorem st_neq (t r u v : Int) (w : World) : (binOp .neq 36 (.agg #[.int .i64 t, .int .i64 r]) (.agg #[.int .i64 u, .int .i64 v])).run Tryd.prog w = .ok (.bool (!(t == u && r == v))) w := by
  rw [run_neq_struct, st_equal]
  rfl
theorem st_guard (op : BinOp) (x y : Operand) (xs ys : Array Value) (w : World) : (eqGuard op 36 x y (.agg xs) (.agg ys)).run Tryd.prog w = .ok () w := run_eqGuard_agg w op 36 x y xs ys (by kernel_rfl)
theorem st_build (a b : Int) (w : World) : (Instr.build 36 #[(0, .int .i64 a), (1, .int .i64 b)]).run Tryd.prog w = .ok (.agg #[.int .i64 a, .int .i64 b]) w := run_build w 36 _ _ (by kernel_rfl)
theorem st_build0 (w : World) : (Instr.build 36 #[]).run Tryd.prog w = .ok (.agg #[.int .i64 0, .int .i64 0]) w := run_build w 36 _ _ (by kernel_rfl)
theorem st_build1 (b : Int) (w : World) : (Instr.build 36 #[(1, .int .i64 b)]).run Tryd.prog w = .ok (.agg #[.int .i64 0, .int .i64 b]) w := run_build w 36 _ _ (by kernel_rfl)

set_option maxHeartbeats 400000 in
theorem within_53 (w : World) : Calls Tryd.prog 21 #[.int .i64 5, .int .i64 3] w fun e w' => e = .returned (.int .i64 2) ∧ w = w' := by
  go_enter Tryd.func21, Tryd.ntmps21
  go_wp2
  go_ret
  exact ⟨rfl, rfl⟩

set_option maxHeartbeats 400000 in
theorem isNaN_any (x : Int) (w : World) : Calls Tryd.prog 89 #[.int .i64 x] w fun e w' => e = .returned (.bool false) ∧ w = w' := by
  have h : (x != x) = false := by simp
  go_enter Tryd.func89, Tryd.ntmps89
  go_wp2
  go_ret
  exact ⟨rfl, rfl⟩

set_option maxHeartbeats 400000 in
theorem compare_any (x y : Int) (w : World) : Calls Tryd.prog 72 #[.int .i64 x, .int .i64 y] w fun e w' => e = .returned (.int .i64 (cmpI x y)) ∧ w = w' := by
  have H1 := Lib.hid (fun W => isNaN_any x W)
  have H2 := Lib.hid (fun W => isNaN_any y W)
  unfold cmpI
  by_cases c1 : x < y
  · rw [if_pos c1]
    go_enter Tryd.func72, Tryd.ntmps72
    go_wp2_with fail
    refine (H1.out _).mono ?_
    rintro e w' ⟨rfl, rfl⟩
    go_wp2_with fail
    refine (H2.out _).mono ?_
    rintro e w' ⟨rfl, rfl⟩
    go_wp2
    go_ret
    exact ⟨rfl, rfl⟩
  · rw [if_neg c1]
    by_cases c2 : y < x
    · rw [if_pos c2]
      go_enter Tryd.func72, Tryd.ntmps72
      go_wp2_with fail
      refine (H1.out _).mono ?_
      rintro e w' ⟨rfl, rfl⟩
      go_wp2_with fail
      refine (H2.out _).mono ?_
      rintro e w' ⟨rfl, rfl⟩
      go_wp2
      go_ret
      exact ⟨rfl, rfl⟩
    · rw [if_neg c2]
      go_enter Tryd.func72, Tryd.ntmps72
      go_wp2_with fail
      refine (H1.out _).mono ?_
      rintro e w' ⟨rfl, rfl⟩
      go_wp2_with fail
      refine (H2.out _).mono ?_
      rintro e w' ⟨rfl, rfl⟩
      go_wp2
      go_ret
      exact ⟨rfl, rfl⟩

set_option maxHeartbeats 400000 in
theorem isRep_any (r : Int) (w : World) : Calls Tryd.prog 84 #[.int .i64 r] w fun e w' => e = .returned (.bool (repB r)) ∧ w = w' := by
  by_cases g1 : 0 ≤ r
  · by_cases g2 : r < 16
    · have hc : repB r = true := by simp [repB]; omega
      rw [hc]
      clear hc
      go_enter Tryd.func84, Tryd.ntmps84
      go_wp2
      go_ret
      exact ⟨rfl, rfl⟩
    · have hc : repB r = false := by simp [repB]; omega
      rw [hc]
      clear hc
      go_enter Tryd.func84, Tryd.ntmps84
      go_wp2
      go_ret
      exact ⟨rfl, rfl⟩
  · have hc : repB r = false := by simp [repB]; omega
    rw [hc]
    clear hc
    go_enter Tryd.func84, Tryd.ntmps84
    go_wp2
    go_ret
    exact ⟨rfl, rfl⟩

set_option maxHeartbeats 400000 in
theorem upTo_any (z m : Int) (w : World) : Calls Tryd.prog 77 #[.int .i64 z, .int .i64 m] w fun e w' => e = .returned (.bool (upB z m)) ∧ w = w' := by
  by_cases g1 : 0 ≤ z
  · by_cases g2 : z ≤ m
    · have hc : upB z m = true := by simp [upB]; omega
      rw [hc]
      clear hc
      go_enter Tryd.func77, Tryd.ntmps77
      go_wp2
      go_ret
      exact ⟨rfl, rfl⟩
    · have hc : upB z m = false := by simp [upB]; omega
      rw [hc]
      clear hc
      go_enter Tryd.func77, Tryd.ntmps77
      go_wp2
      go_ret
      exact ⟨rfl, rfl⟩
  · have hc : upB z m = false := by simp [upB]; omega
    rw [hc]
    clear hc
    go_enter Tryd.func77, Tryd.ntmps77
    go_wp2
    go_ret
    exact ⟨rfl, rfl⟩

set_option maxHeartbeats 400000 in
theorem root_any (w : World) : Calls Tryd.prog 79 #[] w (StBel w 0 0) := by
  have hb := st_build0
  go_enter Tryd.func79, Tryd.ntmps79
  go_wp2
  refine bodyPost_ret (v := .agg #[.int .i64 0, .int .i64 0]) (by simp [results, Tryd.results79, go_sem]) rfl ⟨rfl, ?_⟩
  exact (Below.refl _ _).alloc (Nat.le_refl _) _
set_option maxHeartbeats 400000 in
theorem trash_any (w : World) : Calls Tryd.prog 80 #[] w (StBel w 0 1) := by
  have hb := st_build1
  go_enter Tryd.func80, Tryd.ntmps80
  go_wp2
  refine bodyPost_ret (v := .agg #[.int .i64 0, .int .i64 1]) (by simp [results, Tryd.results80, go_sem]) rfl ⟨rfl, ?_⟩
  exact (Below.refl _ _).alloc (Nat.le_refl _) _

end Go.Proofs.YtjlbpmmckgjajaaDoor.St

/- Stamps: whether one is a stamp, a place; which stands ahead. -/
namespace Go.Proofs.YtjlbpmmckgjajaaDoor.St
open Go.RowKit Go.Lib
set_option linter.unusedVariables false

theorem below2 (w : World) (o p : Obj) : Below w.heap.size w ((w.alloc o).alloc p) := ((Below.refl w.heap.size w).alloc (Nat.le_refl _) o).alloc (by simp) p
theorem rep_of {r : Int} {b : Bool} (h : decide (0 ≤ r ∧ r < 16) = b) : repB r = b := h
theorem up_of {z m : Int} {b : Bool} (h : decide (0 ≤ z ∧ z ≤ m) = b) : upB z m = b := h
theorem isRep_is (r : Int) (b : Bool) (h : repB r = b) (w : World) : Calls Tryd.prog 84 #[.int .i64 r] w fun e w' => e = .returned (.bool b) ∧ w = w' := by
  rw [← h]; exact isRep_any r w
theorem upTo_is (z m : Int) (b : Bool) (h : upB z m = b) (w : World) : Calls Tryd.prog 77 #[.int .i64 z, .int .i64 m] w fun e w' => e = .returned (.bool b) ∧ w = w' := by
  rw [← h]; exact upTo_any z m w
theorem compare_is (x y z : Int) (h : cmpI x y = z) (w : World) : Calls Tryd.prog 72 #[.int .i64 x, .int .i64 y] w fun e w' => e = .returned (.int .i64 z) ∧ w = w' := by
  rw [← h]; exact compare_any x y w

set_option maxHeartbeats 400000 in
theorem check_any (t r : Int) (w : World) : Calls Tryd.prog 69 #[.agg #[.int .i64 t, .int .i64 r]] w (IntBel w (errB (stB t r))) := by
  by_cases g1 : t < 1
  · have hc : errB (stB t r) = 1 := by
      have : stB t r = false := by simp [stB]; omega
      rw [this]; rfl
    rw [hc]
    clear hc
    go_enter Tryd.func69, Tryd.ntmps69
    go_wp2
    go_ret
    exact ⟨rfl, (Below.refl _ _).alloc (Nat.le_refl _) _⟩
  · by_cases g2 : 1099511627776 < t
    · have hc : errB (stB t r) = 1 := by
        have : stB t r = false := by simp [stB]; omega
        rw [this]; rfl
      rw [hc]
      clear hc
      go_enter Tryd.func69, Tryd.ntmps69
      go_wp2
      go_ret
      exact ⟨rfl, (Below.refl _ _).alloc (Nat.le_refl _) _⟩
    · by_cases g3 : 0 ≤ r ∧ r < 16
      · have hc : errB (stB t r) = 0 := by
          have : stB t r = true := by simp [stB]; omega
          rw [this]; rfl
        rw [hc]
        have C := Lib.hid (fun W => isRep_is r true (by simp [repB]; omega) W)
        clear hc
        go_enter Tryd.func69, Tryd.ntmps69
        go_wp2_with fail
        refine (C.out _).mono ?_
        rintro e w' ⟨rfl, rfl⟩
        go_wp2
        go_ret
        exact ⟨rfl, (Below.refl _ _).alloc (Nat.le_refl _) _⟩
      · have hc : errB (stB t r) = 1 := by
          have : stB t r = false := by simp [stB]; omega
          rw [this]; rfl
        rw [hc]
        have C := Lib.hid (fun W => isRep_is r false (by simp [repB]; omega) W)
        clear hc
        go_enter Tryd.func69, Tryd.ntmps69
        go_wp2_with fail
        refine (C.out _).mono ?_
        rintro e w' ⟨rfl, rfl⟩
        go_wp2
        go_ret
        exact ⟨rfl, (Below.refl _ _).alloc (Nat.le_refl _) _⟩

set_option maxHeartbeats 400000 in
theorem refStamp_any (t r : Int) (w : World) : Calls Tryd.prog 59 #[.agg #[.int .i64 t, .int .i64 r]] w (BoolPost w (stB t r)) := by
  by_cases g1 : 1 ≤ t
  · by_cases g2 : t ≤ 1099511627776
    · by_cases g3 : 0 ≤ r ∧ r < 16
      · have hc : stB t r = true := by simp [stB]; omega
        rw [hc]
        have C := Lib.hid (fun W => upTo_is r 15 true (by simp [upB]; omega) W)
        clear hc
        go_enter Tryd.func59, Tryd.ntmps59
        go_wp2_with fail
        refine (C.out _).mono ?_
        rintro e w' ⟨rfl, rfl⟩
        go_wp2
        go_ret
        exact ⟨rfl, (Below.refl _ _).alloc (Nat.le_refl _) _⟩
      · have hc : stB t r = false := by simp [stB]; omega
        rw [hc]
        have C := Lib.hid (fun W => upTo_is r 15 false (by simp [upB]; omega) W)
        clear hc
        go_enter Tryd.func59, Tryd.ntmps59
        go_wp2_with fail
        refine (C.out _).mono ?_
        rintro e w' ⟨rfl, rfl⟩
        go_wp2
        go_ret
        exact ⟨rfl, (Below.refl _ _).alloc (Nat.le_refl _) _⟩
    · have hc : stB t r = false := by simp [stB]; omega
      rw [hc]
      clear hc
      go_enter Tryd.func59, Tryd.ntmps59
      go_wp2
      go_ret
      exact ⟨rfl, (Below.refl _ _).alloc (Nat.le_refl _) _⟩
  · have hc : stB t r = false := by simp [stB]; omega
    rw [hc]
    clear hc
    go_enter Tryd.func59, Tryd.ntmps59
    go_wp2
    go_ret
    exact ⟨rfl, (Below.refl _ _).alloc (Nat.le_refl _) _⟩

set_option maxHeartbeats 400000 in
theorem place_any (t r : Int) (w : World) : Calls Tryd.prog 86 #[.agg #[.int .i64 t, .int .i64 r]] w (BoolPost w (plB t r)) := by
  by_cases g1 : t = 0
  · by_cases g2 : r = 0
    · have hc : plB t r = true := by simp [plB, stB, rtB]; omega
      rw [hc]
      clear hc
      go_enter Tryd.func86, Tryd.ntmps86
      go_wp2
      go_ret
      exact ⟨rfl, (Below.refl _ _).alloc (Nat.le_refl _) _⟩
    · by_cases g3 : r = 1
      · have hc : plB t r = true := by simp [plB, stB, rtB]; omega
        rw [hc]
        clear hc
        go_enter Tryd.func86, Tryd.ntmps86
        go_wp2
        go_ret
        exact ⟨rfl, (Below.refl _ _).alloc (Nat.le_refl _) _⟩
      · have hc : plB t r = false := by simp [plB, stB, rtB]; omega
        rw [hc]
        clear hc
        have q1 : (r == 0) = false := by simpa using g2
        have q2 : (r == 1) = false := by simpa using g3
        go_enter Tryd.func86, Tryd.ntmps86
        go_wp2
        go_ret
        exact ⟨rfl, (Below.refl _ _).alloc (Nat.le_refl _) _⟩
  · have hr : rtB t r = false := by simp [rtB]; omega
    have hc : plB t r = stB t r := by simp [plB, hr]
    rw [hc]
    clear hc hr
    have C := Lib.hid (fun W => check_any t r W)
    generalize stB t r = b at *
    have HB := Lib.hid ((Below.refl w.heap.size w).alloc (Nat.le_refl _) (.cells #[.int .i64 t, .int .i64 r] 36))
    go_enter Tryd.func86, Tryd.ntmps86
    go_wp2_with fail
    refine (C.out _).mono ?_
    rintro e w' ⟨rfl, hb⟩
    have HZ := Lib.hid (HB.out.trans (hb.mono HB.out.size))
    clear hb
    cases b
    · go_wp2
      go_ret
      exact ⟨rfl, HZ.out⟩
    · go_wp2
      go_ret
      exact ⟨rfl, HZ.out⟩

set_option maxHeartbeats 400000 in
theorem cmp_any (t r u v : Int) (w : World) : Calls Tryd.prog 50 #[.agg #[.int .i64 t, .int .i64 r], .agg #[.int .i64 u, .int .i64 v]] w (IntBel w (cmpS t r u v)) := by
  by_cases g1 : t = u
  · have hc : cmpS t r u v = cmpI r v := by unfold cmpS; rw [if_pos g1]
    rw [hc]
    have C := Lib.hid (fun W => compare_any r v W)
    clear hc
    generalize cmpI r v = z at *
    go_enter Tryd.func50, Tryd.ntmps50
    go_wp2_with fail
    refine (C.out _).mono ?_
    rintro e w' ⟨rfl, rfl⟩
    go_wp2
    go_ret
    exact ⟨rfl, below2 _ _ _⟩
  · have hc : cmpS t r u v = cmpI t u := by unfold cmpS; rw [if_neg g1]
    rw [hc]
    have C := Lib.hid (fun W => compare_any t u W)
    clear hc
    generalize cmpI t u = z at *
    go_enter Tryd.func50, Tryd.ntmps50
    go_wp2_with fail
    refine (C.out _).mono ?_
    rintro e w' ⟨rfl, rfl⟩
    go_wp2
    go_ret
    exact ⟨rfl, below2 _ _ _⟩

set_option maxHeartbeats 400000 in
theorem refCmp_any (t r u v : Int) (w : World) : Calls Tryd.prog 15 #[.agg #[.int .i64 t, .int .i64 r], .agg #[.int .i64 u, .int .i64 v]] w (IntBel w (cmpS t r u v)) := by
  by_cases g1 : t < u
  · have hc : cmpS t r u v = -1 := by unfold cmpS cmpI; (repeat (first | omega | split))
    rw [hc]
    clear hc
    go_enter Tryd.func15, Tryd.ntmps15
    go_wp2
    go_ret
    exact ⟨rfl, below2 _ _ _⟩
  · by_cases g2 : t = u
    · by_cases g3 : r < v
      · have hc : cmpS t r u v = -1 := by unfold cmpS cmpI; (repeat (first | omega | split))
        rw [hc]
        clear hc
        go_enter Tryd.func15, Tryd.ntmps15
        go_wp2
        go_ret
        exact ⟨rfl, below2 _ _ _⟩
      · by_cases g4 : r = v
        · have hc : cmpS t r u v = 0 := by unfold cmpS cmpI; (repeat (first | omega | split))
          rw [hc]
          clear hc
          have hE : ∀ W, (binOp .neq 36 (.agg #[.int .i64 t, .int .i64 r]) (.agg #[.int .i64 u, .int .i64 v])).run Tryd.prog W = .ok (.bool false) W := by
            intro W
            rw [st_neq]
            congr 2
            simp
            try omega
          have hG := st_guard
          go_enter Tryd.func15, Tryd.ntmps15
          go_wp2
          go_ret
          exact ⟨rfl, below2 _ _ _⟩
        · have hc : cmpS t r u v = 1 := by unfold cmpS cmpI; (repeat (first | omega | split))
          rw [hc]
          clear hc
          have hE : ∀ W, (binOp .neq 36 (.agg #[.int .i64 t, .int .i64 r]) (.agg #[.int .i64 u, .int .i64 v])).run Tryd.prog W = .ok (.bool true) W := by
            intro W
            rw [st_neq]
            congr 2
            simp
            try omega
          have hG := st_guard
          go_enter Tryd.func15, Tryd.ntmps15
          go_wp2
          go_ret
          exact ⟨rfl, below2 _ _ _⟩
    · have hc : cmpS t r u v = 1 := by unfold cmpS cmpI; (repeat (first | omega | split))
      rw [hc]
      clear hc
      have hE : ∀ W, (binOp .neq 36 (.agg #[.int .i64 t, .int .i64 r]) (.agg #[.int .i64 u, .int .i64 v])).run Tryd.prog W = .ok (.bool true) W := by
        intro W
        rw [st_neq]
        congr 2
        simp
        try omega
      have hG := st_guard
      go_enter Tryd.func15, Tryd.ntmps15
      go_wp2
      go_ret
      exact ⟨rfl, below2 _ _ _⟩

end Go.Proofs.YtjlbpmmckgjajaaDoor.St

/- Stamps: the page's places; the next one; awake. -/
namespace Go.Proofs.YtjlbpmmckgjajaaDoor.St
open Go.RowKit Go.Lib
set_option linter.unusedVariables false

/-- a stamp at a place -/
structure StAt (w : World) (b o : Nat) (t r : Int) : Prop where
  c0 : w.cell? ⟨b, o, none⟩ = some (.int .i64 t)
  c1 : w.cell? ⟨b, o + 1, none⟩ = some (.int .i64 r)
theorem StAt.lt {w : World} {b o : Nat} {t r : Int} (h : StAt w b o t r) : b < w.heap.size := World.block_lt_of_cell? _ _ h.c0
theorem StAt.below {w w' : World} {b o B : Nat} {t r : Int} (h : StAt w b o t r) (hb : Below B w w') (hB : b < B) : StAt w' b o t r :=
  ⟨(hb.cell (p := ⟨b, o, none⟩) hB).trans h.c0, (hb.cell (p := ⟨b, o + 1, none⟩) hB).trans h.c1⟩
theorem StAt.next {w w' : World} {b o : Nat} {t r : Int} (h : StAt w b o t r) (hb : Below w.heap.size w w') : StAt w' b o t r := h.below hb h.lt
theorem StAt.drew {w : World} {b o : Nat} {t r : Int} (h : StAt w b o t r) : StAt w.drew b o t r := ⟨h.c0, h.c1⟩
theorem StAt.new (w : World) (t r : Int) : StAt (w.alloc (.cells #[.int .i64 t, .int .i64 r] 36)) w.heap.size 0 t r := ⟨by simp, by simp⟩

/-- what is held over a region: a stamp at a place, and that the world grew -/
def HeldS (w0 : World) (n b o : Nat) (t r : Int) (w1 : World) : Prop := w1.cell? ⟨b, o, none⟩ = some (.int .i64 t) ∧ w1.cell? ⟨b, o + 1, none⟩ = some (.int .i64 r) ∧ Hid (Below n w0 w1)
theorem heldS_mk {w0 w1 : World} {n b o : Nat} {t r : Int} (h : StAt w1 b o t r) (hB : Below n w0 w1) : w1.cell? ⟨b, o, none⟩ = some (.int .i64 t) ∧ w1.cell? ⟨b, o + 1, none⟩ = some (.int .i64 r) ∧ Hid (Below n w0 w1) := ⟨h.c0, h.c1, Lib.hid hB⟩
theorem heldS_next {w0 w1 w2 : World} {n b o : Nat} {t r : Int} (h : w1.cell? ⟨b, o, none⟩ = some (.int .i64 t) ∧ w1.cell? ⟨b, o + 1, none⟩ = some (.int .i64 r) ∧ Hid (Below n w0 w1)) (hB : Below w1.heap.size w1 w2) (hn : n ≤ w0.heap.size) : w2.cell? ⟨b, o, none⟩ = some (.int .i64 t) ∧ w2.cell? ⟨b, o + 1, none⟩ = some (.int .i64 r) ∧ Hid (Below n w0 w2) := by
  obtain ⟨h0, h1, HB⟩ := h
  have hA : StAt w1 b o t r := ⟨h0, h1⟩
  exact heldS_mk (hA.next hB) (HB.out.trans (hB.mono (Nat.le_trans hn HB.out.size)))

/-- a stamp, in a world that has grown -/
theorem StAt.regrown {w : World} {b o : Nat} {t r : Int} (h : StAt w b o t r) : (∀ d os, (Go.Sort.grow (redrawn w d) os).cell? ⟨b, o, none⟩ = some (.int .i64 t)) ∧ (∀ d os, (Go.Sort.grow (redrawn w d) os).cell? ⟨b, o + 1, none⟩ = some (.int .i64 r)) := ⟨cell_regrown h.c0, cell_regrown h.c1⟩
abbrev RegrownTo (W : World) (f : FuncId) (args : Array Value) (v : Value) : Prop := ∀ d os, Calls Tryd.prog f args (Go.Sort.grow (redrawn W d) os) fun e w'' => e = .returned v ∧ ∃ p : Regrown, w'' = Go.Sort.grow (redrawn W p.d) p.os
theorem regrown_same {W : World} {f : FuncId} {args : Array Value} {v : Value} (h : ∀ w, Calls Tryd.prog f args w fun e w' => e = .returned v ∧ w = w') : RegrownTo W f args v := fun d os => (h _).mono fun _ _ ⟨he, hw⟩ => ⟨he, ⟨d, os⟩, hw.symm⟩
theorem regrown_bel {W : World} {f : FuncId} {args : Array Value} {v : Value} (h : ∀ w, Calls Tryd.prog f args w fun e w' => e = .returned v ∧ Below w.heap.size w w') : RegrownTo W f args v := fun d os => Calls.regrown_of (h _)

set_option maxHeartbeats 1000000 in
theorem refPlace_st (t r : Int) (w : World) (h1 : stB t r = true) : Calls Tryd.prog 62 #[.agg #[.int .i64 t, .int .i64 r]] w (BoolPost w true) := by
  have mixed : Tryd.prog.follows .mixedOrders = true := by kernel_rfl
  have c8 : RegrownTo (w.alloc (.cells #[.int .i64 t, .int .i64 r] 36)) 59 #[.agg #[.int .i64 t, .int .i64 r]] (.bool true) := regrown_bel fun W => by rw [← h1]; exact refStamp_any t r W
  clear h1
  obtain ⟨k0, k1⟩ := (StAt.new w t r).regrown
  have HB := Lib.hid ((Below.refl w.heap.size w).alloc (Nat.le_refl _) (.cells #[.int .i64 t, .int .i64 r] 36))
  have hG := st_guard
  go_enter Tryd.func62, Tryd.ntmps62
  go_wp2_with fail
  refine wp_region_quiet_below (by assumption) (by kernel_rfl) ?_
  repeat (quiet_step (exact c8 _ _))
  refine wpQuiet_nil ?_
  intro _ hw'
  obtain ⟨⟨dq, osq⟩, hw''⟩ := hw'
  subst hw''
  go_wp2
  go_ret
  exact ⟨rfl, HB.out.trans ((below_regrown _ dq osq).mono HB.out.size)⟩

set_option maxHeartbeats 1000000 in
theorem refPlace_root (t r : Int) (w : World) (h1 : stB t r = false) (h2 : t = 0 ∧ r = 0) : Calls Tryd.prog 62 #[.agg #[.int .i64 t, .int .i64 r]] w (BoolPost w true) := by
  have mixed : Tryd.prog.follows .mixedOrders = true := by kernel_rfl
  have c8 : RegrownTo (w.alloc (.cells #[.int .i64 t, .int .i64 r] 36)) 59 #[.agg #[.int .i64 t, .int .i64 r]] (.bool false) := regrown_bel fun W => by rw [← h1]; exact refStamp_any t r W
  have c24 : RegrownTo (w.alloc (.cells #[.int .i64 t, .int .i64 r] 36)) 79 #[] (.agg #[.int .i64 0, .int .i64 0]) := regrown_bel fun W => root_any W
  have q1 : ∀ W, (binOp .eql 36 (.agg #[.int .i64 t, .int .i64 r]) (.agg #[.int .i64 0, .int .i64 0])).run Tryd.prog W = .ok (.bool true) W := by
    intro W
    rw [st_eql]
    congr 2
    simp
    omega
  clear h1 h2
  obtain ⟨k0, k1⟩ := (StAt.new w t r).regrown
  have HB := Lib.hid ((Below.refl w.heap.size w).alloc (Nat.le_refl _) (.cells #[.int .i64 t, .int .i64 r] 36))
  have hG := st_guard
  go_enter Tryd.func62, Tryd.ntmps62
  go_wp2_with fail
  refine wp_region_quiet_below (by assumption) (by kernel_rfl) ?_
  repeat (quiet_step (first | exact c8 _ _ | exact c24 _ _))
  refine wpQuiet_nil ?_
  intro _ hw'
  obtain ⟨⟨dq, osq⟩, hw''⟩ := hw'
  subst hw''
  go_wp2
  go_ret
  exact ⟨rfl, HB.out.trans ((below_regrown _ dq osq).mono HB.out.size)⟩

set_option maxHeartbeats 1000000 in
theorem refPlace_trash (t r : Int) (w : World) (h1 : stB t r = false) (h2 : t = 0 ∧ r = 1) : Calls Tryd.prog 62 #[.agg #[.int .i64 t, .int .i64 r]] w (BoolPost w true) := by
  have mixed : Tryd.prog.follows .mixedOrders = true := by kernel_rfl
  have c8 : RegrownTo (w.alloc (.cells #[.int .i64 t, .int .i64 r] 36)) 59 #[.agg #[.int .i64 t, .int .i64 r]] (.bool false) := regrown_bel fun W => by rw [← h1]; exact refStamp_any t r W
  have c24 : RegrownTo (w.alloc (.cells #[.int .i64 t, .int .i64 r] 36)) 79 #[] (.agg #[.int .i64 0, .int .i64 0]) := regrown_bel fun W => root_any W
  have c25 : RegrownTo (w.alloc (.cells #[.int .i64 t, .int .i64 r] 36)) 80 #[] (.agg #[.int .i64 0, .int .i64 1]) := regrown_bel fun W => trash_any W
  have q1 : ∀ W, (binOp .eql 36 (.agg #[.int .i64 t, .int .i64 r]) (.agg #[.int .i64 0, .int .i64 0])).run Tryd.prog W = .ok (.bool false) W := by
    intro W
    rw [st_eql]
    congr 2
    simp
    omega
  have q2 : ∀ W, (binOp .eql 36 (.agg #[.int .i64 t, .int .i64 r]) (.agg #[.int .i64 0, .int .i64 1])).run Tryd.prog W = .ok (.bool true) W := by
    intro W
    rw [st_eql]
    congr 2
    simp
    omega
  clear h1 h2
  obtain ⟨k0, k1⟩ := (StAt.new w t r).regrown
  have HB := Lib.hid ((Below.refl w.heap.size w).alloc (Nat.le_refl _) (.cells #[.int .i64 t, .int .i64 r] 36))
  have hG := st_guard
  go_enter Tryd.func62, Tryd.ntmps62
  go_wp2_with fail
  refine wp_region_quiet_below (by assumption) (by kernel_rfl) ?_
  repeat (quiet_step (first | exact c8 _ _ | exact c24 _ _ | exact c25 _ _))
  refine wpQuiet_nil ?_
  intro _ hw'
  obtain ⟨⟨dq, osq⟩, hw''⟩ := hw'
  subst hw''
  go_wp2
  go_ret
  exact ⟨rfl, HB.out.trans ((below_regrown _ dq osq).mono HB.out.size)⟩

set_option maxHeartbeats 1000000 in
theorem refPlace_no (t r : Int) (w : World) (h1 : stB t r = false) (h2 : rtB t r = false) : Calls Tryd.prog 62 #[.agg #[.int .i64 t, .int .i64 r]] w (BoolPost w false) := by
  have mixed : Tryd.prog.follows .mixedOrders = true := by kernel_rfl
  have c8 : RegrownTo (w.alloc (.cells #[.int .i64 t, .int .i64 r] 36)) 59 #[.agg #[.int .i64 t, .int .i64 r]] (.bool false) := regrown_bel fun W => by rw [← h1]; exact refStamp_any t r W
  have c24 : RegrownTo (w.alloc (.cells #[.int .i64 t, .int .i64 r] 36)) 79 #[] (.agg #[.int .i64 0, .int .i64 0]) := regrown_bel fun W => root_any W
  have c25 : RegrownTo (w.alloc (.cells #[.int .i64 t, .int .i64 r] 36)) 80 #[] (.agg #[.int .i64 0, .int .i64 1]) := regrown_bel fun W => trash_any W
  have h3 : ¬ (t = 0 ∧ (r = 0 ∨ r = 1)) := by simpa [rtB] using h2
  have q1 : ∀ W, (binOp .eql 36 (.agg #[.int .i64 t, .int .i64 r]) (.agg #[.int .i64 0, .int .i64 0])).run Tryd.prog W = .ok (.bool false) W := by
    intro W
    rw [st_eql]
    congr 2
    simp
    omega
  have q2 : ∀ W, (binOp .eql 36 (.agg #[.int .i64 t, .int .i64 r]) (.agg #[.int .i64 0, .int .i64 1])).run Tryd.prog W = .ok (.bool false) W := by
    intro W
    rw [st_eql]
    congr 2
    simp
    omega
  clear h1 h2 h3
  obtain ⟨k0, k1⟩ := (StAt.new w t r).regrown
  have HB := Lib.hid ((Below.refl w.heap.size w).alloc (Nat.le_refl _) (.cells #[.int .i64 t, .int .i64 r] 36))
  have hG := st_guard
  go_enter Tryd.func62, Tryd.ntmps62
  go_wp2_with fail
  refine wp_region_quiet_below (by assumption) (by kernel_rfl) ?_
  repeat (quiet_step (first | exact c8 _ _ | exact c24 _ _ | exact c25 _ _))
  refine wpQuiet_nil ?_
  intro _ hw'
  obtain ⟨⟨dq, osq⟩, hw''⟩ := hw'
  subst hw''
  go_wp2
  go_ret
  exact ⟨rfl, HB.out.trans ((below_regrown _ dq osq).mono HB.out.size)⟩

theorem refPlace_any (t r : Int) (w : World) : Calls Tryd.prog 62 #[.agg #[.int .i64 t, .int .i64 r]] w (BoolPost w (plB t r)) := by
  cases h1 : stB t r
  · cases h2 : rtB t r
    · have e : plB t r = false := by simp [plB, h1, h2]
      rw [e]
      exact refPlace_no t r w h1 h2
    · have e : plB t r = true := by simp [plB, h2]
      rw [e]
      have h3 : t = 0 ∧ (r = 0 ∨ r = 1) := by simpa [rtB] using h2
      rcases h3 with ⟨h3, h4 | h4⟩
      · exact refPlace_root t r w h1 ⟨h3, h4⟩
      · exact refPlace_trash t r w h1 ⟨h3, h4⟩
  · have e : plB t r = true := by simp [plB, h1]
    rw [e]
    exact refPlace_st t r w h1

end Go.Proofs.YtjlbpmmckgjajaaDoor.St

/- The bytes of a place, and back: mathematics. -/
namespace Go.Proofs.YtjlbpmmckgjajaaDoor.St
open Go.RowKit Go.Lib
set_option linter.unusedVariables false

def encS (t r : Int) : List Int := enc t.toNat ++ enc r.toNat
/-- the place that bytes begin with: its two numbers, how many bytes, the error -/
def tkSt (bs : List Int) : Int × Int × Nat × Int :=
  if (tkN bs).2.2 ≠ 0 then (0, 0, 0, (tkN bs).2.2)
  else if (tkN (bs.drop (tkN bs).2.1)).2.2 ≠ 0 then (0, 0, 0, (tkN (bs.drop (tkN bs).2.1)).2.2)
  else if plB (tkN bs).1 (tkN (bs.drop (tkN bs).2.1)).1 then ((tkN bs).1, (tkN (bs.drop (tkN bs).2.1)).1, (tkN bs).2.1 + (tkN (bs.drop (tkN bs).2.1)).2.1, 0)
  else (0, 0, 0, 1)

theorem plB_num {t r : Int} (h : plB t r = true) : 0 ≤ t ∧ t ≤ 1099511627776 ∧ 0 ≤ r ∧ r < 16 := by
  simp [plB, stB, rtB] at h
  omega
theorem encS_isB (t r : Int) : IsB (encS t r) := (enc_isB _).app (enc_isB _)
theorem encS_encs (t r : Int) : encs [t, r] = encS t r := by simp [encs, encS]
theorem encS_len {t r : Int} (h : plB t r = true) : (encS t r).length ≤ 18 := by
  obtain ⟨h1, h2, h3, h4⟩ := plB_num h
  have a := enc_len9 (n := t.toNat) (by omega)
  have b := enc_len9 (n := r.toNat) (by omega)
  unfold encS
  rw [List.length_append]
  omega
theorem tkSt_enc {t r : Int} (h : plB t r = true) (x : List Int) : tkSt (encS t r ++ x) = (t, r, (encS t r).length, 0) := by
  obtain ⟨h1, h2, h3, h4⟩ := plB_num h
  have e1 : tkN (encS t r ++ x) = (t, (enc t.toNat).length, 0) := by
    unfold encS
    rw [List.append_assoc, tkN_enc (by omega)]
    congr 1
    omega
  have e2 : tkN ((encS t r ++ x).drop (enc t.toNat).length) = (r, (enc r.toNat).length, 0) := by
    unfold encS
    rw [List.append_assoc, List.drop_left, tkN_enc (by omega)]
    congr 1
    omega
  unfold tkSt
  rw [e1]
  simp only [ne_eq, not_true_eq_false, if_false]
  rw [e2]
  simp only [not_true_eq_false, if_false, h, if_true]
  unfold encS
  rw [List.length_append]
theorem tkSt_err {bs : List Int} (h : (tkN bs).2.2 ≠ 0) : tkSt bs = (0, 0, 0, (tkN bs).2.2) := by unfold tkSt; rw [if_pos h]
theorem tkSt_err2 {bs : List Int} (h : (tkN bs).2.2 = 0) (h2 : (tkN (bs.drop (tkN bs).2.1)).2.2 ≠ 0) : tkSt bs = (0, 0, 0, (tkN (bs.drop (tkN bs).2.1)).2.2) := by unfold tkSt; rw [if_neg (by simp [h]), if_pos h2]
theorem tkSt_no {bs : List Int} (h : (tkN bs).2.2 = 0) (h2 : (tkN (bs.drop (tkN bs).2.1)).2.2 = 0) (h3 : plB (tkN bs).1 (tkN (bs.drop (tkN bs).2.1)).1 = false) : tkSt bs = (0, 0, 0, 1) := by
  unfold tkSt; rw [if_neg (by simp [h]), if_neg (by simp [h2]), h3]; rfl
theorem tkSt_yes {bs : List Int} (h : (tkN bs).2.2 = 0) (h2 : (tkN (bs.drop (tkN bs).2.1)).2.2 = 0) (h3 : plB (tkN bs).1 (tkN (bs.drop (tkN bs).2.1)).1 = true) : tkSt bs = ((tkN bs).1, (tkN (bs.drop (tkN bs).2.1)).1, (tkN bs).2.1 + (tkN (bs.drop (tkN bs).2.1)).2.1, 0) := by
  unfold tkSt; rw [if_neg (by simp [h]), if_neg (by simp [h2]), h3]; rfl

theorem size3 (w : World) : (Go.sizeOf 3).run Tryd.prog w = .ok 1 w := by
  obtain ⟨i0, hi, hz0, hz1, hz2⟩ := info_parts Tryd.info3
  simp [Go.sizeOf, typeInfo, hi, hz1]
theorem sliceI_1 (w : World) (a : Option Addr) (len cap : Nat) (h1 : 1 ≤ len) :
    (Instr.slice 37 (.slice a len cap) (some (.int .i64 1)) none none).run Tryd.prog w = .ok (.slice (partA a 1 cap) (len - 1) (cap - 1)) w := by
  have ht' : Tryd.prog.underlying 37 = some (.slice (Tryd.prog.elem 37)) := by simp [Program.elem, Tryd.underlying37]
  have he : Tryd.prog.elem 37 = 3 := by simp [Program.elem, Tryd.underlying37]
  rw [run_slice_l w 37 _ _ _ ht' .i64 _ (by omega) (by omega), he, size3]
  simp [Result.andThen, sliced, partA]
end Go.Proofs.YtjlbpmmckgjajaaDoor.St

/- encoded: the bytes of numbers, one behind another. -/
namespace Go.Proofs.YtjlbpmmckgjajaaDoor.St
open Go.RowKit Go.Lib
set_option linter.unusedVariables false

def EncI (l : List Int) (w w' : World) (a : Option Addr) (c : Nat) (v : Value) (done rest : List Int) : Prop :=
  done ++ rest = l ∧ RowK .i64 w a rest ∧ rest.length ≤ c ∧ OwnK .u8 5 w' w.heap.size v (encs done) ∧ Below w.heap.size w w'
def EncJ (l : List Int) (w : World) (act : Act) (w' : World) : Prop :=
  ∃ (a : Option Addr) (n c : Nat) (v : Value) (done rest : List Int) (u1 u2 u3 u5 u6 u7 u8 u9 u10 u11 u12 u13 u14 u15 u16 u17 u18 u19 u20 u21 u22 u23 u24 u25 : Value), act = { tmps := #[.slice a n c, u1, u2, u3, v, u5, u6, u7, u8, u9, u10, u11, u12, u13, u14, u15, u16, u17, u18, u19, u20, u21, u22, u23, u24, u25], defers := [] } ∧ n = rest.length ∧ EncI l w w' a c v done rest
def lenOfS : Value → Nat
  | .slice _ n _ => n
  | _ => 0
theorem enc_end {l : List Int} {w w' : World} {a : Option Addr} {c : Nat} {v : Value} {done : List Int} (h : EncI l w w' a c v done []) : BytesPost w (encs l) (.returned (.tuple #[v, .int .i64 0])) w' := by
  obtain ⟨h1, h2, h3, h4, h5⟩ := h
  rw [List.append_nil] at h1
  subst h1
  exact ⟨v, rfl, h4, h5⟩
theorem enc_next {l : List Int} {w w0 w1 w2 : World} {a : Option Addr} {c : Nat} {v v2 : Value} {z : Int} {done rest : List Int} (h : EncI l w w0 a c v done (z :: rest)) (hb1 : Below w0.heap.size w0 w1) (hg : Grew .u8 5 w.heap.size w1 v (encs done) (enc z.toNat) v2 w2) : EncI l w w2 (partA a 1 c) (c - 1) v2 (done ++ [z]) rest := by
  obtain ⟨h1, h2, h3, h4, h5⟩ := h
  have hs := h5.size
  have hs1 := hb1.size
  have hb : Below w.heap.size w w1 := h5.trans (hb1.mono hs)
  refine ⟨by rw [List.append_assoc]; exact h1, h2.rest 1 c h3, by simp at h3; omega, ?_, hg.bel _ _ hb (Nat.le_refl _) (by omega)⟩
  rw [encs_snoc]
  exact hg.own
theorem enc_bound {l done rest : List Int} {z : Int} (h : done ++ z :: rest = l) (hn : ∀ x ∈ l, numB x = true) (hl : l.length ≤ 1000) : (encs done).length + (enc z.toNat).length ≤ 140737488355328 := by
  have h1 := encs_len l hn
  have h2 : (encs l).length = (encs done).length + (enc z.toNat).length + (encs rest).length := by
    rw [← h]
    simp [encs]
    omega
  omega
end Go.Proofs.YtjlbpmmckgjajaaDoor.St

/- The bytes of a place: the program's, the page's. -/
namespace Go.Proofs.YtjlbpmmckgjajaaDoor.St
open Go.RowKit Go.Lib
set_option linter.unusedVariables false

theorem two_rowI (W : World) (t r : Int) : RowK .i64 (W.alloc (.cells #[.int .i64 t, .int .i64 r] 3)) (some ⟨W.heap.size, 0, none⟩) [t, r] := by
  intro i hi
  simp only [List.length_cons, List.length_nil] at hi
  rcases (show i = 0 ∨ i = 1 by omega) with rfl | rfl
  · exact ⟨W.heap.size, 0, rfl, by simp⟩
  · exact ⟨W.heap.size, 0, rfl, by simp⟩
theorem place_is (t r : Int) (b : Bool) (h : plB t r = b) (w : World) : Calls Tryd.prog 86 #[.agg #[.int .i64 t, .int .i64 r]] w (BoolPost w b) := by rw [← h]; exact place_any t r w
theorem refPlace_is (t r : Int) (b : Bool) (h : plB t r = b) (w : World) : Calls Tryd.prog 62 #[.agg #[.int .i64 t, .int .i64 r]] w (BoolPost w b) := by rw [← h]; exact refPlace_any t r w
theorem below_box (w : World) (o : Obj) : Below w.heap.size w (w.alloc o) := (Below.refl _ _).alloc (Nat.le_refl _) _

end Go.Proofs.YtjlbpmmckgjajaaDoor.St

/- The place that bytes begin with: the program's, the page's. -/
namespace Go.Proofs.YtjlbpmmckgjajaaDoor.St
open Go.RowKit Go.Lib
set_option linter.unusedVariables false

def TakeSt (R : Int × Int × Nat × Int) (w : World) (e : Ending) (w' : World) : Prop := e = .returned (.tuple #[.agg #[.int .i64 R.1, .int .i64 R.2.1], .int .i64 (R.2.2.1 : Int), .int .i64 R.2.2.2]) ∧ Below w.heap.size w w'
/-- a stamp in a block of one's own, that may be written -/
structure StW (w : World) (g : Nat) (t r : Int) : Prop where
  c0 : w.cell? ⟨g, 0, none⟩ = some (.int .i64 t)
  c1 : w.cell? ⟨g, 1, none⟩ = some (.int .i64 r)
  f0 : w.frozen? ⟨g, 0, none⟩ = false
  f1 : w.frozen? ⟨g, 1, none⟩ = false
theorem StW.new (w : World) (t r : Int) : StW (w.alloc (.cells #[.int .i64 t, .int .i64 r] 36)) w.heap.size t r := ⟨by simp, by simp, by simp, by simp⟩
theorem StW.next {w w' : World} {g : Nat} {t r : Int} (h : StW w g t r) (hb : Below w.heap.size w w') : StW w' g t r := by
  have hl := World.block_lt_of_cell? _ _ h.c0
  exact ⟨(hb.cell (p := ⟨g, 0, none⟩) hl).trans h.c0, (hb.cell (p := ⟨g, 1, none⟩) hl).trans h.c1, (hb.frozen (p := ⟨g, 0, none⟩) hl).trans h.f0, (hb.frozen (p := ⟨g, 1, none⟩) hl).trans h.f1⟩
theorem below_set2 {w w1 : World} (h : Below w.heap.size w w1) (u v : Value) : Below w.heap.size w ((w1.setCell ⟨w.heap.size, 0, none⟩ u).setCell ⟨w.heap.size, 1, none⟩ v) :=
  (h.setCell (p := ⟨w.heap.size, 0, none⟩) (Nat.le_refl _) u).setCell (p := ⟨w.heap.size, 1, none⟩) (Nat.le_refl _) v
theorem set2_cells {w1 : World} {g : Nat} {t r : Int} (h : StW w1 g t r) (u v : Value) : ((w1.setCell ⟨g, 0, none⟩ u).setCell ⟨g, 1, none⟩ v).cell? ⟨g, 0, none⟩ = some u ∧ ((w1.setCell ⟨g, 0, none⟩ u).setCell ⟨g, 1, none⟩ v).cell? ⟨g, 1, none⟩ = some v := by
  have h1 : (w1.setCell ⟨g, 0, none⟩ u).cell? ⟨g, 0, none⟩ = some u := World.cell?_setCell_same' _ _ _ (by rw [h.c0]; rfl)
  have h2 : (w1.setCell ⟨g, 0, none⟩ u).cell? ⟨g, 1, none⟩ = some (.int .i64 r) := by rw [World.cell?_setCell_other _ _ _ _ (by simp)]; exact h.c1
  refine ⟨?_, World.cell?_setCell_same' _ _ _ (by rw [h2]; rfl)⟩
  rw [World.cell?_setCell_other _ _ _ _ (by simp)]
  exact h1

end Go.Proofs.YtjlbpmmckgjajaaDoor.St

/- The walk of StampBytes. -/
namespace Go.Proofs.YtjlbpmmckgjajaaDoor.St
open Go.RowKit Go.Lib
set_option linter.unusedVariables false

def TakeIs (x1 x2 : Int) (x3 : Nat) (x4 : Int) (w : World) (e : Ending) (w' : World) : Prop := e = .returned (.tuple #[.agg #[.int .i64 x1, .int .i64 x2], .int .i64 (x3 : Int), .int .i64 x4]) ∧ Below w.heap.size w w'
theorem StW.drew {w : World} {g : Nat} {t r : Int} (h : StW w g t r) : StW w.drew g t r := ⟨h.c0, h.c1, h.f0, h.f1⟩
theorem st_same (t r : Int) (W : World) : (binOp .neq 36 (.agg #[.int .i64 t, .int .i64 r]) (.agg #[.int .i64 t, .int .i64 r])).run Tryd.prog W = .ok (.bool false) W := by
  rw [st_neq]
  congr 2
  simp

end Go.Proofs.YtjlbpmmckgjajaaDoor.St

/- Keys, mathematics alone: the order of texts, what a key is, the key between two, that it lies there, and how often it can be made. -/
namespace Go.Proofs.YtjlbpmmckgjajaaDoor.Ky

/-- the order of texts -/
def ltB : List Int → List Int → Bool
  | _, [] => false
  | [], _ :: _ => true
  | a :: x, b :: y => decide (a < b) || (decide (a = b) && ltB x y)

theorem ltB_nil (x : List Int) : ltB x [] = false := by cases x <;> rfl
theorem ltB_irr : ∀ x, ltB x x = false
  | [] => rfl
  | a :: x => by simp [ltB, ltB_irr x]
theorem ltB_asymm : ∀ x y, ltB x y = true → ltB y x = false
  | [], [], h => by simp [ltB] at h
  | _ :: _, [], h => by simp [ltB] at h
  | [], _ :: _, _ => rfl
  | a :: x, b :: y, h => by
    simp only [ltB, Bool.or_eq_true, Bool.and_eq_true, decide_eq_true_eq] at h
    simp only [ltB, Bool.or_eq_false_iff, Bool.and_eq_false_iff, decide_eq_false_iff_not]
    rcases h with h | ⟨h, h'⟩
    · exact ⟨by omega, .inl (by omega)⟩
    · exact ⟨by omega, .inr (ltB_asymm x y h')⟩
theorem ltB_ne {x y : List Int} (h : ltB x y = true) : y ≠ x := fun e => by subst e; rw [ltB_irr] at h; cases h
theorem ltB_empty {x : List Int} (h : x ≠ []) : ltB [] x = true := by cases x with
  | nil => exact absurd rfl h
  | cons => rfl

theorem less_map : ∀ x y : List UInt8, Op.bytesLess x y = ltB (x.map fun b => (b.toNat : Int)) (y.map fun b => (b.toNat : Int))
  | [], [] => rfl
  | _ :: _, [] => rfl
  | [], _ :: _ => rfl
  | a :: x, b :: y => by
    rw [Op.bytesLess, less_map x y, List.map_cons, List.map_cons, ltB]
    have e1 : decide (a < b) = decide ((a.toNat : Int) < (b.toNat : Int)) := by
      rw [decide_eq_decide, UInt8.lt_iff_toNat_lt]; omega
    have e2 : (a == b) = decide ((a.toNat : Int) = (b.toNat : Int)) := by
      rw [Bool.eq_iff_iff, beq_iff_eq, decide_eq_true_eq]
      constructor
      · intro h; rw [h]
      · intro h; exact UInt8.toNat_inj.1 (by omega)
    rw [e1, e2]
theorem less_strN (s t : ByteArray) : Op.bytesLess s.toList t.toList = ltB (strN s) (strN t) := by
  rw [ByteArray.toList_eq, ByteArray.toList_eq, less_map]; rfl
theorem strN_inj {s t : ByteArray} (h : strN s = strN t) : s = t := by rw [← strOf_strN s, ← strOf_strN t, h]
theorem same_strN (s t : ByteArray) : (s.toList == t.toList) = decide (strN s = strN t) := by
  rw [Bool.eq_iff_iff, beq_iff_eq, decide_eq_true_eq, ByteArray.toList_eq, ByteArray.toList_eq]
  constructor
  · intro h; unfold strN; rw [h]
  · intro h; rw [strN_inj h]

/-- its last byte is not 0 (and there is one) -/
def endB : List Int → Bool
  | [] => false
  | [x] => decide (x ≠ 0)
  | _ :: y :: r => endB (y :: r)
theorem endB_cons {x : Int} {r : List Int} (h : r ≠ []) : endB (x :: r) = endB r := by cases r with
  | nil => exact absurd rfl h
  | cons => rfl
theorem endB_ne {r : List Int} (h : endB r = true) : r ≠ [] := by rintro rfl; simp [endB] at h
theorem endB_last : ∀ zs : List Int, endB zs = decide (zs.getD (zs.length - 1) 0 ≠ 0)
  | [] => by simp [endB]
  | [x] => by simp [endB]
  | x :: y :: r => by
    rw [endB, endB_last (y :: r)]
    simp [List.getD]
def keyB (zs : List Int) : Bool := endB zs && decide (zs.length ≤ 64)
def limB (zs : List Int) : Bool := decide (zs = []) || keyB zs
def mayB (a b : List Int) : Bool := limB a && limB b && (decide (a = []) || decide (b = []) || ltB a b)

/-- what is used of the upper limit from the next place on -/
def usedB (x y : Int) (b : List Int) : List Int := if y = x + 1 then [] else b
theorem usedB_yes {x y : Int} (h : y = x + 1) (b : List Int) : usedB x y b = [] := if_pos h
theorem usedB_no {x y : Int} (h : ¬ y = x + 1) (b : List Int) : usedB x y b = b := if_neg h
theorem usedB_nil (x y : Int) : usedB x y [] = [] := by unfold usedB; split <;> rfl
theorem usedB_len (x y : Int) (b : List Int) : (usedB x y b).length ≤ b.length := by unfold usedB; split <;> simp
theorem usedB_drop (x y : Int) (b : List Int) (i : Nat) : (usedB x y b).drop i = usedB x y (b.drop i) := by unfold usedB; split <;> simp

/-- the key between two -/
def mid (a b : List Int) : List Int :=
  if h : a.headD 0 + 2 ≤ b.headD 256 then [a.headD 0 + (b.headD 256 - a.headD 0) / 2]
  else a.headD 0 :: mid a.tail (usedB (a.headD 0) (b.headD 256) b.tail)
  termination_by a.length + b.length
  decreasing_by
    have h0 : a = [] → b = [] → False := by rintro rfl rfl; simp at h
    have h1 := usedB_len (a.headD 0) (b.headD 256) b.tail
    rw [List.length_tail] at h1
    rw [List.length_tail]
    rcases Nat.eq_zero_or_pos a.length with ha | ha
    · have hb : 0 < b.length := by
        rcases Nat.eq_zero_or_pos b.length with hb | hb
        · exact absurd (h0 (List.eq_nil_of_length_eq_zero ha) (List.eq_nil_of_length_eq_zero hb)) id
        · exact hb
      omega
    · omega
theorem mid_yes {a b : List Int} (h : a.headD 0 + 2 ≤ b.headD 256) : mid a b = [a.headD 0 + (b.headD 256 - a.headD 0) / 2] := by rw [mid, dif_pos h]
theorem mid_no {a b : List Int} (h : ¬ a.headD 0 + 2 ≤ b.headD 256) : mid a b = a.headD 0 :: mid a.tail (usedB (a.headD 0) (b.headD 256) b.tail) := by rw [mid, dif_neg h]

theorem headD_drop (l : List Int) (i : Nat) (d : Int) : (l.drop i).headD d = l.getD i d := by
  simp [List.headD_eq_head?_getD, List.getD_eq_getElem?_getD]
theorem mid_stop {a b : List Int} {i : Nat} (h : a.getD i 0 + 2 ≤ b.getD i 256) : mid (a.drop i) (b.drop i) = [a.getD i 0 + (b.getD i 256 - a.getD i 0) / 2] := by
  rw [mid_yes (by rw [headD_drop, headD_drop]; exact h), headD_drop, headD_drop]
theorem mid_go {a b : List Int} {i : Nat} (h : ¬ a.getD i 0 + 2 ≤ b.getD i 256) : mid (a.drop i) (b.drop i) = a.getD i 0 :: mid (a.drop (i + 1)) ((usedB (a.getD i 0) (b.getD i 256) b).drop (i + 1)) := by
  rw [mid_no (by rw [headD_drop, headD_drop]; exact h), headD_drop, headD_drop, List.tail_drop, List.tail_drop, usedB_drop]

theorem mid_len_le : ∀ (n : Nat) (a b : List Int), a.length + b.length ≤ n → (mid a b).length ≤ n + 1 ∧ 1 ≤ (mid a b).length
  | 0, a, b, h => by
    obtain rfl : a = [] := List.eq_nil_of_length_eq_zero (by omega)
    obtain rfl : b = [] := List.eq_nil_of_length_eq_zero (by omega)
    rw [mid_yes (by simp)]; simp
  | n + 1, a, b, h => by
    by_cases hc : a.headD 0 + 2 ≤ b.headD 256
    · rw [mid_yes hc]; simp
    · rw [mid_no hc, List.length_cons]
      have h1 := usedB_len (a.headD 0) (b.headD 256) b.tail
      rw [List.length_tail] at h1
      have h0 : a = [] → b = [] → False := by rintro rfl rfl; simp at hc
      have hp : 0 < a.length ∨ 0 < b.length := by
        rcases Nat.eq_zero_or_pos a.length with ha | ha
        · rcases Nat.eq_zero_or_pos b.length with hb | hb
          · exact absurd (h0 (List.eq_nil_of_length_eq_zero ha) (List.eq_nil_of_length_eq_zero hb)) id
          · exact .inr hb
        · exact .inl ha
      have := mid_len_le n a.tail (usedB (a.headD 0) (b.headD 256) b.tail) (by rw [List.length_tail]; omega)
      omega

/-- the key between two is one, and lies there -/
theorem mid_ok : ∀ (n : Nat) (a b : List Int), a.length + b.length ≤ n → IsB a → IsB b → (b = [] ∨ (endB b = true ∧ ltB a b = true)) →
    endB (mid a b) = true ∧ IsB (mid a b) ∧ ltB a (mid a b) = true ∧ (b = [] ∨ ltB (mid a b) b = true)
  | n, a, b, h, ha, hb, hd => by
    have hx : 0 ≤ a.headD 0 ∧ a.headD 0 < 256 := by
      cases a with
      | nil => simp
      | cons x r => exact ha.cons.1
    have hy : 0 ≤ b.headD 256 ∧ b.headD 256 ≤ 256 := by
      cases b with
      | nil => simp
      | cons y r => have := hb.cons.1; simp only [List.headD_cons]; omega
    by_cases hc : a.headD 0 + 2 ≤ b.headD 256
    · rw [mid_yes hc]
      generalize hm : a.headD 0 + (b.headD 256 - a.headD 0) / 2 = m
      refine ⟨by simp [endB]; omega, IsB.mk (by omega) IsB.nil, ?_, ?_⟩
      · cases a with
        | nil => rfl
        | cons x r => simp only [List.headD_cons] at hc hm hx; simp [ltB]; omega
      · cases b with
        | nil => exact .inl rfl
        | cons y r => simp only [List.headD_cons] at hc hm hy; refine .inr ?_; simp [ltB]; omega
    · rw [mid_no hc]
      have hlt : n ≠ 0 := by
        rintro rfl
        obtain rfl : a = [] := List.eq_nil_of_length_eq_zero (by omega)
        obtain rfl : b = [] := List.eq_nil_of_length_eq_zero (by omega)
        simp at hc
      obtain ⟨m, rfl⟩ : ∃ m, n = m + 1 := ⟨n - 1, by omega⟩
      cases b with
      | nil =>
        cases a with
        | nil => simp at hc
        | cons x r =>
          simp only [List.headD_cons, List.headD_nil, List.tail_cons, List.tail_nil, List.length_cons, List.length_nil, usedB_nil] at *
          obtain ⟨h1, h2, h3, _⟩ := mid_ok m r [] (by simp; omega) ha.cons.2 IsB.nil (.inl rfl)
          exact ⟨by rw [endB_cons (endB_ne h1)]; exact h1, IsB.mk hx h2, by simp [ltB, h3], .inl trivial⟩
      | cons y s =>
        obtain ⟨he, hl⟩ := hd.resolve_left (by simp)
        cases a with
        | nil =>
          simp only [List.headD_cons, List.headD_nil, List.tail_cons, List.tail_nil, List.length_cons, List.length_nil] at *
          by_cases h1y : y = 0 + 1
          · rw [usedB_yes h1y]
            obtain ⟨h1, h2, h3, _⟩ := mid_ok m [] [] (by simp) IsB.nil IsB.nil (.inl rfl)
            exact ⟨by rw [endB_cons (endB_ne h1)]; exact h1, IsB.mk (by omega) h2, rfl, .inr (by simp [ltB]; omega)⟩
          · rw [usedB_no h1y]
            have h0y : y = 0 := by omega
            subst h0y
            have hs : s ≠ [] := by rintro rfl; simp [endB] at he
            rw [endB_cons hs] at he
            obtain ⟨h1, h2, h3, h4⟩ := mid_ok m [] s (by simp; omega) IsB.nil hb.cons.2 (.inr ⟨he, ltB_empty hs⟩)
            exact ⟨by rw [endB_cons (endB_ne h1)]; exact h1, IsB.mk (by omega) h2, rfl, .inr (by simp [ltB, h4.resolve_left hs])⟩
        | cons x r =>
          simp only [List.headD_cons, List.tail_cons, List.length_cons] at *
          simp only [ltB, Bool.or_eq_true, Bool.and_eq_true, decide_eq_true_eq] at hl
          by_cases h1y : y = x + 1
          · rw [usedB_yes h1y]
            obtain ⟨h1, h2, h3, _⟩ := mid_ok m r [] (by simp; omega) ha.cons.2 IsB.nil (.inl rfl)
            exact ⟨by rw [endB_cons (endB_ne h1)]; exact h1, IsB.mk hx h2, by simp [ltB, h3], .inr (by simp [ltB]; omega)⟩
          · rw [usedB_no h1y]
            obtain ⟨hxy, hrs⟩ := hl.resolve_left (by omega)
            have hs : s ≠ [] := by rintro rfl; rw [ltB_nil] at hrs; cases hrs
            rw [endB_cons hs] at he
            obtain ⟨h1, h2, h3, h4⟩ := mid_ok m r s (by omega) ha.cons.2 hb.cons.2 (.inr ⟨he, hrs⟩)
            exact ⟨by rw [endB_cons (endB_ne h1)]; exact h1, IsB.mk hx h2, by simp [ltB, h3], .inr (by simp [ltB, h4.resolve_left hs, hxy])⟩

theorem limB_cases {z : List Int} (h : limB z = true) : z = [] ∨ (endB z = true ∧ z.length ≤ 64) := by
  simpa [limB, keyB] using h
theorem limB_len {z : List Int} (h : limB z = true) : z.length ≤ 64 := by
  rcases limB_cases h with rfl | h
  · simp
  · exact h.2
theorem mayB_parts {a b : List Int} (h : mayB a b = true) : limB a = true ∧ limB b = true ∧ (b = [] ∨ (endB b = true ∧ ltB a b = true)) := by
  simp only [mayB, Bool.and_eq_true, Bool.or_eq_true, decide_eq_true_eq] at h
  obtain ⟨⟨h1, h2⟩, h3⟩ := h
  refine ⟨h1, h2, ?_⟩
  rcases limB_cases h2 with rfl | ⟨h4, _⟩
  · exact .inl rfl
  · refine .inr ⟨h4, ?_⟩
    rcases h3 with (rfl | rfl) | h3
    · exact ltB_empty (endB_ne h4)
    · simp [endB] at h4
    · exact h3
/-- what may be asked for, told by the key -/
theorem mid_may {a b : List Int} (ha : IsB a) (hb : IsB b) (h : mayB a b = true) (hl : (mid a b).length ≤ 64) :
    keyB (mid a b) = true ∧ IsB (mid a b) ∧ ltB a (mid a b) = true ∧ (b = [] ∨ ltB (mid a b) b = true) := by
  obtain ⟨h1, h2, h3, h4⟩ := mid_ok _ a b (Nat.le_refl _) ha hb (mayB_parts h).2.2
  exact ⟨by simp [keyB, h1, hl], h2, h3, h4⟩
theorem mayB_low {a b m : List Int} (h : mayB a b = true) (hm : keyB m = true) (h4 : b = [] ∨ ltB m b = true) : mayB m b = true := by
  obtain ⟨_, h2, _⟩ := mayB_parts h
  rcases h4 with rfl | h4
  · simp [mayB, limB, hm]
  · simp [mayB, h2, h4]; simp [limB, hm]
theorem mayB_high {a b m : List Int} (h : mayB a b = true) (hm : keyB m = true) (h3 : ltB a m = true) : mayB a m = true := by
  obtain ⟨h1, _, _⟩ := mayB_parts h
  simp [mayB, h1, h3]; simp [limB, hm]

/-- k places ahead; a gap of two to the power of j at the next one -/
def gapAt : Nat → Nat → List Int → List Int → Prop
  | 0, j, a, b => a.length ≤ 1 ∧ b.headD 256 = a.headD 0 + 2 ^ j
  | k + 1, j, a, b => ¬ a.headD 0 + 2 ≤ b.headD 256 ∧ gapAt k j a.tail (usedB (a.headD 0) (b.headD 256) b.tail)
theorem gap_len : ∀ (k j : Nat) (a b : List Int), gapAt k (j + 1) a b → (mid a b).length = k + 1
  | 0, j, a, b, h => by
    have hp := Int.pow_pos (n := 2) (m := j) (by decide)
    have e : (2 : Int) ^ (j + 1) = 2 * 2 ^ j := by rw [Int.pow_succ]; omega
    have := h.2
    rw [mid_yes (by omega)]; rfl
  | k + 1, j, a, b, h => by rw [mid_no h.1, List.length_cons, gap_len k j _ _ h.2]
theorem gap_next : ∀ (k j : Nat) (a b : List Int), gapAt k (j + 2) a b → gapAt k (j + 1) (mid a b) b ∧ gapAt k (j + 1) a (mid a b)
  | 0, j, a, b, h => by
    have hp := Int.pow_pos (n := 2) (m := j) (by decide)
    have e : (2 : Int) ^ (j + 2) = 4 * 2 ^ j := by rw [Int.pow_succ, Int.pow_succ]; omega
    have e1 : (2 : Int) ^ (j + 1) = 2 * 2 ^ j := by rw [Int.pow_succ]; omega
    have := h.2
    rw [mid_yes (by omega)]
    refine ⟨⟨by simp, ?_⟩, ⟨h.1, ?_⟩⟩
    · simp only [List.headD_cons]; omega
    · simp only [List.headD_cons]; omega
  | k + 1, j, a, b, h => by
    obtain ⟨h1, h2⟩ := gap_next k j _ _ h.2
    have hn := h.1
    rw [mid_no h.1]
    refine ⟨⟨by simpa using hn, by simpa using h1⟩, ⟨by simp; omega, ?_⟩⟩
    simp only [List.headD_cons, List.tail_cons]
    rw [usedB_no (by omega)]
    exact h2
theorem gap_last : ∀ (k : Nat) (a b : List Int), gapAt k 1 a b → gapAt (k + 1) 8 (mid a b) b ∧ gapAt (k + 1) 8 a (mid a b)
  | 0, a, b, h => by
    have := h.2
    have hl := h.1
    rw [mid_yes (by omega)]
    refine ⟨⟨?_, ?_⟩, ⟨?_, ?_⟩⟩
    · simp only [List.headD_cons]; omega
    · rw [usedB_yes (by simp only [List.headD_cons]; omega)]
      exact ⟨by simp, by simp⟩
    · simp only [List.headD_cons]; omega
    · rw [usedB_yes (by simp only [List.headD_cons]; omega)]
      have e : a.tail = [] := List.eq_nil_of_length_eq_zero (by rw [List.length_tail]; omega)
      rw [e]
      exact ⟨by simp, by simp⟩
  | k + 1, a, b, h => by
    obtain ⟨h1, h2⟩ := gap_last k _ _ h.2
    have hn := h.1
    rw [mid_no h.1]
    refine ⟨⟨by simpa using hn, by simpa using h1⟩, ⟨by simp; omega, ?_⟩⟩
    simp only [List.headD_cons, List.tail_cons]
    rw [usedB_no (by omega)]
    exact h2
/-- placed n times -/
def stepAt (n : Nat) (a b : List Int) : Prop := gapAt (n / 8) (8 - n % 8) a b
theorem step_zero : stepAt 0 [] [] := ⟨by simp, by simp⟩
theorem step_len {n : Nat} {a b : List Int} (h : stepAt n a b) : (mid a b).length = n / 8 + 1 := by
  unfold stepAt at h
  obtain ⟨j, hj⟩ : ∃ j, 8 - n % 8 = j + 1 := ⟨7 - n % 8, by omega⟩
  rw [hj] at h
  exact gap_len _ _ _ _ h
theorem step_next {n : Nat} {a b : List Int} (h : stepAt n a b) : stepAt (n + 1) (mid a b) b ∧ stepAt (n + 1) a (mid a b) := by
  unfold stepAt at h ⊢
  by_cases h7 : n % 8 = 7
  · rw [h7] at h
    rw [show (n + 1) / 8 = n / 8 + 1 by omega, show 8 - (n + 1) % 8 = 8 by omega]
    exact gap_last _ _ _ h
  · obtain ⟨j, hj⟩ : ∃ j, 8 - n % 8 = j + 2 := ⟨6 - n % 8, by omega⟩
    rw [hj] at h
    rw [show (n + 1) / 8 = n / 8 by omega, show 8 - (n + 1) % 8 = j + 1 by omega]
    exact gap_next _ _ _ _ h

theorem strN_of {zs : List Int} (h : IsB zs) : strN (strOfNums zs) = zs := by
  unfold strN
  rw [strOfNums_data, List.map_map]
  conv => rhs; rw [← List.map_id zs]
  refine List.map_congr_left fun z hz => ?_
  have := h z hz
  simp only [Function.comp, id]
  simp
  omega
end Go.Proofs.YtjlbpmmckgjajaaDoor.Ky

/- The small functions of keys. -/
namespace Go.Proofs.YtjlbpmmckgjajaaDoor.Ky
open Go.RowKit Go.Lib

theorem byte_wrap (s : ByteArray) (i : Nat) (h : i < s.size) : wrap64 ((s[i]'h).toNat : Int) = ((s[i]'h).toNat : Int) := by
  have := (s[i]'h).toNat_lt
  exact IntWalk.wrap64_in _ (by omega)
theorem emp_iff (s : ByteArray) : s.toList = [] ↔ strN s = [] := by
  rw [ByteArray.toList_eq]; unfold strN
  constructor
  · intro h; rw [h]; rfl
  · intro h; exact List.map_eq_nil_iff.1 h
theorem em_strN (s : ByteArray) : (s.toList == (ByteArray.mk #[]).toList) = decide (strN s = []) := same_strN s ⟨#[]⟩
theorem at_strN (s : ByteArray) (i : Nat) (h : i < s.size) (d : Int) : ((s[i]'h).toNat : Int) = (strN s).getD i d := by
  unfold strN
  rw [List.getD_eq_getElem?_getD, List.getElem?_map]
  rw [List.getElem?_eq_getElem (by simpa using h)]
  rfl
theorem far_strN (s : ByteArray) (i : Nat) (h : ¬ i < s.size) (d : Int) : (strN s).getD i d = d := by
  rw [List.getD_eq_getElem?_getD, List.getElem?_eq_none (by rw [strN_len]; omega)]; rfl

def errK (s : ByteArray) : Int := if keyB (strN s) = true then 0 else 1
theorem keyB_size (s : ByteArray) : keyB (strN s) = (decide (strN s ≠ []) && decide (s.size ≤ 64) && decide ((strN s).getD (s.size - 1) 0 ≠ 0)) := by
  unfold keyB
  rw [endB_last, strN_len]
  by_cases h : strN s = []
  · simp [h]
  · simp only [h, ne_eq, not_false_iff, decide_true, Bool.true_and]
    rw [Bool.and_comm]


theorem emp_yes {s : ByteArray} (h : strN s = []) : s.toList.isEmpty = true ∧ s.toList = [] := by
  have := (emp_iff s).2 h
  exact ⟨by rw [this]; rfl, this⟩
theorem emp_no {s : ByteArray} (h : ¬ strN s = []) : s.toList.isEmpty = false ∧ ¬ s.toList = [] := by
  have : ¬ s.toList = [] := fun e => h ((emp_iff s).1 e)
  refine ⟨?_, this⟩
  cases hl : s.toList with
  | nil => exact absurd hl this
  | cons => rfl
theorem size_pos {s : ByteArray} (h : ¬ strN s = []) : 0 < s.size := by
  rw [← strN_len]
  exact List.length_pos_iff.2 h

theorem keyB_true {s : ByteArray} (h0 : ¬ strN s = []) (h1 : s.size ≤ 64) (h2 : ¬ (strN s).getD (s.size - 1) 0 = 0) : keyB (strN s) = true := by
  rw [keyB_size, decide_eq_true h0, decide_eq_true h1, decide_eq_true h2]; rfl
set_option maxHeartbeats 400000 in
theorem check_any (s : ByteArray) (w : World) : Calls Tryd.prog 87 #[.string s] w fun e w' => e = .returned (.int .i64 (errK s)) ∧ w = w' := by
  by_cases h0 : strN s = []
  · have HE : Hid (errK s = 1) := by show _ = _; simp [errK, keyB, h0, endB]
    obtain ⟨e1, e2⟩ := emp_yes h0
    clear h0
    go_enter Tryd.func87, Tryd.ntmps87
    go_wp2
    go_ret
    exact ⟨ret_int HE.out.symm, rfl⟩
  · obtain ⟨e1, e2⟩ := emp_no h0
    have hp := size_pos h0
    by_cases h1 : 64 < s.size
    · have HE : Hid (errK s = 1) := by show _ = _; simp [errK, keyB_size]; omega
      have hd : decide ((64 : Int) < (s.size : Int)) = true := decide_eq_true (by omega)
      clear h0
      go_enter Tryd.func87, Tryd.ntmps87
      go_wp2
      go_ret
      exact ⟨ret_int HE.out.symm, rfl⟩
    · have hd : decide ((64 : Int) < (s.size : Int)) = false := decide_eq_false (by omega)
      have hl := at_strN s (s.size - 1) (by omega) 0
      by_cases hz : (strN s).getD (s.size - 1) 0 = 0
      · have HE : Hid (errK s = 1) := by show _ = _; simp [errK, keyB_size]; intros; exact hz
        have hk : (((s[s.size - 1]'(by omega)).toNat : Int) == 0) = true := by rw [hl, hz]; rfl
        clear h0 hl hz
        go_enter Tryd.func87, Tryd.ntmps87
        go_wp2
        go_ret
        exact ⟨ret_int HE.out.symm, rfl⟩
      · have HE : Hid (errK s = 0) := by show _ = _; rw [errK, if_pos (keyB_true h0 (by omega) hz)]
        have hk : (((s[s.size - 1]'(by omega)).toNat : Int) == 0) = false := by rw [hl]; simpa using hz
        clear h0 hl hz
        go_enter Tryd.func87, Tryd.ntmps87
        go_wp2
        go_ret
        exact ⟨ret_int HE.out.symm, rfl⟩

set_option maxHeartbeats 400000 in
theorem refKey_any (s : ByteArray) (w : World) : Calls Tryd.prog 63 #[.string s] w fun e w' => e = .returned (.bool (keyB (strN s))) ∧ w = w' := by
  by_cases h0 : strN s = []
  · have HE : Hid (keyB (strN s) = false) := by show _ = _; simp [keyB, h0, endB]
    have hs : s.size = 0 := by rw [← strN_len, h0]; rfl
    have hd : decide ((1 : Int) ≤ (s.size : Int)) = false := decide_eq_false (by omega)
    clear h0
    go_enter Tryd.func63, Tryd.ntmps63
    go_wp2
    go_ret
    exact ⟨ret_bool HE.out.symm, rfl⟩
  · have hp := size_pos h0
    have hd0 : decide ((1 : Int) ≤ (s.size : Int)) = true := decide_eq_true (by omega)
    by_cases h1 : 64 < s.size
    · have HE : Hid (keyB (strN s) = false) := by show _ = _; simp [keyB_size]; omega
      have hd : decide ((s.size : Int) ≤ (64 : Int)) = false := decide_eq_false (by omega)
      clear h0
      go_enter Tryd.func63, Tryd.ntmps63
      go_wp2
      go_ret
      exact ⟨ret_bool HE.out.symm, rfl⟩
    · have hd : decide ((s.size : Int) ≤ (64 : Int)) = true := decide_eq_true (by omega)
      have hl := at_strN s (s.size - 1) (by omega) 0
      by_cases hz : (strN s).getD (s.size - 1) 0 = 0
      · have HE : Hid (keyB (strN s) = false) := by show _ = _; simp [keyB_size]; intros; exact hz
        have hk : (((s[s.size - 1]'(by omega)).toNat : Int) != 0) = false := by rw [hl, hz]; rfl
        clear h0 hl hz
        go_enter Tryd.func63, Tryd.ntmps63
        go_wp2
        go_ret
        exact ⟨ret_bool HE.out.symm, rfl⟩
      · have HE : Hid (keyB (strN s) = true) := by exact keyB_true h0 (by omega) hz
        have hk : (((s[s.size - 1]'(by omega)).toNat : Int) != 0) = true := by rw [hl]; simpa using hz
        clear h0 hl hz
        go_enter Tryd.func63, Tryd.ntmps63
        go_wp2
        go_ret
        exact ⟨ret_bool HE.out.symm, rfl⟩

def modN (z : Int) (n : Nat) : Nat := (z % 18446744073709551616).toNat % n
theorem modN_lt (z : Int) {n : Nat} (h : 0 < n) : modN z n < n := Nat.mod_lt _ h
set_option maxHeartbeats 400000 in
theorem withinN_any (z : Int) (n : Nat) (w : World) (h0 : 0 < n) (h1 : n ≤ 1000) : Calls Tryd.prog 21 #[.int .i64 z, .int .i64 (n : Int)] w fun e w' => e = .returned (.int .i64 (modN z n : Nat)) ∧ w = w' := by
  go_enter Tryd.func21, Tryd.ntmps21
  go_wp2
  go_ret
  refine ⟨ret_int ?_, rfl⟩
  unfold modN
  rw [IntKind.wrap_u64, Int.tmod_eq_emod_of_nonneg (by omega), Int.natCast_emod, Int.toNat_of_nonneg (by omega)]
  have h2 : 0 ≤ z % 18446744073709551616 % (n : Int) := Int.emod_nonneg _ (by omega)
  have h3 : z % 18446744073709551616 % (n : Int) < (n : Int) := Int.emod_lt_of_pos _ (by omega)
  generalize z % 18446744073709551616 % (n : Int) = y at *
  exact IntWalk.wrap64_in y (by omega)
end Go.Proofs.YtjlbpmmckgjajaaDoor.Ky

/- Properties: the table in memory; the small functions, of the program and of the page. -/
namespace Go.Proofs.YtjlbpmmckgjajaaDoor.Pr
open Go.RowKit Go.Lib
set_option linter.unusedVariables false

def lowL : List Int := [0, 0, 0, -1, -1, 0, -1, 0, -1, 0, 0, -1, 0, 0, 0, 0, 0, 0, 64]
def highL : List Int := [2, 1, 1, 1099511627776, 1099511627776, 1099511627776, 1099511627776, 1099511627776, 1099511627776, 1048576, 1048576, 1099511627776, 1073741824, 1073741824, 1073741824, 4, 3, 16777215, 64000]
def usL : List Int := [0, 0, 0, -1, -1, 0, -1, 0, -1, 0, 1, -1, 0, 0, 0, 0, 0, 0, 1024]
def inL : List Bool := [false, false, false, false, false, false, false, false, false, false, false, false, false, false, false, false, false, true, true]
def lowT (p : Nat) : Int := lowL.getD p 0
def highT (p : Nat) : Int := highL.getD p 0
def usT (p : Nat) : Int := usL.getD p 0
def inT (p : Nat) : Bool := inL.getD p false

/-- the table, in a world -/
structure Tab (w : World) : Prop where
  lo : ∀ p, p < 19 → w.cell? ⟨0, p * 4, none⟩ = some (.int .i64 (lowT p))
  hi : ∀ p, p < 19 → w.cell? ⟨0, p * 4 + 1, none⟩ = some (.int .i64 (highT p))
  us : ∀ p, p < 19 → w.cell? ⟨0, p * 4 + 2, none⟩ = some (.int .i64 (usT p))
  inh : ∀ p, p < 19 → w.cell? ⟨0, p * 4 + 3, none⟩ = some (.bool (inT p))
theorem Tab.lt {w : World} (h : Tab w) : 0 < w.heap.size := World.block_lt_of_cell? _ _ (h.lo 0 (by omega))
theorem Tab.below {w w' : World} {B : Nat} (h : Tab w) (hb : Below B w w') (hB : 0 < B) : Tab w' :=
  ⟨fun p hp => (hb.cell (p := ⟨0, p * 4, none⟩) hB).trans (h.lo p hp), fun p hp => (hb.cell (p := ⟨0, p * 4 + 1, none⟩) hB).trans (h.hi p hp),
   fun p hp => (hb.cell (p := ⟨0, p * 4 + 2, none⟩) hB).trans (h.us p hp), fun p hp => (hb.cell (p := ⟨0, p * 4 + 3, none⟩) hB).trans (h.inh p hp)⟩
theorem Tab.alloc {w : World} (h : Tab w) (o : Obj) : Tab (w.alloc o) := h.below ((Below.refl w.heap.size w).alloc (Nat.le_refl _) o) h.lt
theorem Tab.drewN {w : World} (h : Tab w) (n : Nat) : Tab (w.drewN n) := ⟨h.lo, h.hi, h.us, h.inh⟩
theorem Tab.drew {w : World} (h : Tab w) : Tab w.drew := ⟨h.lo, h.hi, h.us, h.inh⟩

/-- a property? -/
def propB (z : Int) : Bool := decide (0 ≤ z ∧ z < 19)
/-- the error of a property and a value -/
def errP (z v : Int) : Int := if propB z then (if lowT z.toNat ≤ v ∧ v ≤ highT z.toNat then 0 else 9) else 3
def errN (z : Int) : Int := if propB z then 0 else 3
def usZ (z : Int) : Int := if propB z then usT z.toNat else 0
def inZ (z : Int) : Bool := if propB z then inT z.toNat else false
theorem propB_yes {z : Int} (h : propB z = true) : ∃ p : Nat, z = p ∧ p < 19 := by
  simp only [propB, decide_eq_true_eq] at h
  exact ⟨z.toNat, by omega, by omega⟩
theorem propB_nat {p : Nat} (h : p < 19) : propB p = true := by simp [propB]; omega
theorem propB_no {z : Int} (h : propB z = false) : z < 0 ∨ 19 ≤ z := by
  simp only [propB, decide_eq_false_iff_not] at h
  omega

set_option maxHeartbeats 400000 in
theorem isProp_any (z : Int) (w : World) : Calls Tryd.prog 100 #[.int .i64 z] w fun e w' => e = .returned (.bool (propB z)) ∧ w = w' := by
  by_cases g1 : 0 ≤ z
  · have hd : decide (0 ≤ z) = true := decide_eq_true g1
    by_cases g2 : z < 19
    · have HC : Hid (propB z = true) := by show _ = true; simp [propB]; omega
      have hd2 : decide (z < 19) = true := decide_eq_true g2
      go_enter Tryd.func100, Tryd.ntmps100
      go_wp2
      go_ret
      exact ⟨ret_bool HC.out.symm, rfl⟩
    · have HC : Hid (propB z = false) := by show _ = false; simp [propB]; omega
      have hd2 : decide (z < 19) = false := decide_eq_false g2
      go_enter Tryd.func100, Tryd.ntmps100
      go_wp2
      go_ret
      exact ⟨ret_bool HC.out.symm, rfl⟩
  · have HC : Hid (propB z = false) := by show _ = false; simp [propB]; omega
    have hd : decide (0 ≤ z) = false := decide_eq_false g1
    go_enter Tryd.func100, Tryd.ntmps100
    go_wp2
    go_ret
    exact ⟨ret_bool HC.out.symm, rfl⟩

set_option maxHeartbeats 400000 in
theorem refNum_any (z : Int) (w : World) : Calls Tryd.prog 77 #[.int .i64 z, .int .i64 18] w fun e w' => e = .returned (.bool (propB z)) ∧ w = w' := by
  by_cases g1 : 0 ≤ z
  · have hd : decide (0 ≤ z) = true := decide_eq_true g1
    by_cases g2 : z ≤ 18
    · have HC : Hid (propB z = true) := by show _ = true; simp [propB]; omega
      have hd2 : decide (z ≤ 18) = true := decide_eq_true g2
      go_enter Tryd.func77, Tryd.ntmps77
      go_wp2
      go_ret
      exact ⟨ret_bool HC.out.symm, rfl⟩
    · have HC : Hid (propB z = false) := by show _ = false; simp [propB]; omega
      have hd2 : decide (z ≤ 18) = false := decide_eq_false g2
      go_enter Tryd.func77, Tryd.ntmps77
      go_wp2
      go_ret
      exact ⟨ret_bool HC.out.symm, rfl⟩
  · have HC : Hid (propB z = false) := by show _ = false; simp [propB]; omega
    have hd : decide (0 ≤ z) = false := decide_eq_false g1
    go_enter Tryd.func77, Tryd.ntmps77
    go_wp2
    go_ret
    exact ⟨ret_bool HC.out.symm, rfl⟩

theorem errP_no {z : Int} (v : Int) (h : propB z = false) : errP z v = 3 := by simp [errP, h]
theorem errP_ok {p : Nat} {v : Int} (hp : p < 19) (h1 : lowT p ≤ v) (h2 : v ≤ highT p) : errP p v = 0 := by simp [errP, propB_nat hp, h1, h2]
theorem errP_lo {p : Nat} {v : Int} (hp : p < 19) (h1 : ¬ lowT p ≤ v) : errP p v = 9 := by simp [errP, propB_nat hp, h1]
theorem errP_hi {p : Nat} {v : Int} (hp : p < 19) (h1 : ¬ v ≤ highT p) : errP p v = 9 := by simp [errP, propB_nat hp, h1]

set_option maxHeartbeats 1000000 in
theorem check_any (z v : Int) (w : World) (ht : Tab w) : Calls Tryd.prog 88 #[.int .i64 z, .int .i64 v] w fun e w' => e = .returned (.int .i64 (errP z v)) ∧ w = w' := by
  have HI := Lib.hid (isProp_any z w)
  cases hb : propB z
  · rw [hb] at HI
    have HC := Lib.hid (errP_no v hb)
    clear hb
    go_enter Tryd.func88, Tryd.ntmps88
    go_wp2_with fail
    refine (HI.out).mono ?_
    rintro e w1 ⟨rfl, rfl⟩
    go_wp2
    go_ret
    exact ⟨ret_int HC.out.symm, rfl⟩
  · rw [hb] at HI
    obtain ⟨p, rfl, hp⟩ := propB_yes hb
    clear hb
    have c0 := ht.lo p hp
    have c1 := ht.hi p hp
    have h19 : (p : Int) < 19 := by omega
    by_cases g1 : lowT p ≤ v
    · have hd1 : decide (v < lowT p) = false := decide_eq_false (by omega)
      by_cases g2 : v ≤ highT p
      · have HC := Lib.hid (errP_ok hp g1 g2)
        have hd2 : decide (highT p < v) = false := decide_eq_false (by omega)
        clear g1 g2
        generalize lowT p = lo at *
        generalize highT p = hi at *
        go_enter Tryd.func88, Tryd.ntmps88
        go_wp2_with fail
        refine (HI.out).mono ?_
        rintro e w1 ⟨rfl, rfl⟩
        go_wp2
        go_ret
        exact ⟨ret_int HC.out.symm, rfl⟩
      · have HC := Lib.hid (errP_hi hp g2)
        have hd2 : decide (highT p < v) = true := decide_eq_true (by omega)
        clear g1 g2
        generalize lowT p = lo at *
        generalize highT p = hi at *
        go_enter Tryd.func88, Tryd.ntmps88
        go_wp2_with fail
        refine (HI.out).mono ?_
        rintro e w1 ⟨rfl, rfl⟩
        go_wp2
        go_ret
        exact ⟨ret_int HC.out.symm, rfl⟩
    · have hd1 : decide (v < lowT p) = true := decide_eq_true (by omega)
      have HC := Lib.hid (errP_lo hp g1)
      clear g1
      generalize lowT p = lo at *
      generalize highT p = hi at *
      go_enter Tryd.func88, Tryd.ntmps88
      go_wp2_with fail
      refine (HI.out).mono ?_
      rintro e w1 ⟨rfl, rfl⟩
      go_wp2
      go_ret
      exact ⟨ret_int HC.out.symm, rfl⟩

theorem ret2_int {a b c d : Int} (h : a = b) (h' : c = d) : Ending.returned (.tuple #[.int .i64 a, .int .i64 c]) = .returned (.tuple #[.int .i64 b, .int .i64 d]) := by rw [h, h']
theorem ret2_bool {a b : Bool} {c d : Int} (h : a = b) (h' : c = d) : Ending.returned (.tuple #[.bool a, .int .i64 c]) = .returned (.tuple #[.bool b, .int .i64 d]) := by rw [h, h']
theorem usZ_no {z : Int} (h : propB z = false) : usZ z = 0 := by simp [usZ, h]
theorem inZ_no {z : Int} (h : propB z = false) : inZ z = false := by simp [inZ, h]
theorem errN_no {z : Int} (h : propB z = false) : errN z = 3 := by simp [errN, h]
theorem errN_yes {z : Int} (h : propB z = true) : errN z = 0 := by simp [errN, h]
theorem usZ_nat {p : Nat} (h : p < 19) : usZ p = usT p := by simp [usZ, propB_nat h]
theorem inZ_nat {p : Nat} (h : p < 19) : inZ p = inT p := by simp [inZ, propB_nat h]

theorem errP_grow : errP 9 (-1) = 9 := errP_lo (p := 9) (by omega) (by decide)
end Go.Proofs.YtjlbpmmckgjajaaDoor.Pr

/- The page's own: value, Check, Default, Goes. -/
namespace Go.Proofs.YtjlbpmmckgjajaaDoor.Pr
open Go.RowKit Go.Lib
set_option linter.unusedVariables false

theorem results_tmp4 {fn : Func} {t u v x : Tmp} (h : fn.results = #[.tmp t, .tmp u, .tmp v, .tmp x]) (tmps : Array Value) (P : Program) (w : World) :
    (results fn tmps).run P w = .ok (.tuple #[tmps.getD t undef, tmps.getD u undef, tmps.getD v undef, tmps.getD x undef]) w := by
  simp [results, h]
def ValPost (z : Int) (w : World) (e : Ending) (w' : World) : Prop := e = .returned (.tuple #[.int .i64 (if propB z then lowT z.toNat else 0), .int .i64 (if propB z then highT z.toNat else 0), .int .i64 (usZ z), .bool (propB z)]) ∧ w = w'

set_option maxHeartbeats 1000000 in
theorem value_0 (w : World) : Calls Tryd.prog 81 #[.int .i64 0] w (ValPost 0 w) := by
  go_enter Tryd.func81, Tryd.ntmps81
  go_wp2
  (try simp only [Exit.inBlock, Exit.then])
  refine bodyPost_ret (results_tmp4 rfl _ _ _) rfl ?_
  exact ⟨rfl, rfl⟩

set_option maxHeartbeats 1000000 in
theorem value_1 (w : World) : Calls Tryd.prog 81 #[.int .i64 1] w (ValPost 1 w) := by
  go_enter Tryd.func81, Tryd.ntmps81
  go_wp2
  (try simp only [Exit.inBlock, Exit.then])
  refine bodyPost_ret (results_tmp4 rfl _ _ _) rfl ?_
  exact ⟨rfl, rfl⟩

set_option maxHeartbeats 1000000 in
theorem value_2 (w : World) : Calls Tryd.prog 81 #[.int .i64 2] w (ValPost 2 w) := by
  go_enter Tryd.func81, Tryd.ntmps81
  go_wp2
  (try simp only [Exit.inBlock, Exit.then])
  refine bodyPost_ret (results_tmp4 rfl _ _ _) rfl ?_
  exact ⟨rfl, rfl⟩

set_option maxHeartbeats 1000000 in
theorem value_3 (w : World) : Calls Tryd.prog 81 #[.int .i64 3] w (ValPost 3 w) := by
  go_enter Tryd.func81, Tryd.ntmps81
  go_wp2
  (try simp only [Exit.inBlock, Exit.then])
  refine bodyPost_ret (results_tmp4 rfl _ _ _) rfl ?_
  exact ⟨rfl, rfl⟩

set_option maxHeartbeats 1000000 in
theorem value_4 (w : World) : Calls Tryd.prog 81 #[.int .i64 4] w (ValPost 4 w) := by
  go_enter Tryd.func81, Tryd.ntmps81
  go_wp2
  (try simp only [Exit.inBlock, Exit.then])
  refine bodyPost_ret (results_tmp4 rfl _ _ _) rfl ?_
  exact ⟨rfl, rfl⟩

set_option maxHeartbeats 1000000 in
theorem value_5 (w : World) : Calls Tryd.prog 81 #[.int .i64 5] w (ValPost 5 w) := by
  go_enter Tryd.func81, Tryd.ntmps81
  go_wp2
  (try simp only [Exit.inBlock, Exit.then])
  refine bodyPost_ret (results_tmp4 rfl _ _ _) rfl ?_
  exact ⟨rfl, rfl⟩

set_option maxHeartbeats 1000000 in
theorem value_6 (w : World) : Calls Tryd.prog 81 #[.int .i64 6] w (ValPost 6 w) := by
  go_enter Tryd.func81, Tryd.ntmps81
  go_wp2
  (try simp only [Exit.inBlock, Exit.then])
  refine bodyPost_ret (results_tmp4 rfl _ _ _) rfl ?_
  exact ⟨rfl, rfl⟩

set_option maxHeartbeats 1000000 in
theorem value_7 (w : World) : Calls Tryd.prog 81 #[.int .i64 7] w (ValPost 7 w) := by
  go_enter Tryd.func81, Tryd.ntmps81
  go_wp2
  (try simp only [Exit.inBlock, Exit.then])
  refine bodyPost_ret (results_tmp4 rfl _ _ _) rfl ?_
  exact ⟨rfl, rfl⟩

set_option maxHeartbeats 1000000 in
theorem value_8 (w : World) : Calls Tryd.prog 81 #[.int .i64 8] w (ValPost 8 w) := by
  go_enter Tryd.func81, Tryd.ntmps81
  go_wp2
  (try simp only [Exit.inBlock, Exit.then])
  refine bodyPost_ret (results_tmp4 rfl _ _ _) rfl ?_
  exact ⟨rfl, rfl⟩

set_option maxHeartbeats 1000000 in
theorem value_9 (w : World) : Calls Tryd.prog 81 #[.int .i64 9] w (ValPost 9 w) := by
  go_enter Tryd.func81, Tryd.ntmps81
  go_wp2
  (try simp only [Exit.inBlock, Exit.then])
  refine bodyPost_ret (results_tmp4 rfl _ _ _) rfl ?_
  exact ⟨rfl, rfl⟩

set_option maxHeartbeats 1000000 in
theorem value_10 (w : World) : Calls Tryd.prog 81 #[.int .i64 10] w (ValPost 10 w) := by
  go_enter Tryd.func81, Tryd.ntmps81
  go_wp2
  (try simp only [Exit.inBlock, Exit.then])
  refine bodyPost_ret (results_tmp4 rfl _ _ _) rfl ?_
  exact ⟨rfl, rfl⟩

set_option maxHeartbeats 1000000 in
theorem value_11 (w : World) : Calls Tryd.prog 81 #[.int .i64 11] w (ValPost 11 w) := by
  go_enter Tryd.func81, Tryd.ntmps81
  go_wp2
  (try simp only [Exit.inBlock, Exit.then])
  refine bodyPost_ret (results_tmp4 rfl _ _ _) rfl ?_
  exact ⟨rfl, rfl⟩

set_option maxHeartbeats 1000000 in
theorem value_12 (w : World) : Calls Tryd.prog 81 #[.int .i64 12] w (ValPost 12 w) := by
  go_enter Tryd.func81, Tryd.ntmps81
  go_wp2
  (try simp only [Exit.inBlock, Exit.then])
  refine bodyPost_ret (results_tmp4 rfl _ _ _) rfl ?_
  exact ⟨rfl, rfl⟩

set_option maxHeartbeats 1000000 in
theorem value_13 (w : World) : Calls Tryd.prog 81 #[.int .i64 13] w (ValPost 13 w) := by
  go_enter Tryd.func81, Tryd.ntmps81
  go_wp2
  (try simp only [Exit.inBlock, Exit.then])
  refine bodyPost_ret (results_tmp4 rfl _ _ _) rfl ?_
  exact ⟨rfl, rfl⟩

set_option maxHeartbeats 1000000 in
theorem value_14 (w : World) : Calls Tryd.prog 81 #[.int .i64 14] w (ValPost 14 w) := by
  go_enter Tryd.func81, Tryd.ntmps81
  go_wp2
  (try simp only [Exit.inBlock, Exit.then])
  refine bodyPost_ret (results_tmp4 rfl _ _ _) rfl ?_
  exact ⟨rfl, rfl⟩

set_option maxHeartbeats 1000000 in
theorem value_15 (w : World) : Calls Tryd.prog 81 #[.int .i64 15] w (ValPost 15 w) := by
  go_enter Tryd.func81, Tryd.ntmps81
  go_wp2
  (try simp only [Exit.inBlock, Exit.then])
  refine bodyPost_ret (results_tmp4 rfl _ _ _) rfl ?_
  exact ⟨rfl, rfl⟩

set_option maxHeartbeats 1000000 in
theorem value_16 (w : World) : Calls Tryd.prog 81 #[.int .i64 16] w (ValPost 16 w) := by
  go_enter Tryd.func81, Tryd.ntmps81
  go_wp2
  (try simp only [Exit.inBlock, Exit.then])
  refine bodyPost_ret (results_tmp4 rfl _ _ _) rfl ?_
  exact ⟨rfl, rfl⟩

set_option maxHeartbeats 1000000 in
theorem value_17 (w : World) : Calls Tryd.prog 81 #[.int .i64 17] w (ValPost 17 w) := by
  go_enter Tryd.func81, Tryd.ntmps81
  go_wp2
  (try simp only [Exit.inBlock, Exit.then])
  refine bodyPost_ret (results_tmp4 rfl _ _ _) rfl ?_
  exact ⟨rfl, rfl⟩

set_option maxHeartbeats 1000000 in
theorem value_18 (w : World) : Calls Tryd.prog 81 #[.int .i64 18] w (ValPost 18 w) := by
  go_enter Tryd.func81, Tryd.ntmps81
  go_wp2
  (try simp only [Exit.inBlock, Exit.then])
  refine bodyPost_ret (results_tmp4 rfl _ _ _) rfl ?_
  exact ⟨rfl, rfl⟩

set_option maxHeartbeats 1000000 in
theorem value_no (z : Int) (w : World) (h : propB z = false) : Calls Tryd.prog 81 #[.int .i64 z] w (ValPost z w) := by
  have HE : Hid (.returned (.tuple #[.int .i64 0, .int .i64 0, .int .i64 0, .bool false]) = Ending.returned (.tuple #[.int .i64 (if propB z then lowT z.toNat else 0), .int .i64 (if propB z then highT z.toNat else 0), .int .i64 (usZ z), .bool (propB z)])) := by
    show _ = _
    rw [usZ_no h, h]; rfl
  have hz := propB_no h
  clear h
  have n0 : ¬ z = 0 := by omega
  have n1 : ¬ z = 1 := by omega
  have n2 : ¬ z = 2 := by omega
  have n3 : ¬ z = 3 := by omega
  have n4 : ¬ z = 4 := by omega
  have n5 : ¬ z = 5 := by omega
  have n6 : ¬ z = 6 := by omega
  have n7 : ¬ z = 7 := by omega
  have n8 : ¬ z = 8 := by omega
  have n9 : ¬ z = 9 := by omega
  have n10 : ¬ z = 10 := by omega
  have n11 : ¬ z = 11 := by omega
  have n12 : ¬ z = 12 := by omega
  have n13 : ¬ z = 13 := by omega
  have n14 : ¬ z = 14 := by omega
  have n15 : ¬ z = 15 := by omega
  have n16 : ¬ z = 16 := by omega
  have n17 : ¬ z = 17 := by omega
  have n18 : ¬ z = 18 := by omega
  clear hz
  go_enter Tryd.func81, Tryd.ntmps81
  go_wp2
  (try simp only [Exit.inBlock, Exit.then])
  refine bodyPost_ret (results_tmp4 rfl _ _ _) rfl ?_
  exact ⟨HE.out, rfl⟩

theorem value_any (z : Int) (w : World) : Calls Tryd.prog 81 #[.int .i64 z] w (ValPost z w) := by
  cases h : propB z
  · exact value_no z w h
  · obtain ⟨p, rfl, hp⟩ := propB_yes h
    match p, hp with
    | 0, _ => exact value_0 w
    | 1, _ => exact value_1 w
    | 2, _ => exact value_2 w
    | 3, _ => exact value_3 w
    | 4, _ => exact value_4 w
    | 5, _ => exact value_5 w
    | 6, _ => exact value_6 w
    | 7, _ => exact value_7 w
    | 8, _ => exact value_8 w
    | 9, _ => exact value_9 w
    | 10, _ => exact value_10 w
    | 11, _ => exact value_11 w
    | 12, _ => exact value_12 w
    | 13, _ => exact value_13 w
    | 14, _ => exact value_14 w
    | 15, _ => exact value_15 w
    | 16, _ => exact value_16 w
    | 17, _ => exact value_17 w
    | 18, _ => exact value_18 w

set_option maxHeartbeats 1000000 in
theorem refCheck_any (z v : Int) (w : World) : Calls Tryd.prog 64 #[.int .i64 z, .int .i64 v] w fun e w' => e = .returned (.int .i64 (errP z v)) ∧ w = w' := by
  have HI := Lib.hid (value_any z w)
  unfold ValPost at HI
  generalize usZ z = us at *
  cases hb : propB z
  · rw [hb] at HI
    simp only [Bool.false_eq_true, if_false] at HI
    have HC := Lib.hid (errP_no v hb)
    clear hb
    go_enter Tryd.func64, Tryd.ntmps64
    go_wp2_with fail
    refine (HI.out).mono ?_
    rintro e w1 ⟨rfl, rfl⟩
    go_wp2
    go_ret
    exact ⟨ret_int HC.out.symm, rfl⟩
  · rw [hb] at HI
    obtain ⟨p, rfl, hp⟩ := propB_yes hb
    clear hb
    simp only [if_true, Int.toNat_natCast] at HI
    by_cases g1 : lowT p ≤ v
    · have hd1 : decide (v < lowT p) = false := decide_eq_false (by omega)
      by_cases g2 : v ≤ highT p
      · have HC := Lib.hid (errP_ok hp g1 g2)
        have hd2 : decide (highT p < v) = false := decide_eq_false (by omega)
        clear g1 g2
        generalize lowT p = lo at *
        generalize highT p = hi at *
        go_enter Tryd.func64, Tryd.ntmps64
        go_wp2_with fail
        refine (HI.out).mono ?_
        rintro e w1 ⟨rfl, rfl⟩
        go_wp2
        go_ret
        exact ⟨ret_int HC.out.symm, rfl⟩
      · have HC := Lib.hid (errP_hi hp g2)
        have hd2 : decide (highT p < v) = true := decide_eq_true (by omega)
        clear g1 g2
        generalize lowT p = lo at *
        generalize highT p = hi at *
        go_enter Tryd.func64, Tryd.ntmps64
        go_wp2_with fail
        refine (HI.out).mono ?_
        rintro e w1 ⟨rfl, rfl⟩
        go_wp2
        go_ret
        exact ⟨ret_int HC.out.symm, rfl⟩
    · have hd1 : decide (v < lowT p) = true := decide_eq_true (by omega)
      have HC := Lib.hid (errP_lo hp g1)
      clear g1
      generalize lowT p = lo at *
      generalize highT p = hi at *
      go_enter Tryd.func64, Tryd.ntmps64
      go_wp2_with fail
      refine (HI.out).mono ?_
      rintro e w1 ⟨rfl, rfl⟩
      go_wp2
      go_ret
      exact ⟨ret_int HC.out.symm, rfl⟩

theorem inT_iff : ∀ p : Nat, p < 19 → inT p = decide (p = 17 ∨ p = 18) := by decide
theorem inZ_is (z : Int) : inZ z = decide (z = 17 ∨ z = 18) := by
  cases h : propB z
  · rw [inZ_no h]
    have := propB_no h
    symm
    rw [decide_eq_false_iff_not]
    omega
  · obtain ⟨p, rfl, hp⟩ := propB_yes h
    rw [inZ_nat hp, inT_iff p hp]
    simp only [decide_eq_decide]
    omega
end Go.Proofs.YtjlbpmmckgjajaaDoor.Pr

/- An ask at a place; a list of asks opened; what the listed variable gives. -/
namespace Go.Proofs.YtjlbpmmckgjajaaDoor.Pr
open Go.ChangeShapes Go.WideShapes Go.ChangeAt Go.RowKit Go.Deep Go.Lib
set_option linter.unusedVariables false

structure AskAt (w : World) (b o : Nat) (t v : Int) (ax : Option Addr) (nx cx : Nat) : Prop where
  c0 : w.cell? ⟨b, o, none⟩ = some (.int .i64 t)
  c1 : w.cell? ⟨b, o + 1, none⟩ = some (.int .i64 v)
  c2 : w.cell? ⟨b, o + 2, none⟩ = some (.slice ax nx cx)
theorem AskAt.lt {w : World} {b o : Nat} {t v : Int} {ax : Option Addr} {nx cx : Nat} (h : AskAt w b o t v ax nx cx) : b < w.heap.size := World.block_lt_of_cell? _ _ h.c0
theorem AskAt.below {w w' : World} {b o B : Nat} {t v : Int} {ax : Option Addr} {nx cx : Nat} (h : AskAt w b o t v ax nx cx) (hb : Below B w w') (hB : b < B) : AskAt w' b o t v ax nx cx :=
  ⟨(hb.cell (p := ⟨b, o, none⟩) hB).trans h.c0, (hb.cell (p := ⟨b, o + 1, none⟩) hB).trans h.c1, (hb.cell (p := ⟨b, o + 2, none⟩) hB).trans h.c2⟩
def AsksIs (w : World) (a : Option Addr) (len : Nat) : Prop :=
  ∀ i, i < len → ∃ b off t v ax xs cx, a = some ⟨b, off, none⟩ ∧ AskAt w b (off + i * 3) t v ax (List.length xs) cx ∧ RowK .i64 w ax xs

theorem rowK_open {H : Type} {enc : TypeId × Value → H} {w : World} {fuel : Nat} {v : Value} {x : DataW H × List MemPlace} {t e : TypeId} {kd : IntKind} (ht : Tryd.prog.underlying t = some (.slice e)) (he : Tryd.prog.underlying e = some (.int kd)) (hce : Tryd.prog.cellsOf e = 1) (h : DataW.trod enc Tryd.prog w 0 (fun _ => true) true fuel t [v] = some x) :
    ∃ ai ws ci, v = .slice ai ws.length ci ∧ RowK kd w ai ws := by
  rcases open_ints ht he hce h with ⟨hcs, _⟩ | ⟨a, len, cap, zs, hcs, _, hl, hm, hz, _, hcell, hwz⟩
  · simp only [List.cons.injEq, and_true] at hcs
    exact ⟨none, [], 0, hcs, fun i hi => by simp at hi⟩
  · simp only [List.cons.injEq, and_true] at hcs
    simp only [if_true] at hz
    have hlen : (zs.take len).length = len := by rw [List.length_take]; omega
    refine ⟨some a, zs.take len, cap, by rw [hlen]; exact hcs, ?_⟩
    intro i hi
    rw [hlen] at hi
    obtain ⟨b, off, spot⟩ := a
    have hc0 := hcell 0 (by omega)
    have hspot : spot = none := by simpa [Addr.add] using World.cell?_spot hc0
    subst hspot
    have hc := hcell i (by omega)
    refine ⟨b, off, rfl, ?_⟩
    have e : (zs.take len).getD i 0 = zs.getD i 0 := by simp [List.getD, hi]
    rw [e, ← addr_add]
    exact hc

theorem gRules : Tryd.prog.globalNamed "arras/prop.rules" = some 0 := by kernel_rfl
theorem tRules : (Tryd.prog.globals[0]?).map (·.type) = some 132 := by kernel_rfl
def rulesD {H : Type} : List (DataW H) := (List.range 19).map fun p => .agg [.lit (.int .i64 (lowT p)), .lit (.int .i64 (highT p)), .lit (.int .i64 (usT p)), .lit (.bool (inT p))]
theorem rules_is {H : Type} : (Rows.laid_arras_prop_rules : DataW H) = .agg rulesD := rfl
theorem rulesD_at {H : Type} (i : Nat) (hi : i < 19) : (rulesD : List (DataW H))[i]? = some (.agg [.lit (.int .i64 (lowT i)), .lit (.int .i64 (highT i)), .lit (.int .i64 (usT i)), .lit (.bool (inT i))]) := by
  unfold rulesD
  rw [List.getElem?_map, List.getElem?_range hi]
  rfl
theorem of_laid {W : World} (h : laidMetH Tryd.prog [("arras/prop.rules", Rows.laid_arras_prop_rules)] W) : Tab W := by
  rw [MakeChecks.laidMetH_plain _ _ _ (by kernel_rfl)] at h
  obtain ⟨ps, ⟨g0, t0, cs0, f0, p0, q0, hg0, ht0, hv0, hd0, _, _⟩, _, _⟩ := h
  obtain rfl := Option.some.inj (gRules.symm.trans hg0)
  obtain rfl := Option.some.inj (tRules.symm.trans ht0)
  rw [rules_is] at hd0
  have hcell := World.var?_cell hg0 hv0
  obtain ⟨l⟩ := cs0
  obtain ⟨xs, m1, rfl, hx, hlen, hn, hel⟩ := DataW.trod_array Tryd.underlying132 hd0
  simp only [Prod.mk.injEq, DataW.agg.injEq] at hx
  have c48 : Tryd.prog.cellsOf 131 = 4 := by kernel_rfl
  have c49 : Tryd.prog.cellsOf 132 = 76 := by kernel_rfl
  rw [c49] at hlen
  have key : ∀ p, p < 19 → W.cell? ⟨0, p * 4, none⟩ = some (.int .i64 (lowT p)) ∧ W.cell? ⟨0, p * 4 + 1, none⟩ = some (.int .i64 (highT p)) ∧ W.cell? ⟨0, p * 4 + 2, none⟩ = some (.int .i64 (usT p)) ∧ W.cell? ⟨0, p * 4 + 3, none⟩ = some (.bool (inT p)) := by
    intro p hp
    have he := hel p hp
    rw [c48] at he
    have hD := rulesD_at (H := Unit) p hp
    rw [hx.1, List.getElem?_map, List.getElem?_eq_getElem (by omega)] at hD
    rw [List.getElem?_eq_getElem (by omega)] at he
    simp only [Option.map_some, Option.some.injEq] at hD
    generalize xs[p] = y at hD he
    obtain ⟨ys, n', _, hy, hl4, hyl, hf'⟩ := DataW.trod_struct Tryd.underlying131 he
    rw [c48] at hl4
    rw [hy] at hD
    simp only [DataW.agg.injEq] at hD
    have f0 : DataW.trod _ Tryd.prog W 0 _ false n' 3 ((((l.drop (p * 4)).take 4).drop 0).take (Tryd.prog.cellsOf 3)) = ys[0]? := hf' 0 _ rfl
    have f1 : DataW.trod _ Tryd.prog W 0 _ false n' 3 ((((l.drop (p * 4)).take 4).drop 1).take (Tryd.prog.cellsOf 3)) = ys[1]? := hf' 1 _ rfl
    have f2 : DataW.trod _ Tryd.prog W 0 _ false n' 3 ((((l.drop (p * 4)).take 4).drop 2).take (Tryd.prog.cellsOf 3)) = ys[2]? := hf' 2 _ rfl
    have f3 : DataW.trod _ Tryd.prog W 0 _ false n' 4 ((((l.drop (p * 4)).take 4).drop 3).take (Tryd.prog.cellsOf 4)) = ys[3]? := hf' 3 _ rfl
    rw [show Tryd.prog.cellsOf 3 = 1 from by kernel_rfl] at f0 f1 f2
    rw [show Tryd.prog.cellsOf 4 = 1 from by kernel_rfl] at f3
    have hat : ∀ j, j < 4 → W.cell? ⟨0, p * 4 + j, none⟩ = ((l.drop (p * 4)).take 4)[j]? := by
      intro j hj
      rw [hcell, List.getElem?_take, if_pos hj, List.getElem?_drop]
      simp
    have k0 := hat 0 (by omega)
    have k1 := hat 1 (by omega)
    have k2 := hat 2 (by omega)
    have k3 := hat 3 (by omega)
    rw [Nat.add_zero] at k0
    generalize (l.drop (p * 4)).take 4 = cs at f0 f1 f2 f3 k0 k1 k2 k3 hl4
    match ys, hyl with
    | [y0, y1, y2, y3], _ =>
      simp only [List.map_cons, List.map_nil, List.cons.injEq, and_true] at hD
      match cs, hl4 with
      | [d0, d1, d2, d3], _ =>
        simp only [List.drop_zero, List.drop_succ_cons, List.take_succ_cons, List.take_zero, List.getElem?_cons_zero, List.getElem?_cons_succ] at f0 f1 f2 f3 k0 k1 k2 k3
        obtain ⟨z0, e0, r0, _⟩ := DataW.trod_int Tryd.underlying3 f0
        obtain ⟨z1, e1, r1, _⟩ := DataW.trod_int Tryd.underlying3 f1
        obtain ⟨z2, e2, r2, _⟩ := DataW.trod_int Tryd.underlying3 f2
        obtain ⟨b3, e3, r3⟩ := DataW.trod_bool Tryd.underlying4 f3
        subst r0 r1 r2 r3
        simp only [DataW.lit.injEq, Lit.int.injEq, Lit.bool.injEq, true_and] at hD
        obtain ⟨h0, h1, h2, h3⟩ := hD
        simp only [List.cons.injEq, and_true] at e0 e1 e2 e3
        rw [k0, k1, k2, k3, e0, e1, e2, e3, h0, h1, h2, h3]
        exact ⟨rfl, rfl, rfl, rfl⟩
  exact ⟨fun p hp => (key p hp).1, fun p hp => (key p hp).2.1, fun p hp => (key p hp).2.2.1, fun p hp => (key p hp).2.2.2⟩

/-- The door's own heap meets the condition. -/
theorem door_met (os : Os) (args : Array Value) : laidMetH Tryd.prog [("arras/prop.rules", Rows.laid_arras_prop_rules)] ((World.doorLaid Tryd.prog 400 os).forCall (fun _ _ => 0) ⟨#[], args, []⟩).memory :=
  laidMetH_of_parts3 (fuel := 8) (laidMet_of_run' 8 (by kernel_rfl) (by kernel_rfl)) (by kernel_rfl) (by kernel_rfl)
end Go.Proofs.YtjlbpmmckgjajaaDoor.Pr
