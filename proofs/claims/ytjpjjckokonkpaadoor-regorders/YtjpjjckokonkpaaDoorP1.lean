/- Properties: the table in memory; the small functions, of the program and of the page. -/
import Derived.Test.YtjpjjckokonkpaaDoorH10
namespace Go.Proofs.YtjpjjckokonkpaaDoor.Pr
open Go.RowKit Go.Lib
set_option linter.unusedVariables false

def lowL : List Int := [0, 0, 0, -1, -1, 0, -1, 0, -1, 0, 0, -1, 0, 0, 0, 0, 0, 0, 64]
def highL : List Int := [2, 1, 1, 1099511627776, 1099511627776, 1099511627776, 1099511627776, 1099511627776, 1099511627776, 1048576, 1048576, 1099511627776, 1073741824, 1073741824, 1073741824, 4, 3, 16777215, 64000]
def usL : List Int := [0, 0, 0, -1, -1, 0, -1, 0, -1, 0, 1, -1, 0, 0, 0, 0, 0, 0, 1024]
def inL : List Bool := [false, false, false, false, false, false, false, false, false, false, false, false, false, false, false, false, false, true, true]
def lowT (p : Nat) : Int := lowL.getD p 0
def highT (p : Nat) : Int := highL.getD p 0
def usT (p : Nat) : Int := usL.getD p 0
def inT (p : Nat) : Bool := inL.getD p false

/-- the table, in a world -/
structure Tab (w : World) : Prop where
  lo : ∀ p, p < 19 → w.cell? ⟨0, p * 4, none⟩ = some (.int .i64 (lowT p))
  hi : ∀ p, p < 19 → w.cell? ⟨0, p * 4 + 1, none⟩ = some (.int .i64 (highT p))
  us : ∀ p, p < 19 → w.cell? ⟨0, p * 4 + 2, none⟩ = some (.int .i64 (usT p))
  inh : ∀ p, p < 19 → w.cell? ⟨0, p * 4 + 3, none⟩ = some (.bool (inT p))
theorem Tab.lt {w : World} (h : Tab w) : 0 < w.heap.size := World.block_lt_of_cell? _ _ (h.lo 0 (by omega))
theorem Tab.below {w w' : World} {B : Nat} (h : Tab w) (hb : Below B w w') (hB : 0 < B) : Tab w' :=
  ⟨fun p hp => (hb.cell (p := ⟨0, p * 4, none⟩) hB).trans (h.lo p hp), fun p hp => (hb.cell (p := ⟨0, p * 4 + 1, none⟩) hB).trans (h.hi p hp),
   fun p hp => (hb.cell (p := ⟨0, p * 4 + 2, none⟩) hB).trans (h.us p hp), fun p hp => (hb.cell (p := ⟨0, p * 4 + 3, none⟩) hB).trans (h.inh p hp)⟩
theorem Tab.alloc {w : World} (h : Tab w) (o : Obj) : Tab (w.alloc o) := h.below ((Below.refl w.heap.size w).alloc (Nat.le_refl _) o) h.lt
theorem Tab.drewN {w : World} (h : Tab w) (n : Nat) : Tab (w.drewN n) := ⟨h.lo, h.hi, h.us, h.inh⟩
theorem Tab.drew {w : World} (h : Tab w) : Tab w.drew := ⟨h.lo, h.hi, h.us, h.inh⟩

/-- a property? -/
def propB (z : Int) : Bool := decide (0 ≤ z ∧ z < 19)
/-- the error of a property and a value -/
def errP (z v : Int) : Int := if propB z then (if lowT z.toNat ≤ v ∧ v ≤ highT z.toNat then 0 else 9) else 3
def errN (z : Int) : Int := if propB z then 0 else 3
def usZ (z : Int) : Int := if propB z then usT z.toNat else 0
def inZ (z : Int) : Bool := if propB z then inT z.toNat else false
theorem propB_yes {z : Int} (h : propB z = true) : ∃ p : Nat, z = p ∧ p < 19 := by
  simp only [propB, decide_eq_true_eq] at h
  exact ⟨z.toNat, by omega, by omega⟩
theorem propB_nat {p : Nat} (h : p < 19) : propB p = true := by simp [propB]; omega
theorem propB_no {z : Int} (h : propB z = false) : z < 0 ∨ 19 ≤ z := by
  simp only [propB, decide_eq_false_iff_not] at h
  omega

set_option maxHeartbeats 400000 in
theorem isProp_any (z : Int) (w : World) : Calls Tryd.prog 37 #[.int .i64 z] w fun e w' => e = .returned (.bool (propB z)) ∧ w = w' := by
  by_cases g1 : 0 ≤ z
  · have hd : decide (0 ≤ z) = true := decide_eq_true g1
    by_cases g2 : z < 19
    · have HC : Hid (propB z = true) := by show _ = true; simp [propB]; omega
      have hd2 : decide (z < 19) = true := decide_eq_true g2
      go_enter Tryd.func37, Tryd.ntmps37
      go_wp2
      go_ret
      exact ⟨ret_bool HC.out.symm, rfl⟩
    · have HC : Hid (propB z = false) := by show _ = false; simp [propB]; omega
      have hd2 : decide (z < 19) = false := decide_eq_false g2
      go_enter Tryd.func37, Tryd.ntmps37
      go_wp2
      go_ret
      exact ⟨ret_bool HC.out.symm, rfl⟩
  · have HC : Hid (propB z = false) := by show _ = false; simp [propB]; omega
    have hd : decide (0 ≤ z) = false := decide_eq_false g1
    go_enter Tryd.func37, Tryd.ntmps37
    go_wp2
    go_ret
    exact ⟨ret_bool HC.out.symm, rfl⟩

set_option maxHeartbeats 400000 in
theorem refNum_any (z : Int) (w : World) : Calls Tryd.prog 32 #[.int .i64 z, .int .i64 18] w fun e w' => e = .returned (.bool (propB z)) ∧ w = w' := by
  by_cases g1 : 0 ≤ z
  · have hd : decide (0 ≤ z) = true := decide_eq_true g1
    by_cases g2 : z ≤ 18
    · have HC : Hid (propB z = true) := by show _ = true; simp [propB]; omega
      have hd2 : decide (z ≤ 18) = true := decide_eq_true g2
      go_enter Tryd.func32, Tryd.ntmps32
      go_wp2
      go_ret
      exact ⟨ret_bool HC.out.symm, rfl⟩
    · have HC : Hid (propB z = false) := by show _ = false; simp [propB]; omega
      have hd2 : decide (z ≤ 18) = false := decide_eq_false g2
      go_enter Tryd.func32, Tryd.ntmps32
      go_wp2
      go_ret
      exact ⟨ret_bool HC.out.symm, rfl⟩
  · have HC : Hid (propB z = false) := by show _ = false; simp [propB]; omega
    have hd : decide (0 ≤ z) = false := decide_eq_false g1
    go_enter Tryd.func32, Tryd.ntmps32
    go_wp2
    go_ret
    exact ⟨ret_bool HC.out.symm, rfl⟩

theorem errP_no {z : Int} (v : Int) (h : propB z = false) : errP z v = 3 := by simp [errP, h]
theorem errP_ok {p : Nat} {v : Int} (hp : p < 19) (h1 : lowT p ≤ v) (h2 : v ≤ highT p) : errP p v = 0 := by simp [errP, propB_nat hp, h1, h2]
theorem errP_lo {p : Nat} {v : Int} (hp : p < 19) (h1 : ¬ lowT p ≤ v) : errP p v = 9 := by simp [errP, propB_nat hp, h1]
theorem errP_hi {p : Nat} {v : Int} (hp : p < 19) (h1 : ¬ v ≤ highT p) : errP p v = 9 := by simp [errP, propB_nat hp, h1]

set_option maxHeartbeats 1000000 in
theorem check_any (z v : Int) (w : World) (ht : Tab w) : Calls Tryd.prog 33 #[.int .i64 z, .int .i64 v] w fun e w' => e = .returned (.int .i64 (errP z v)) ∧ w = w' := by
  have HI := Lib.hid (isProp_any z w)
  cases hb : propB z
  · rw [hb] at HI
    have HC := Lib.hid (errP_no v hb)
    clear hb
    go_enter Tryd.func33, Tryd.ntmps33
    go_wp2_with fail
    refine (HI.out).mono ?_
    rintro e w1 ⟨rfl, rfl⟩
    go_wp2
    go_ret
    exact ⟨ret_int HC.out.symm, rfl⟩
  · rw [hb] at HI
    obtain ⟨p, rfl, hp⟩ := propB_yes hb
    clear hb
    have c0 := ht.lo p hp
    have c1 := ht.hi p hp
    have h19 : (p : Int) < 19 := by omega
    by_cases g1 : lowT p ≤ v
    · have hd1 : decide (v < lowT p) = false := decide_eq_false (by omega)
      by_cases g2 : v ≤ highT p
      · have HC := Lib.hid (errP_ok hp g1 g2)
        have hd2 : decide (highT p < v) = false := decide_eq_false (by omega)
        clear g1 g2
        generalize lowT p = lo at *
        generalize highT p = hi at *
        go_enter Tryd.func33, Tryd.ntmps33
        go_wp2_with fail
        refine (HI.out).mono ?_
        rintro e w1 ⟨rfl, rfl⟩
        go_wp2
        go_ret
        exact ⟨ret_int HC.out.symm, rfl⟩
      · have HC := Lib.hid (errP_hi hp g2)
        have hd2 : decide (highT p < v) = true := decide_eq_true (by omega)
        clear g1 g2
        generalize lowT p = lo at *
        generalize highT p = hi at *
        go_enter Tryd.func33, Tryd.ntmps33
        go_wp2_with fail
        refine (HI.out).mono ?_
        rintro e w1 ⟨rfl, rfl⟩
        go_wp2
        go_ret
        exact ⟨ret_int HC.out.symm, rfl⟩
    · have hd1 : decide (v < lowT p) = true := decide_eq_true (by omega)
      have HC := Lib.hid (errP_lo hp g1)
      clear g1
      generalize lowT p = lo at *
      generalize highT p = hi at *
      go_enter Tryd.func33, Tryd.ntmps33
      go_wp2_with fail
      refine (HI.out).mono ?_
      rintro e w1 ⟨rfl, rfl⟩
      go_wp2
      go_ret
      exact ⟨ret_int HC.out.symm, rfl⟩

theorem ret2_int {a b c d : Int} (h : a = b) (h' : c = d) : Ending.returned (.tuple #[.int .i64 a, .int .i64 c]) = .returned (.tuple #[.int .i64 b, .int .i64 d]) := by rw [h, h']
theorem ret2_bool {a b : Bool} {c d : Int} (h : a = b) (h' : c = d) : Ending.returned (.tuple #[.bool a, .int .i64 c]) = .returned (.tuple #[.bool b, .int .i64 d]) := by rw [h, h']
theorem usZ_no {z : Int} (h : propB z = false) : usZ z = 0 := by simp [usZ, h]
theorem inZ_no {z : Int} (h : propB z = false) : inZ z = false := by simp [inZ, h]
theorem errN_no {z : Int} (h : propB z = false) : errN z = 3 := by simp [errN, h]
theorem errN_yes {z : Int} (h : propB z = true) : errN z = 0 := by simp [errN, h]
theorem usZ_nat {p : Nat} (h : p < 19) : usZ p = usT p := by simp [usZ, propB_nat h]
theorem inZ_nat {p : Nat} (h : p < 19) : inZ p = inT p := by simp [inZ, propB_nat h]

theorem errP_grow : errP 9 (-1) = 9 := errP_lo (p := 9) (by omega) (by decide)
end Go.Proofs.YtjpjjckokonkpaaDoor.Pr
