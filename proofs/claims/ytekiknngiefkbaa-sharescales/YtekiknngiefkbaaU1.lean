/- cmp.Compare, the comparison of two rests, the stable sort's entry. -/
import Derived.Test.YtekiknngiefkbaaT7
import Derived.Deep.QuietTactic
import Derived.BigQuiet
namespace Go.Proofs.Ytekiknngiefkbaa
open Go.Shelf Go.RowKit Go.Lib Go.Sort Go.Proofs

def cmpI (x y : Int) : Int := if x < y then -1 else if y < x then 1 else 0

set_option maxHeartbeats 400000 in
theorem isNaN_any (x : Int) (w : World) : Calls Try.prog 32 #[.int .i64 x] w fun e w' => e = .returned (.bool false) ∧ w = w' := by
  have h : (x != x) = false := by simp
  go_enter Try.func32, Try.ntmps32
  go_wp2
  go_ret
  exact ⟨rfl, rfl⟩

set_option maxHeartbeats 400000 in
theorem compare_any (x y : Int) (w : World) : Calls Try.prog 29 #[.int .i64 x, .int .i64 y] w fun e w' => e = .returned (.int .i64 (cmpI x y)) ∧ w = w' := by
  have h1 := fun W => isNaN_any x W
  have h2 := fun W => isNaN_any y W
  have H1 := Lib.hid h1
  have H2 := Lib.hid h2
  clear h1 h2
  unfold cmpI
  by_cases c1 : x < y
  · rw [if_pos c1]
    go_enter Try.func29, Try.ntmps29
    go_wp2_with fail
    refine (H1.out _).mono ?_
    rintro e w' ⟨rfl, rfl⟩
    go_wp2_with fail
    refine (H2.out _).mono ?_
    rintro e w' ⟨rfl, rfl⟩
    go_wp2
    go_ret
    exact ⟨rfl, rfl⟩
  · rw [if_neg c1]
    by_cases c2 : y < x
    · rw [if_pos c2]
      go_enter Try.func29, Try.ntmps29
      go_wp2_with fail
      refine (H1.out _).mono ?_
      rintro e w' ⟨rfl, rfl⟩
      go_wp2_with fail
      refine (H2.out _).mono ?_
      rintro e w' ⟨rfl, rfl⟩
      go_wp2
      go_ret
      exact ⟨rfl, rfl⟩
    · rw [if_neg c2]
      go_enter Try.func29, Try.ntmps29
      go_wp2_with fail
      refine (H1.out _).mono ?_
      rintro e w' ⟨rfl, rfl⟩
      go_wp2_with fail
      refine (H2.out _).mono ?_
      rintro e w' ⟨rfl, rfl⟩
      go_wp2
      go_ret
      exact ⟨rfl, rfl⟩

theorem quiet_left {P : Program} {f : FuncId} {args : Array Value} {w : World} {n : Nat} {v : Value}
    (h : Calls P f args (w.drewN n) fun e w' => e = .returned v ∧ w.drewN n = w') : Calls P f args (w.drewN n) fun e w'' => e = .returned v ∧ ∃ m, w'' = w.drewN m :=
  h.mono fun _ _ ⟨he, hm⟩ => ⟨he, n, hm.symm⟩

set_option maxHeartbeats 1000000 in
set_option maxRecDepth 100000 in
theorem closure_any (bx br ro n cap x y : Nat) (vx vy : Int) (W : World) (hbox : W.cell? ⟨bx, 0, none⟩ = some (.slice (some ⟨br, ro, none⟩) n cap))
    (hx : W.cell? ⟨br, ro + x, none⟩ = some (.int .i64 vx)) (hy : W.cell? ⟨br, ro + y, none⟩ = some (.int .i64 vy)) (hxn : x < n) (hyn : y < n) :
    Calls Try.prog 28 #[.int .i64 x, .int .i64 y, .pointer (some ⟨bx, 0, none⟩)] W fun e w' => e = .returned (.int .i64 (cmpI vy vx)) ∧ ∃ q, w' = W.drewN q := by
  have mixed : Try.prog.follows .mixedOrders = true := by kernel_rfl
  have hc := fun W' => compare_any vy vx W'
  have HC := Lib.hid hc
  clear hc
  generalize cmpI vy vx = r at HC ⊢
  go_enter Try.func28, Try.ntmps28
  go_wp2_with fail
  go_quiet ((go_at_call 29; exact quiet_left (HC.out _)))
  go_wp2
  go_ret
  exact ⟨rfl, _, rfl⟩

/-- a place of the row, as a value -/
def encF (m : Nat) (x : Fin (m + 1)) : Value := .int .i64 (x.val : Int)
theorem encF_one (m : Nat) : OneCell (encF m) := fun _ => rfl

theorem sw_below {α : Type} [Inhabited α] {enc : α → Value} {w0 W : World} {blk off : Nat} {d : Array α} (h : SW enc w0 blk off d W) (hb : blk ≤ w0.heap.size) : Below blk w0 W := by
  have hl := h.le
  obtain ⟨n, os, rfl⟩ := h
  refine ⟨rfl, rfl, rfl, hl, fun k hk => ?_⟩
  show ((w0.heap.modify blk _) ++ os)[k]? = _
  rw [Array.getElem?_append_left (by simpa using Nat.lt_of_lt_of_le hk hb), Array.getElem?_modify, if_neg (by omega)]

theorem sortWorld_cell {α : Type} [Inhabited α] (enc : α → Value) (w : World) (blk off m : Nat) (dk : Array α) (os : Array Obj) (b o : Nat) (hb : b < w.heap.size) (hne : b ≠ blk) :
    (sortWorld enc w blk off m dk os).cell? ⟨b, o, none⟩ = w.cell? ⟨b, o, none⟩ := by
  unfold sortWorld
  rw [cell?_grow _ _ _ (by rw [size_putRow]; exact hb), cell?_putRow_other enc _ blk off _ _ (Or.inl hne)]
  rfl

set_option maxHeartbeats 1000000 in
theorem sortStable_any (sl cv : Value) (a : Option Addr) (n cap : Nat) (w : World) (Q : Ending → World → Prop) (hsl : sl = .slice a n cap)
    (h : Calls Try.prog 31 #[.slice a n cap, .int .i64 n, cv] w Q) (hQ : ∀ e w', Q e w' → e = .returned (.tuple #[])) : Calls Try.prog 27 #[sl, cv] w Q := by
  subst hsl
  have H := Lib.hid h
  clear h
  have HQ := Lib.hid hQ
  clear hQ
  go_enter Try.func27, Try.ntmps27
  go_wp2_with fail
  refine (H.out).mono ?_
  intro e w' hq
  have he := HQ.out e w' hq
  subst he
  have HH := Lib.hid hq
  clear hq
  go_wp2
  go_end0
  exact HH.out
end Go.Proofs.Ytekiknngiefkbaa
