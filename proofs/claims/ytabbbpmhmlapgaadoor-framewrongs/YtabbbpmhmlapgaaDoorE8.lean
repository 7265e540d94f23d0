/- The laws' small functions: the same row? a copy; written over; too much; awake. -/
import Derived.Test.YtabbbpmhmlapgaaDoorE7
namespace Go.Proofs.YtabbbpmhmlapgaaDoor
open Go.RowKit Go.Lib
set_option linter.unusedVariables false

def EqPost (w : World) (e : Ending) (w' : World) : Prop := e = .returned (.bool true) ∧ ∃ n, w' = w.drewN n

set_option maxHeartbeats 400000 in
theorem eqI_yes (a b : Option Addr) (zs : List Int) (n1 n2 c1 c2 : Nat) (w : World) (ha : RowK .i64 w a zs) (hb : RowK .i64 w b zs) (h1 : n1 = zs.length) (h2 : n2 = zs.length) (hl : zs.length ≤ 140737488355328) :
    Calls Tryd.prog 35 #[.slice a n1 c1, .slice b n2 c2] w (EqPost w) := by
  have mixed : Tryd.prog.follows .mixedOrders = true := by kernel_rfl
  subst h1 h2
  have HA := Lib.hid ha
  have HB := Lib.hid hb
  clear ha hb
  go_enter Tryd.func35, Tryd.ntmps35
  go_wp2
  go_loopg [5] zs.length (fun g1 v wr => ∃ k n : Nat, v = .int .i64 k ∧ k ≤ zs.length ∧ zs.length - k ≤ g1 ∧ Hid (wr = w.drewN n))
  case atStart => exact ⟨0, 0, rfl, Nat.zero_le _, by omega, rfl⟩
  case round =>
    obtain ⟨k, n, rfl, hk, hg, HW⟩ := hrel
    by_cases hlt : k < zs.length
    · obtain ⟨b1, o1, rfl, hc1⟩ := HA.out k hlt
      obtain ⟨b2, o2, rfl, hc2⟩ := HB.out k hlt
      have hw := HW.out
      subst hw
      have hd1 : (w.drewN n).cell? ⟨b1, o1 + k, none⟩ = some (.int .i64 (zs.getD k 0)) := hc1
      have hd2 : (w.drewN n).cell? ⟨b2, o2 + k, none⟩ = some (.int .i64 (zs.getD k 0)) := hc2
      have hltz : (k : Int) < (zs.length : Int) := by omega
      generalize zs.getD k 0 = z at *
      have hzz : (z != z) = false := by simp
      go_wp2_with fail
      go_quiet (fail)
      go_wp2
      go_roundg (zs.length - (k + 1))
      case measure => omega
      case rel => exact ⟨k + 1, _, by go_num, by omega, by omega, rfl⟩
    · have hltz : ¬ (k : Int) < (zs.length : Int) := by omega
      go_wp2
      go_ret
      exact ⟨rfl, n, HW.out⟩

theorem OwnK.stored {kd : IntKind} {e : TypeId} {w : World} {base g cap n : Nat} {zs : List Int} (hn : zs.length = n) (h : OwnK kd e w base (.slice (some ⟨g, 0, none⟩) n cap) zs) (j : Nat) (z : Int) : OwnK kd e (w.setCell ⟨g, j, none⟩ (.int kd z)) base (.slice (some ⟨g, 0, none⟩) n cap) (zs.set j z) := by
  subst hn
  have h1 := (World.ownsRow.stored h j (.int kd z)).1
  unfold OwnK
  rw [List.length_set, List.map_set]
  exact h1
theorem OwnK.cellAt {kd : IntKind} {e : TypeId} {w : World} {base g cap n : Nat} {zs : List Int} (hn : zs.length = n) (h : OwnK kd e w base (.slice (some ⟨g, 0, none⟩) n cap) zs) (j : Nat) (hj : j < n) : w.cell? ⟨g, j, none⟩ = some (.int kd (zs.getD j 0)) ∧ w.frozen? ⟨g, j, none⟩ = false ∧ base ≤ g ∧ g < w.heap.size := by
  subst hn
  have h1 := World.ownsRow.cellAt h j (by omega)
  rw [List.getElem?_map, List.getElem?_eq_getElem hj] at h1
  refine ⟨?_, World.ownsRow.frozenAt h j, OwnK.lt h rfl⟩
  rw [h1, List.getD_eq_getElem?_getD, List.getElem?_eq_getElem hj]; rfl

def SpoilPost (w : World) (base : Nat) (e : Ending) (w' : World) : Prop := e = .returned (.tuple #[]) ∧ Below base w w'

/-- too much to be played? -/
def heavyB (s l x : Nat) : Bool := decide (65546 < s ∨ 2000 < l ∨ 3000 < x)
def BoolPost (w : World) (b : Bool) (e : Ending) (w' : World) : Prop := e = .returned (.bool b) ∧ Below w.heap.size w w'

end Go.Proofs.YtabbbpmhmlapgaaDoor
