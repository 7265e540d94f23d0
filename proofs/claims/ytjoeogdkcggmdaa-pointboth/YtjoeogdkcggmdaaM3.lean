/- Small boxes: what both have, and what either has. -/
import Derived.Test.YtjoeogdkcggmdaaR3
namespace Go.Proofs.Ytjoeogdkcggmdaa
open Go.RowKit
set_option linter.unusedVariables false

/-- a small number -/
def Sm (x : Int) : Prop := 0 ≤ x ∧ x < 20

theorem far_small {x u : Int} (hx : Sm x) (hu : Sm u) : farI x u = x + u := by
  unfold Sm at *
  exact sat_in (by omega) (by omega)

theorem has_small {x y u v r s : Int} (hx : -100 ≤ x) (hx' : x ≤ 100) (hy : -100 ≤ y) (hy' : y ≤ 100) (hu : -100 ≤ u) (hu' : u ≤ 100) (hv : -100 ≤ v) (hv' : v ≤ 100) :
    hasB x y u v r s = (decide (x ≤ r) && decide (y ≤ s) && (decide (r < x + u) && decide (s < y + v))) := by
  unfold hasB
  rw [sat_in (n := x + u) (by omega) (by omega), sat_in (n := y + v) (by omega) (by omega)]

theorem both_meet {x y u v x' y' u' v' : Int} (hx : Sm x) (hy : Sm y) (hu : Sm u) (hv : Sm v) (hx' : Sm x') (hy' : Sm y') (hu' : Sm u') (hv' : Sm v') (hm : meetB x y u v x' y' u' v' = true) (r s : Int) :
    hasB (max x x') (max y y') (satI (min (farI x u) (farI x' u') - max x x')) (satI (min (farI y v) (farI y' v') - max y y')) r s = (hasB x y u v r s && hasB x' y' u' v' r s) := by
  unfold meetB at hm
  rw [far_small hx hu, far_small hx' hu', far_small hy hv, far_small hy' hv'] at *
  unfold Sm at *
  simp only [Bool.and_eq_true, decide_eq_true_eq] at hm
  rw [sat_in (n := min (x + u) (x' + u') - max x x') (by omega) (by omega), sat_in (n := min (y + v) (y' + v') - max y y') (by omega) (by omega)]
  rw [has_small (by omega) (by omega) (by omega) (by omega) (by omega) (by omega) (by omega) (by omega), has_small (by omega) (by omega) (by omega) (by omega) (by omega) (by omega) (by omega) (by omega), has_small (by omega) (by omega) (by omega) (by omega) (by omega) (by omega) (by omega) (by omega)]
  rw [Bool.eq_iff_iff]
  simp only [Bool.and_eq_true, decide_eq_true_eq]
  omega

theorem both_none {x y u v x' y' u' v' : Int} (hx : Sm x) (hy : Sm y) (hu : Sm u) (hv : Sm v) (hx' : Sm x') (hy' : Sm y') (hu' : Sm u') (hv' : Sm v') (hm : meetB x y u v x' y' u' v' = false) (r s : Int) :
    hasB 0 0 0 0 r s = (hasB x y u v r s && hasB x' y' u' v' r s) := by
  unfold meetB at hm
  rw [far_small hx hu, far_small hx' hu', far_small hy hv, far_small hy' hv'] at *
  unfold Sm at *
  rw [has_small (by omega) (by omega) (by omega) (by omega) (by omega) (by omega) (by omega) (by omega), has_small (by omega) (by omega) (by omega) (by omega) (by omega) (by omega) (by omega) (by omega), has_small (by omega) (by omega) (by omega) (by omega) (by omega) (by omega) (by omega) (by omega)]
  have hm' : ¬ (max x x' < min (x + u) (x' + u') ∧ max y y' < min (y + v) (y' + v')) := by
    intro h
    rw [decide_eq_true h.1, decide_eq_true h.2] at hm
    cases hm
  rw [Bool.eq_iff_iff]
  simp only [Bool.and_eq_true, decide_eq_true_eq]
  omega

theorem either_join {x y u v x' y' u' v' : Int} (hx : Sm x) (hy : Sm y) (hu : Sm u) (hv : Sm v) (hx' : Sm x') (hy' : Sm y') (hu' : Sm u') (hv' : Sm v') (r s : Int) (h : (hasB x y u v r s || hasB x' y' u' v' r s) = true) :
    hasB (min x x') (min y y') (satI (max (farI x u) (farI x' u') - min x x')) (satI (max (farI y v) (farI y' v') - min y y')) r s = true := by
  rw [far_small hx hu, far_small hx' hu', far_small hy hv, far_small hy' hv'] at *
  unfold Sm at *
  rw [sat_in (n := max (x + u) (x' + u') - min x x') (by omega) (by omega), sat_in (n := max (y + v) (y' + v') - min y y') (by omega) (by omega)]
  rw [has_small (by omega) (by omega) (by omega) (by omega) (by omega) (by omega) (by omega) (by omega), has_small (by omega) (by omega) (by omega) (by omega) (by omega) (by omega) (by omega) (by omega)] at h
  rw [has_small (by omega) (by omega) (by omega) (by omega) (by omega) (by omega) (by omega) (by omega)]
  simp only [Bool.and_eq_true, Bool.or_eq_true, decide_eq_true_eq] at h ⊢
  omega

theorem bx_small {x y u v : Int} (hx : Sm x) (hy : Sm y) (hu : Sm u) (hv : Sm v) : Bx (fl x) (fl y) (fl u) (fl v) x y u v := by
  unfold Sm at *
  exact ⟨pt_fl (by omega) (by omega) (by omega) (by omega), pt_fl (by omega) (by omega) (by omega) (by omega), hu.1, hv.1⟩

theorem join_small {x y u v x' y' u' v' : Int} (hx : Sm x) (hy : Sm y) (hu : Sm u) (hv : Sm v) (hx' : Sm x') (hy' : Sm y') (hu' : Sm u') (hv' : Sm v') :
    ∃ d1 d2 t1 t2 : Nat, ∃ xx yy uu vv : Int, (∀ w, Calls Try.prog 28 #[.complex .f64 (fl x) (fl y), .complex .f64 (fl u) (fl v), .complex .f64 (fl x') (fl y'), .complex .f64 (fl u') (fl v')] w fun e w' => e = .returned (.tuple #[.complex .f64 d1 d2, .complex .f64 t1 t2, .int .i64 0]) ∧ Below w.heap.size w w') ∧ Bx d1 d2 t1 t2 xx yy uu vv ∧ ∀ r s, (hasB x y u v r s || hasB x' y' u' v' r s) = true → hasB xx yy uu vv r s = true := by
  refine ⟨_, _, _, _, _, _, _, _, fun w => join_yes _ _ _ _ _ _ _ _ _ _ _ _ _ _ _ _ w (bx_small hx hy hu hv) (bx_small hx' hy' hu' hv'), ⟨?_, pt_sat _ _, ?_, ?_⟩, fun r s h => either_join hx hy hu hv hx' hy' hu' hv' r s h⟩
  · unfold Sm at *
    exact pt_fl (by omega) (by omega) (by omega) (by omega)
  · rw [far_small hx hu, far_small hx' hu']
    unfold Sm at *
    rw [sat_in (by omega) (by omega)]
    omega
  · rw [far_small hy hv, far_small hy' hv']
    unfold Sm at *
    rw [sat_in (by omega) (by omega)]
    omega

theorem meet_small {x y u v x' y' u' v' : Int} (hx : Sm x) (hy : Sm y) (hu : Sm u) (hv : Sm v) (hx' : Sm x') (hy' : Sm y') (hu' : Sm u') (hv' : Sm v') :
    ∃ d1 d2 t1 t2 : Nat, ∃ xx yy uu vv : Int, (∀ w, Calls Try.prog 29 #[.complex .f64 (fl x) (fl y), .complex .f64 (fl u) (fl v), .complex .f64 (fl x') (fl y'), .complex .f64 (fl u') (fl v')] w fun e w' => e = .returned (.tuple #[.complex .f64 d1 d2, .complex .f64 t1 t2, .int .i64 0]) ∧ Below w.heap.size w w') ∧ Bx d1 d2 t1 t2 xx yy uu vv ∧ ∀ r s, hasB xx yy uu vv r s = (hasB x y u v r s && hasB x' y' u' v' r s) := by
  cases hm : meetB x y u v x' y' u' v'
  · exact ⟨_, _, _, _, _, _, _, _, fun w => meet_out _ _ _ _ _ _ _ _ _ _ _ _ _ _ _ _ w (bx_small hx hy hu hv) (bx_small hx' hy' hu' hv') hm, ⟨pt_zero, pt_zero, by decide, by decide⟩, fun r s => both_none hx hy hu hv hx' hy' hu' hv' hm r s⟩
  · refine ⟨_, _, _, _, _, _, _, _, fun w => meet_in _ _ _ _ _ _ _ _ _ _ _ _ _ _ _ _ w (bx_small hx hy hu hv) (bx_small hx' hy' hu' hv') hm, ⟨?_, pt_sat _ _, ?_, ?_⟩, fun r s => both_meet hx hy hu hv hx' hy' hu' hv' hm r s⟩
    · unfold Sm at *
      exact pt_fl (by omega) (by omega) (by omega) (by omega)
    · unfold meetB at hm
      rw [far_small hx hu, far_small hx' hu', far_small hy hv, far_small hy' hv'] at *
      simp only [Bool.and_eq_true, decide_eq_true_eq] at hm
      unfold Sm at *
      rw [sat_in (by omega) (by omega)]
      omega
    · unfold meetB at hm
      rw [far_small hx hu, far_small hx' hu', far_small hy hv, far_small hy' hv'] at *
      simp only [Bool.and_eq_true, decide_eq_true_eq] at hm
      unfold Sm at *
      rw [sat_in (by omega) (by omega)]
      omega

theorem sm_within (i : Int) : Sm (withinI i 20) := within_bd i 20 (by decide)
theorem coord_win (i : Int) : coordB (withinI i 20) = true := by
  have := within_bd i 20 (by decide)
  unfold coordB
  rw [decide_eq_true]
  omega

/-- four points in a row of the call's own -/
def arr4 (X Y : Nat → Int) : Array Value := #[.complex .f64 (fl (X 0)) (fl (Y 0)), .complex .f64 (fl (X 1)) (fl (Y 1)), .complex .f64 (fl (X 2)) (fl (Y 2)), .complex .f64 (fl (X 3)) (fl (Y 3))]
def Bk4 (w : World) (g : Nat) (cs : Array Value) : Prop := w.heap[g]? = some (.cells cs 53 (0, 0))
theorem Bk4.lt {w : World} {g : Nat} {cs : Array Value} (h : Bk4 w g cs) : g < w.heap.size := by
  rcases Nat.lt_or_ge g w.heap.size with hlt | hge
  · exact hlt
  · unfold Bk4 at h; rw [Array.getElem?_eq_none hge] at h; cases h
theorem Bk4.cell {w : World} {g : Nat} {cs : Array Value} (h : Bk4 w g cs) (i : Nat) : w.cell? ⟨g, i, none⟩ = cs[i]? := by
  unfold Bk4 at h
  simp [World.cell?, h]
theorem Bk4.frozen {w : World} {g : Nat} {cs : Array Value} (h : Bk4 w g cs) (i : Nat) : w.frozen? ⟨g, i, none⟩ = false := by
  unfold Bk4 at h
  simp [World.frozen?, h]
theorem Bk4.set_ {w : World} {g : Nat} {cs : Array Value} (h : Bk4 w g cs) (i : Nat) (u : Value) : Bk4 (w.setCell ⟨g, i, none⟩ u) g (cs.setIfInBounds i u) := by
  unfold Bk4 at h ⊢
  simp [World.setCell, Array.getElem?_modify, h]

def XsAt (w : World) (g : Nat) : Prop := ∃ X Y : Nat → Int, (∀ j, Sm (X j) ∧ Sm (Y j)) ∧ Bk4 w g (arr4 X Y)
theorem XsAt.new (w : World) : XsAt (w.alloc (.cells #[.complex .f64 0 0, .complex .f64 0 0, .complex .f64 0 0, .complex .f64 0 0] 53)) w.heap.size := by
  have z : Sm 0 := ⟨by decide, by decide⟩
  refine ⟨fun _ => 0, fun _ => 0, fun j => ⟨z, z⟩, ?_⟩
  unfold arr4 Bk4
  rw [fl_zero]
  show (w.heap.push _)[w.heap.size]? = _
  simp
theorem XsAt.set {w : World} {g : Nat} (h : XsAt w g) (k : Nat) (hk : k < 4) (n m : Int) (hn : Sm n) (hm : Sm m) : XsAt (w.setCell ⟨g, k, none⟩ (.complex .f64 (fl n) (fl m))) g := by
  obtain ⟨X, Y, hb, hB⟩ := h
  refine ⟨fun j => if j = k then n else X j, fun j => if j = k then m else Y j, fun j => ?_, ?_⟩
  · dsimp only
    split
    · exact ⟨hn, hm⟩
    · exact hb j
  · have := hB.set_ k (.complex .f64 (fl n) (fl m))
    match k, hk with
    | 0, _ => exact this
    | 1, _ => exact this
    | 2, _ => exact this
    | 3, _ => exact this
theorem XsAt.lt {w : World} {g : Nat} (h : XsAt w g) : g < w.heap.size := by
  obtain ⟨X, Y, hb, hB⟩ := h
  exact hB.lt
theorem XsAt.cell {w : World} {g : Nat} (h : XsAt w g) (k : Nat) (hk : k < 4) : ∃ v, w.cell? ⟨g, k, none⟩ = some v := by
  obtain ⟨X, Y, hb, hB⟩ := h
  rw [hB.cell]
  match k, hk with
  | 0, _ => exact ⟨_, rfl⟩
  | 1, _ => exact ⟨_, rfl⟩
  | 2, _ => exact ⟨_, rfl⟩
  | 3, _ => exact ⟨_, rfl⟩
theorem XsAt.frozen {w : World} {g : Nat} (h : XsAt w g) (k : Nat) : w.frozen? ⟨g, k, none⟩ = false := by
  obtain ⟨X, Y, hb, hB⟩ := h
  exact hB.frozen k
/-- four points -/
def Four (w : World) (g : Nat) (a0 a1 b0 b1 c0 c1 d0 d1 : Nat) : Prop := w.cell? ⟨g, 0, none⟩ = some (.complex .f64 a0 a1) ∧ w.cell? ⟨g, 1, none⟩ = some (.complex .f64 b0 b1) ∧ w.cell? ⟨g, 2, none⟩ = some (.complex .f64 c0 c1) ∧ w.cell? ⟨g, 3, none⟩ = some (.complex .f64 d0 d1)
theorem Four.next {w w' : World} {g a0 a1 b0 b1 c0 c1 d0 d1 : Nat} (h : Four w g a0 a1 b0 b1 c0 c1 d0 d1) (hb : Below w.heap.size w w') : Four w' g a0 a1 b0 b1 c0 c1 d0 d1 := by
  obtain ⟨h0, h1, h2, h3⟩ := h
  have hl : g < w.heap.size := World.block_lt_of_cell? _ _ h0
  exact ⟨(hb.cell (p := ⟨g, 0, none⟩) hl).trans h0, (hb.cell (p := ⟨g, 1, none⟩) hl).trans h1, (hb.cell (p := ⟨g, 2, none⟩) hl).trans h2, (hb.cell (p := ⟨g, 3, none⟩) hl).trans h3⟩
theorem XsAt.four {w : World} {g : Nat} (h : XsAt w g) : ∃ x0 y0 x1 y1 x2 y2 x3 y3 : Int, Sm x0 ∧ Sm y0 ∧ Sm x1 ∧ Sm y1 ∧ Sm x2 ∧ Sm y2 ∧ Sm x3 ∧ Sm y3 ∧ Four w g (fl x0) (fl y0) (fl x1) (fl y1) (fl x2) (fl y2) (fl x3) (fl y3) := by
  obtain ⟨X, Y, hb, hB⟩ := h
  exact ⟨X 0, Y 0, X 1, Y 1, X 2, Y 2, X 3, Y 3, (hb 0).1, (hb 0).2, (hb 1).1, (hb 1).2, (hb 2).1, (hb 2).2, (hb 3).1, (hb 3).2, hB.cell 0, hB.cell 1, hB.cell 2, hB.cell 3⟩
end Go.Proofs.Ytjoeogdkcggmdaa
