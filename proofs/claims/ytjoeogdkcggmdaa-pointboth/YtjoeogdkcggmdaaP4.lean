/- Contracts of Has, Join, Meet. -/
import Derived.Test.YtjoeogdkcggmdaaP3
namespace Go.Proofs.Ytjoeogdkcggmdaa
open Go.RowKit
set_option linter.unusedVariables false

theorem ret_bi {a b : Bool} {n : Int} (h : a = b) : Ending.returned (.tuple #[.bool a, .int .i64 n]) = .returned (.tuple #[.bool b, .int .i64 n]) := by rw [h]

def hasB (x y u v r s : Int) : Bool := decide (x ≤ r) && decide (y ≤ s) && (decide (r < satI (x + u)) && decide (s < satI (y + v)))

set_option maxHeartbeats 400000 in
theorem has_yes (a b c d p q : Nat) (x y u v r s : Int) (w : World) (h : Bx a b c d x y u v) (g : Pt p q r s) :
    Calls Try.prog 27 #[.complex .f64 a b, .complex .f64 c d, .complex .f64 p q] w fun e w' => e = .returned (.tuple #[.bool (hasB x y u v r s), .int .i64 0]) ∧ Below w.heap.size w w' := by
  have C := Lib.hid (corners_yes a b c d x y u v w h.p h.s h.u0 h.v0)
  have D := Lib.hid (fun w => are1 p q w true g.is)
  have hn := pt_fl h.p.x1 h.p.x2 h.p.y1 h.p.y2
  have hf := pt_sat (x + u) (y + v)
  have e1 := ge_wh g.wa hn.wa
  have e2 := ge_wh g.wb hn.wb
  have E := Lib.hid (fun w => isAbove_wh _ _ p q _ _ r s w hf.wa hf.wb g.wa g.wb)
  unfold hasB
  generalize satI (x + u) = X at *
  generalize satI (y + v) = Y at *
  clear h g hn hf
  by_cases h1 : x ≤ r
  · rw [decide_eq_true h1] at e1 ⊢
    by_cases h2 : y ≤ s
    · rw [decide_eq_true h2] at e2 ⊢
      clear h1 h2
      go_enter Try.func27, Try.ntmps27
      go_wp2_with fail
      refine (C.out).mono ?_
      rintro e w1 ⟨rfl, hb1⟩
      go_wp2_with fail
      refine (D.out _).mono ?_
      rintro e w2 ⟨rfl, rfl⟩
      go_wp2_with fail
      refine (E.out _).mono ?_
      rintro e w2 ⟨rfl, rfl⟩
      go_wp2_with fail
      go_ret2
      exact ⟨by rw [Bool.and_self, Bool.true_and]; rfl, hb1.alloc hb1.size _⟩
    · rw [decide_eq_false h2] at e2 ⊢
      clear h1 h2 E
      go_enter Try.func27, Try.ntmps27
      go_wp2_with fail
      refine (C.out).mono ?_
      rintro e w1 ⟨rfl, hb1⟩
      go_wp2_with fail
      refine (D.out _).mono ?_
      rintro e w2 ⟨rfl, rfl⟩
      go_wp2_with fail
      go_ret2
      exact ⟨rfl, hb1.alloc hb1.size _⟩
  · rw [decide_eq_false h1] at e1 ⊢
    clear h1 E e2
    go_enter Try.func27, Try.ntmps27
    go_wp2_with fail
    refine (C.out).mono ?_
    rintro e w1 ⟨rfl, hb1⟩
    go_wp2_with fail
    refine (D.out _).mono ?_
    rintro e w2 ⟨rfl, rfl⟩
    go_wp2_with fail
    go_ret2
    exact ⟨rfl, hb1.alloc hb1.size _⟩

set_option maxHeartbeats 400000 in
theorem has_no (a b c d p q : Nat) (w : World) (h : (isBox a b c d && isPt p q) = false) :
    Calls Try.prog 27 #[.complex .f64 a b, .complex .f64 c d, .complex .f64 p q] w fun e w' => e = .returned (.tuple #[.bool false, .int .i64 1]) ∧ Below w.heap.size w w' := by
  cases hb : isBox a b c d
  · have C := Lib.hid (corners_no a b c d w hb)
    clear h hb
    go_enter Try.func27, Try.ntmps27
    go_wp2_with fail
    refine (C.out).mono ?_
    rintro e w1 ⟨rfl, hb1⟩
    go_wp2_with fail
    go_ret2
    exact ⟨rfl, hb1⟩
  · rw [hb, Bool.true_and] at h
    have hx := bx_of hb
    have C := Lib.hid (corners_yes a b c d _ _ _ _ w hx.p hx.s hx.u0 hx.v0)
    have D := Lib.hid (fun w => are1 p q w false h)
    clear h hb hx
    generalize fl (partOf a) = y1 at *
    generalize fl (partOf b) = y2 at *
    generalize fl (satI (partOf a + partOf c)) = y3 at *
    generalize fl (satI (partOf b + partOf d)) = y4 at *
    go_enter Try.func27, Try.ntmps27
    go_wp2_with fail
    refine (C.out).mono ?_
    rintro e w1 ⟨rfl, hb1⟩
    go_wp2_with fail
    refine (D.out _).mono ?_
    rintro e w2 ⟨rfl, rfl⟩
    go_wp2_with fail
    go_ret2
    exact ⟨rfl, hb1.alloc hb1.size _⟩

/-- the far end of a span -/
def farI (x u : Int) : Int := satI (x + u)
theorem far_bd (x u : Int) : -1099511627776 ≤ farI x u ∧ farI x u ≤ 1099511627776 := sat_bd _

theorem bx_corners {a b c d : Nat} {x y u v : Int} (h : Bx a b c d x y u v) (w : World) : Calls Try.prog 40 #[.complex .f64 a b, .complex .f64 c d] w fun e w' => e = .returned (.tuple #[.complex .f64 (fl x) (fl y), .complex .f64 (fl (farI x u)) (fl (farI y v)), .int .i64 0]) ∧ Below w.heap.size w w' :=
  corners_yes a b c d x y u v w h.p h.s h.u0 h.v0

theorem smaller_to (p q r s m n : Int) (w : World) (p1 : -1099511627776 ≤ p) (p2 : p ≤ 1099511627776) (q1 : -1099511627776 ≤ q) (q2 : q ≤ 1099511627776) (r1 : -1099511627776 ≤ r) (r2 : r ≤ 1099511627776) (s1 : -1099511627776 ≤ s) (s2 : s ≤ 1099511627776) (hm : m = min p r) (hn : n = min q s) :
    Calls Try.prog 42 #[.complex .f64 (fl p) (fl q), .complex .f64 (fl r) (fl s)] w fun e w' => e = .returned (.complex .f64 (fl m) (fl n)) ∧ w = w' := by
  rw [hm, hn]
  exact smaller_fl p q r s w (by omega) (by omega) (by omega) (by omega) (by omega) (by omega) (by omega) (by omega)
theorem larger_to (p q r s m n : Int) (w : World) (p1 : -1099511627776 ≤ p) (p2 : p ≤ 1099511627776) (q1 : -1099511627776 ≤ q) (q2 : q ≤ 1099511627776) (r1 : -1099511627776 ≤ r) (r2 : r ≤ 1099511627776) (s1 : -1099511627776 ≤ s) (s2 : s ≤ 1099511627776) (hm : m = max p r) (hn : n = max q s) :
    Calls Try.prog 43 #[.complex .f64 (fl p) (fl q), .complex .f64 (fl r) (fl s)] w fun e w' => e = .returned (.complex .f64 (fl m) (fl n)) ∧ w = w' := by
  rw [hm, hn]
  exact larger_fl p q r s w (by omega) (by omega) (by omega) (by omega) (by omega) (by omega) (by omega) (by omega)

theorem diff_fl (p q r s : Int) (p1 : -1099511627776 ≤ p) (p2 : p ≤ 1099511627776) (q1 : -1099511627776 ≤ q) (q2 : q ≤ 1099511627776) (r1 : -1099511627776 ≤ r) (r2 : r ≤ 1099511627776) (s1 : -1099511627776 ≤ s) (s2 : s ≤ 1099511627776) :
    ∃ x y, (∀ w, (binOp .sub 28 (.complex .f64 (fl p) (fl q)) (.complex .f64 (fl r) (fl s))).run Try.prog w = .ok (.complex .f64 x y) w) ∧ ∀ w, Calls Try.prog 36 #[.complex .f64 x y] w fun e w' => e = .returned (.complex .f64 (fl (satI (p - r))) (fl (satI (q - s)))) ∧ w = w' := by
  have h := pt_fl p1 p2 q1 q2
  have g := pt_fl r1 r2 s1 s2
  obtain ⟨x, y, hs, wx, wy⟩ := subc_wh h.wa h.wb g.wa g.wb (by omega) (by omega) (by omega) (by omega) (by omega) (by omega) (by omega) (by omega)
  exact ⟨x, y, sub_run _ _ _ _ x y hs, fun w => saturated_wh x y _ _ w wx (by omega) (by omega) wy (by omega) (by omega)⟩

set_option maxHeartbeats 400000 in
theorem join_yes (a b c d a' b' c' d' : Nat) (x y u v x' y' u' v' : Int) (w : World) (h : Bx a b c d x y u v) (h' : Bx a' b' c' d' x' y' u' v') :
    Calls Try.prog 28 #[.complex .f64 a b, .complex .f64 c d, .complex .f64 a' b', .complex .f64 c' d'] w fun e w' => e = .returned (.tuple #[.complex .f64 (fl (min x x')) (fl (min y y')), .complex .f64 (fl (satI (max (farI x u) (farI x' u') - min x x'))) (fl (satI (max (farI y v) (farI y' v') - min y y'))), .int .i64 0]) ∧ Below w.heap.size w w' := by
  have C := Lib.hid (fun w => bx_corners h w)
  have D := Lib.hid (fun w => bx_corners h' w)
  have b1 := far_bd x u
  have b2 := far_bd y v
  have b3 := far_bd x' u'
  have b4 := far_bd y' v'
  obtain ⟨⟨wa, wb, x1, x2, y1, y2⟩, hs, u0, v0⟩ := h
  obtain ⟨⟨wa', wb', x1', x2', y1', y2'⟩, hs', u0', v0'⟩ := h'
  generalize farI x u = X at *
  generalize farI y v = Y at *
  generalize farI x' u' = X' at *
  generalize farI y' v' = Y' at *
  obtain ⟨n1, hn1⟩ : ∃ n, n = min x x' := ⟨_, rfl⟩
  obtain ⟨n2, hn2⟩ : ∃ n, n = min y y' := ⟨_, rfl⟩
  obtain ⟨f1, hf1⟩ : ∃ n, n = max X X' := ⟨_, rfl⟩
  obtain ⟨f2, hf2⟩ : ∃ n, n = max Y Y' := ⟨_, rfl⟩
  rw [← hn1, ← hn2, ← hf1, ← hf2]
  have E := Lib.hid (fun w => smaller_to x y x' y' n1 n2 w x1 x2 y1 y2 x1' x2' y1' y2' hn1 hn2)
  have F := Lib.hid (fun w => larger_to X Y X' Y' f1 f2 w b1.1 b1.2 b2.1 b2.2 b3.1 b3.2 b4.1 b4.2 hf1 hf2)
  obtain ⟨s, t, hst, G⟩ := diff_fl f1 f2 n1 n2 (by omega) (by omega) (by omega) (by omega) (by omega) (by omega) (by omega) (by omega)
  have G := Lib.hid G
  clear wa wb x1 x2 y1 y2 wa' wb' x1' x2' y1' y2' hs hs' u0 v0 u0' v0' b1 b2 b3 b4 hn1 hn2 hf1 hf2
  go_enter Try.func28, Try.ntmps28
  go_wp2_with fail
  refine (C.out _).mono ?_
  rintro e w1 ⟨rfl, hb1⟩
  go_wp2_with fail
  refine (D.out _).mono ?_
  rintro e w2 ⟨rfl, hb2⟩
  go_wp2_with fail
  refine (E.out _).mono ?_
  rintro e w3 ⟨rfl, rfl⟩
  go_wp2_with fail
  refine (F.out _).mono ?_
  rintro e w3 ⟨rfl, rfl⟩
  go_wp2_with fail
  refine (G.out _).mono ?_
  rintro e w3 ⟨rfl, rfl⟩
  go_wp2_with fail
  go_ret3
  exact ⟨rfl, hb1.trans (hb2.mono hb1.size)⟩

set_option maxHeartbeats 400000 in
theorem join_no (a b c d a' b' c' d' : Nat) (w : World) (h : (isBox a b c d && isBox a' b' c' d') = false) :
    Calls Try.prog 28 #[.complex .f64 a b, .complex .f64 c d, .complex .f64 a' b', .complex .f64 c' d'] w fun e w' => e = .returned (.tuple #[.complex .f64 0 0, .complex .f64 0 0, .int .i64 1]) ∧ Below w.heap.size w w' := by
  have key : ∀ a b c d : Nat, isBox a b c d = true → ∃ r1 r2 r3 r4 : Nat, ∀ w, Calls Try.prog 40 #[.complex .f64 a b, .complex .f64 c d] w fun e w' => e = .returned (.tuple #[.complex .f64 r1 r2, .complex .f64 r3 r4, .int .i64 0]) ∧ Below w.heap.size w w' :=
    fun a b c d hb => ⟨_, _, _, _, fun w => bx_corners (bx_of hb) w⟩
  cases hb : isBox a b c d
  · have C := Lib.hid (fun w => corners_no a b c d w hb)
    cases hb' : isBox a' b' c' d'
    · have D := Lib.hid (fun w => corners_no a' b' c' d' w hb')
      clear h hb hb' key
      go_enter Try.func28, Try.ntmps28
      go_wp2_with fail
      refine (C.out _).mono ?_
      rintro e w1 ⟨rfl, hb1⟩
      go_wp2_with fail
      refine (D.out _).mono ?_
      rintro e w2 ⟨rfl, hb2⟩
      go_wp2_with fail
      go_ret3
      exact ⟨rfl, hb1.trans (hb2.mono hb1.size)⟩
    · obtain ⟨r1, r2, r3, r4, hk⟩ := key _ _ _ _ hb'
      have D := Lib.hid hk
      clear h hb hb' hk key
      go_enter Try.func28, Try.ntmps28
      go_wp2_with fail
      refine (C.out _).mono ?_
      rintro e w1 ⟨rfl, hb1⟩
      go_wp2_with fail
      refine (D.out _).mono ?_
      rintro e w2 ⟨rfl, hb2⟩
      go_wp2_with fail
      go_ret3
      exact ⟨rfl, hb1.trans (hb2.mono hb1.size)⟩
  · rw [hb, Bool.true_and] at h
    obtain ⟨r1, r2, r3, r4, hk⟩ := key _ _ _ _ hb
    have C := Lib.hid hk
    have D := Lib.hid (fun w => corners_no a' b' c' d' w h)
    clear h hb hk key
    go_enter Try.func28, Try.ntmps28
    go_wp2_with fail
    refine (C.out _).mono ?_
    rintro e w1 ⟨rfl, hb1⟩
    go_wp2_with fail
    refine (D.out _).mono ?_
    rintro e w2 ⟨rfl, hb2⟩
    go_wp2_with fail
    go_ret3
    exact ⟨rfl, hb1.trans (hb2.mono hb1.size)⟩

set_option maxHeartbeats 400000 in
theorem meet_no (a b c d a' b' c' d' : Nat) (w : World) (h : (isBox a b c d && isBox a' b' c' d') = false) :
    Calls Try.prog 29 #[.complex .f64 a b, .complex .f64 c d, .complex .f64 a' b', .complex .f64 c' d'] w fun e w' => e = .returned (.tuple #[.complex .f64 0 0, .complex .f64 0 0, .int .i64 1]) ∧ Below w.heap.size w w' := by
  have key : ∀ a b c d : Nat, isBox a b c d = true → ∃ r1 r2 r3 r4 : Nat, ∀ w, Calls Try.prog 40 #[.complex .f64 a b, .complex .f64 c d] w fun e w' => e = .returned (.tuple #[.complex .f64 r1 r2, .complex .f64 r3 r4, .int .i64 0]) ∧ Below w.heap.size w w' :=
    fun a b c d hb => ⟨_, _, _, _, fun w => bx_corners (bx_of hb) w⟩
  cases hb : isBox a b c d
  · have C := Lib.hid (fun w => corners_no a b c d w hb)
    cases hb' : isBox a' b' c' d'
    · have D := Lib.hid (fun w => corners_no a' b' c' d' w hb')
      clear h hb hb' key
      go_enter Try.func29, Try.ntmps29
      go_wp2_with fail
      refine (C.out _).mono ?_
      rintro e w1 ⟨rfl, hb1⟩
      go_wp2_with fail
      refine (D.out _).mono ?_
      rintro e w2 ⟨rfl, hb2⟩
      go_wp2_with fail
      go_ret3
      exact ⟨rfl, hb1.trans (hb2.mono hb1.size)⟩
    · obtain ⟨r1, r2, r3, r4, hk⟩ := key _ _ _ _ hb'
      have D := Lib.hid hk
      clear h hb hb' hk key
      go_enter Try.func29, Try.ntmps29
      go_wp2_with fail
      refine (C.out _).mono ?_
      rintro e w1 ⟨rfl, hb1⟩
      go_wp2_with fail
      refine (D.out _).mono ?_
      rintro e w2 ⟨rfl, hb2⟩
      go_wp2_with fail
      go_ret3
      exact ⟨rfl, hb1.trans (hb2.mono hb1.size)⟩
  · rw [hb, Bool.true_and] at h
    obtain ⟨r1, r2, r3, r4, hk⟩ := key _ _ _ _ hb
    have C := Lib.hid hk
    have D := Lib.hid (fun w => corners_no a' b' c' d' w h)
    clear h hb hk key
    go_enter Try.func29, Try.ntmps29
    go_wp2_with fail
    refine (C.out _).mono ?_
    rintro e w1 ⟨rfl, hb1⟩
    go_wp2_with fail
    refine (D.out _).mono ?_
    rintro e w2 ⟨rfl, hb2⟩
    go_wp2_with fail
    go_ret3
    exact ⟨rfl, hb1.trans (hb2.mono hb1.size)⟩

/-- have the spans of both boxes something in common? -/
def meetB (x y u v x' y' u' v' : Int) : Bool := decide (max x x' < min (farI x u) (farI x' u')) && decide (max y y' < min (farI y v) (farI y' v'))

theorem above_to (p q r s : Int) (v : Bool) (w : World) (p1 : -1099511627776 ≤ p) (p2 : p ≤ 1099511627776) (q1 : -1099511627776 ≤ q) (q2 : q ≤ 1099511627776) (r1 : -1099511627776 ≤ r) (r2 : r ≤ 1099511627776) (s1 : -1099511627776 ≤ s) (s2 : s ≤ 1099511627776) (hv : (decide (r < p) && decide (s < q)) = v) :
    Calls Try.prog 41 #[.complex .f64 (fl p) (fl q), .complex .f64 (fl r) (fl s)] w fun e w' => e = .returned (.bool v) ∧ w = w' := by
  rw [← hv]
  have h := pt_fl p1 p2 q1 q2
  have g := pt_fl r1 r2 s1 s2
  exact isAbove_wh _ _ _ _ p q r s w h.wa h.wb g.wa g.wb

set_option maxHeartbeats 400000 in
theorem meet_in (a b c d a' b' c' d' : Nat) (x y u v x' y' u' v' : Int) (w : World) (h : Bx a b c d x y u v) (h' : Bx a' b' c' d' x' y' u' v') (hm : meetB x y u v x' y' u' v' = true) :
    Calls Try.prog 29 #[.complex .f64 a b, .complex .f64 c d, .complex .f64 a' b', .complex .f64 c' d'] w fun e w' => e = .returned (.tuple #[.complex .f64 (fl (max x x')) (fl (max y y')), .complex .f64 (fl (satI (min (farI x u) (farI x' u') - max x x'))) (fl (satI (min (farI y v) (farI y' v') - max y y'))), .int .i64 0]) ∧ Below w.heap.size w w' := by
  have C := Lib.hid (fun w => bx_corners h w)
  have D := Lib.hid (fun w => bx_corners h' w)
  unfold meetB at hm
  have b1 := far_bd x u
  have b2 := far_bd y v
  have b3 := far_bd x' u'
  have b4 := far_bd y' v'
  obtain ⟨⟨wa, wb, x1, x2, y1, y2⟩, hs, u0, v0⟩ := h
  obtain ⟨⟨wa', wb', x1', x2', y1', y2'⟩, hs', u0', v0'⟩ := h'
  generalize farI x u = X at *
  generalize farI y v = Y at *
  generalize farI x' u' = X' at *
  generalize farI y' v' = Y' at *
  obtain ⟨n1, hn1⟩ : ∃ n, n = max x x' := ⟨_, rfl⟩
  obtain ⟨n2, hn2⟩ : ∃ n, n = max y y' := ⟨_, rfl⟩
  obtain ⟨f1, hf1⟩ : ∃ n, n = min X X' := ⟨_, rfl⟩
  obtain ⟨f2, hf2⟩ : ∃ n, n = min Y Y' := ⟨_, rfl⟩
  rw [← hn1, ← hn2, ← hf1, ← hf2] at hm ⊢
  have E := Lib.hid (fun w => larger_to x y x' y' n1 n2 w x1 x2 y1 y2 x1' x2' y1' y2' hn1 hn2)
  have F := Lib.hid (fun w => smaller_to X Y X' Y' f1 f2 w b1.1 b1.2 b2.1 b2.2 b3.1 b3.2 b4.1 b4.2 hf1 hf2)
  have K := Lib.hid (fun w => above_to f1 f2 n1 n2 true w (by omega) (by omega) (by omega) (by omega) (by omega) (by omega) (by omega) (by omega) hm)
  obtain ⟨s, t, hst, G⟩ := diff_fl f1 f2 n1 n2 (by omega) (by omega) (by omega) (by omega) (by omega) (by omega) (by omega) (by omega)
  have G := Lib.hid G
  clear wa wb x1 x2 y1 y2 wa' wb' x1' x2' y1' y2' hs hs' u0 v0 u0' v0' b1 b2 b3 b4 hn1 hn2 hf1 hf2 hm
  go_enter Try.func29, Try.ntmps29
  go_wp2_with fail
  refine (C.out _).mono ?_
  rintro e w1 ⟨rfl, hb1⟩
  go_wp2_with fail
  refine (D.out _).mono ?_
  rintro e w2 ⟨rfl, hb2⟩
  go_wp2_with fail
  refine (E.out _).mono ?_
  rintro e w3 ⟨rfl, rfl⟩
  go_wp2_with fail
  refine (F.out _).mono ?_
  rintro e w3 ⟨rfl, rfl⟩
  go_wp2_with fail
  refine (K.out _).mono ?_
  rintro e w3 ⟨rfl, rfl⟩
  go_wp2_with fail
  refine (G.out _).mono ?_
  rintro e w3 ⟨rfl, rfl⟩
  go_wp2_with fail
  go_ret3
  exact ⟨rfl, hb1.trans (hb2.mono hb1.size)⟩

set_option maxHeartbeats 400000 in
theorem meet_out (a b c d a' b' c' d' : Nat) (x y u v x' y' u' v' : Int) (w : World) (h : Bx a b c d x y u v) (h' : Bx a' b' c' d' x' y' u' v') (hm : meetB x y u v x' y' u' v' = false) :
    Calls Try.prog 29 #[.complex .f64 a b, .complex .f64 c d, .complex .f64 a' b', .complex .f64 c' d'] w fun e w' => e = .returned (.tuple #[.complex .f64 0 0, .complex .f64 0 0, .int .i64 0]) ∧ Below w.heap.size w w' := by
  have C := Lib.hid (fun w => bx_corners h w)
  have D := Lib.hid (fun w => bx_corners h' w)
  unfold meetB at hm
  have b1 := far_bd x u
  have b2 := far_bd y v
  have b3 := far_bd x' u'
  have b4 := far_bd y' v'
  obtain ⟨⟨wa, wb, x1, x2, y1, y2⟩, hs, u0, v0⟩ := h
  obtain ⟨⟨wa', wb', x1', x2', y1', y2'⟩, hs', u0', v0'⟩ := h'
  generalize farI x u = X at *
  generalize farI y v = Y at *
  generalize farI x' u' = X' at *
  generalize farI y' v' = Y' at *
  obtain ⟨n1, hn1⟩ : ∃ n, n = max x x' := ⟨_, rfl⟩
  obtain ⟨n2, hn2⟩ : ∃ n, n = max y y' := ⟨_, rfl⟩
  obtain ⟨f1, hf1⟩ : ∃ n, n = min X X' := ⟨_, rfl⟩
  obtain ⟨f2, hf2⟩ : ∃ n, n = min Y Y' := ⟨_, rfl⟩
  rw [← hn1, ← hn2, ← hf1, ← hf2] at hm
  have E := Lib.hid (fun w => larger_to x y x' y' n1 n2 w x1 x2 y1 y2 x1' x2' y1' y2' hn1 hn2)
  have F := Lib.hid (fun w => smaller_to X Y X' Y' f1 f2 w b1.1 b1.2 b2.1 b2.2 b3.1 b3.2 b4.1 b4.2 hf1 hf2)
  have K := Lib.hid (fun w => above_to f1 f2 n1 n2 false w (by omega) (by omega) (by omega) (by omega) (by omega) (by omega) (by omega) (by omega) hm)
  clear wa wb x1 x2 y1 y2 wa' wb' x1' x2' y1' y2' hs hs' u0 v0 u0' v0' b1 b2 b3 b4 hn1 hn2 hf1 hf2 hm
  go_enter Try.func29, Try.ntmps29
  go_wp2_with fail
  refine (C.out _).mono ?_
  rintro e w1 ⟨rfl, hb1⟩
  go_wp2_with fail
  refine (D.out _).mono ?_
  rintro e w2 ⟨rfl, hb2⟩
  go_wp2_with fail
  refine (E.out _).mono ?_
  rintro e w3 ⟨rfl, rfl⟩
  go_wp2_with fail
  refine (F.out _).mono ?_
  rintro e w3 ⟨rfl, rfl⟩
  go_wp2_with fail
  refine (K.out _).mono ?_
  rintro e w3 ⟨rfl, rfl⟩
  go_wp2_with fail
  go_ret3
  exact ⟨rfl, hb1.trans (hb2.mono hb1.size)⟩
end Go.Proofs.Ytjoeogdkcggmdaa
