/- Contracts of the functions of package point. -/
import Derived.Test.YtjoeogdkcggmdaaP2
namespace Go.Proofs.Ytjoeogdkcggmdaa
open Go.RowKit
set_option linter.unusedVariables false

/-- the float halves a, b are the point x, y -/
structure Pt (a b : Nat) (x y : Int) : Prop where
  wa : Wh a x
  wb : Wh b y
  x1 : -1099511627776 ≤ x
  x2 : x ≤ 1099511627776
  y1 : -1099511627776 ≤ y
  y2 : y ≤ 1099511627776

theorem Pt.is {a b : Nat} {x y : Int} (h : Pt a b x y) : isPt a b = true := by
  unfold isPt
  rw [(isPart_of h.wa h.x1 h.x2).1, (isPart_of h.wb h.y1 h.y2).1]
  rfl
theorem pt_of {a b : Nat} (h : isPt a b = true) : Pt a b (partOf a) (partOf b) := by
  unfold isPt at h
  rw [Bool.and_eq_true] at h
  have h1 := isPart_out h.1
  have h2 := isPart_out h.2
  exact ⟨h1.1, h2.1, h1.2.1, h1.2.2, h2.2.1, h2.2.2⟩
theorem pt_fl {x y : Int} (x1 : -1099511627776 ≤ x) (x2 : x ≤ 1099511627776) (y1 : -1099511627776 ≤ y) (y2 : y ≤ 1099511627776) : Pt (fl x) (fl y) x y :=
  ⟨wh_fl x (by omega) (by omega), wh_fl y (by omega) (by omega), x1, x2, y1, y2⟩
theorem pt_zero : Pt 0 0 0 0 := ⟨wh_zero, wh_zero, by decide, by decide, by decide, by decide⟩
theorem sat_bd (n : Int) : -1099511627776 ≤ satI n ∧ satI n ≤ 1099511627776 := by
  unfold satI
  repeat (first | omega | split)
theorem sat_in {n : Int} (h1 : -1099511627776 ≤ n) (h2 : n ≤ 1099511627776) : satI n = n := by
  unfold satI
  repeat (first | omega | split)
theorem pt_sat (n m : Int) : Pt (fl (satI n)) (fl (satI m)) (satI n) (satI m) :=
  pt_fl (sat_bd n).1 (sat_bd n).2 (sat_bd m).1 (sat_bd m).2

theorem add_run (a b c d s t : Nat) (h : cSumBits .add .f64 a b c d = some (s, t)) (w : World) : (binOp .add 28 (.complex .f64 a b) (.complex .f64 c d)).run Try.prog w = .ok (.complex .f64 s t) w :=
  run_complex_sum w .add (.inl rfl) 28 .f64 a b c d s t h
theorem sub_run (a b c d s t : Nat) (h : cSumBits .sub .f64 a b c d = some (s, t)) (w : World) : (binOp .sub 28 (.complex .f64 a b) (.complex .f64 c d)).run Try.prog w = .ok (.complex .f64 s t) w :=
  run_complex_sum w .sub (.inr rfl) 28 .f64 a b c d s t h

set_option maxHeartbeats 400000 in
theorem parts_yes (a b : Nat) (x y : Int) (w : World) (h : Pt a b x y) :
    Calls Try.prog 13 #[.complex .f64 a b] w fun e w' => e = .returned (.tuple #[.int .i64 x, .int .i64 y, .int .i64 0]) ∧ Below w.heap.size w w' := by
  have C := Lib.hid (are1 a b w true h.is)
  obtain ⟨wa, wb, x1, x2, y1, y2⟩ := h
  have c1 := conv_fi a x (int_wh wa (by omega) (by omega))
  have c2 := conv_fi b y (int_wh wb (by omega) (by omega))
  clear wa wb x1 x2 y1 y2
  go_enter Try.func13, Try.ntmps13
  go_wp2_with fail
  refine (C.out).mono ?_
  rintro e w' ⟨rfl, rfl⟩
  go_wp2_with fail
  go_ret3
  exact ⟨rfl, (Below.refl _ _).alloc (Nat.le_refl _) _⟩

set_option maxHeartbeats 400000 in
theorem parts_no (a b : Nat) (w : World) (h : isPt a b = false) :
    Calls Try.prog 13 #[.complex .f64 a b] w fun e w' => e = .returned (.tuple #[.int .i64 0, .int .i64 0, .int .i64 1]) ∧ Below w.heap.size w w' := by
  have C := Lib.hid (are1 a b w false h)
  clear h
  go_enter Try.func13, Try.ntmps13
  go_wp2_with fail
  refine (C.out).mono ?_
  rintro e w' ⟨rfl, rfl⟩
  go_wp2_with fail
  go_ret3
  exact ⟨rfl, (Below.refl _ _).alloc (Nat.le_refl _) _⟩

theorem satd_of (a b : Nat) (n m : Int) (w : World) (h : Wh a n) (h1 : -4398046511104 ≤ n) (h2 : n ≤ 4398046511104) (g : Wh b m) (g1 : -4398046511104 ≤ m) (g2 : m ≤ 4398046511104) (x y : Nat) (hx : x = fl (satI n)) (hy : y = fl (satI m)) :
    Calls Try.prog 36 #[.complex .f64 a b] w fun e w' => e = .returned (.complex .f64 x y) ∧ w = w' := by
  rw [hx, hy]
  exact saturated_wh a b n m w h h1 h2 g g1 g2

set_option maxHeartbeats 400000 in
theorem turn_yes (a b : Nat) (x y : Int) (w : World) (h : Pt a b x y) :
    Calls Try.prog 15 #[.complex .f64 a b] w fun e w' => e = .returned (.tuple #[.complex .f64 (fl y) (fl x), .int .i64 0]) ∧ Below w.heap.size w w' := by
  have C := Lib.hid (are1 a b w true h.is)
  obtain ⟨wa, wb, x1, x2, y1, y2⟩ := h
  have D := Lib.hid (fun w => satd_of b a y x w wb (by omega) (by omega) wa (by omega) (by omega) (fl y) (fl x) (by rw [sat_in y1 y2]) (by rw [sat_in x1 x2]))
  clear wa wb x1 x2 y1 y2
  go_enter Try.func15, Try.ntmps15
  go_wp2_with fail
  refine (C.out).mono ?_
  rintro e w' ⟨rfl, rfl⟩
  go_wp2_with fail
  refine (D.out _).mono ?_
  rintro e w' ⟨rfl, rfl⟩
  go_wp2_with fail
  go_ret2
  exact ⟨rfl, (Below.refl _ _).alloc (Nat.le_refl _) _⟩

set_option maxHeartbeats 400000 in
theorem turn_no (a b : Nat) (w : World) (h : isPt a b = false) :
    Calls Try.prog 15 #[.complex .f64 a b] w fun e w' => e = .returned (.tuple #[.complex .f64 0 0, .int .i64 1]) ∧ Below w.heap.size w w' := by
  have C := Lib.hid (are1 a b w false h)
  clear h
  go_enter Try.func15, Try.ntmps15
  go_wp2_with fail
  refine (C.out).mono ?_
  rintro e w' ⟨rfl, rfl⟩
  go_wp2_with fail
  go_ret2
  exact ⟨rfl, (Below.refl _ _).alloc (Nat.le_refl _) _⟩

set_option maxHeartbeats 400000 in
theorem add_yes (a b c d : Nat) (x y u v : Int) (w : World) (h : Pt a b x y) (g : Pt c d u v) :
    Calls Try.prog 21 #[.complex .f64 a b, .complex .f64 c d] w fun e w' => e = .returned (.tuple #[.complex .f64 (fl (satI (x + u))) (fl (satI (y + v))), .int .i64 0]) ∧ Below w.heap.size w w' := by
  have C := Lib.hid (are2 a b c d w true (by rw [h.is, g.is]; rfl))
  obtain ⟨wa, wb, x1, x2, y1, y2⟩ := h
  obtain ⟨wc, wd, u1, u2, v1, v2⟩ := g
  obtain ⟨s, t, hs, ws, wt⟩ := addc_wh wa wb wc wd (by omega) (by omega) (by omega) (by omega) (by omega) (by omega) (by omega) (by omega)
  have ha := add_run a b c d s t hs
  have D := Lib.hid (fun w => saturated_wh s t (x + u) (y + v) w ws (by omega) (by omega) wt (by omega) (by omega))
  clear wa wb x1 x2 y1 y2 wc wd u1 u2 v1 v2 hs ws wt
  go_enter Try.func21, Try.ntmps21
  go_wp2_with fail
  refine (C.out).mono ?_
  rintro e w' ⟨rfl, rfl⟩
  go_wp2_with fail
  refine (D.out _).mono ?_
  rintro e w' ⟨rfl, rfl⟩
  go_wp2_with fail
  go_ret2
  exact ⟨rfl, (Below.refl _ _).alloc (Nat.le_refl _) _⟩

set_option maxHeartbeats 400000 in
theorem add_no (a b c d : Nat) (w : World) (h : (isPt a b && isPt c d) = false) :
    Calls Try.prog 21 #[.complex .f64 a b, .complex .f64 c d] w fun e w' => e = .returned (.tuple #[.complex .f64 0 0, .int .i64 1]) ∧ Below w.heap.size w w' := by
  have C := Lib.hid (are2 a b c d w false h)
  clear h
  go_enter Try.func21, Try.ntmps21
  go_wp2_with fail
  refine (C.out).mono ?_
  rintro e w' ⟨rfl, rfl⟩
  go_wp2_with fail
  go_ret2
  exact ⟨rfl, (Below.refl _ _).alloc (Nat.le_refl _) _⟩

set_option maxHeartbeats 400000 in
theorem sub_yes (a b c d : Nat) (x y u v : Int) (w : World) (h : Pt a b x y) (g : Pt c d u v) :
    Calls Try.prog 22 #[.complex .f64 a b, .complex .f64 c d] w fun e w' => e = .returned (.tuple #[.complex .f64 (fl (satI (x - u))) (fl (satI (y - v))), .int .i64 0]) ∧ Below w.heap.size w w' := by
  have C := Lib.hid (are2 a b c d w true (by rw [h.is, g.is]; rfl))
  obtain ⟨wa, wb, x1, x2, y1, y2⟩ := h
  obtain ⟨wc, wd, u1, u2, v1, v2⟩ := g
  obtain ⟨s, t, hs, ws, wt⟩ := subc_wh wa wb wc wd (by omega) (by omega) (by omega) (by omega) (by omega) (by omega) (by omega) (by omega)
  have ha := sub_run a b c d s t hs
  have D := Lib.hid (fun w => saturated_wh s t (x - u) (y - v) w ws (by omega) (by omega) wt (by omega) (by omega))
  clear wa wb x1 x2 y1 y2 wc wd u1 u2 v1 v2 hs ws wt
  go_enter Try.func22, Try.ntmps22
  go_wp2_with fail
  refine (C.out).mono ?_
  rintro e w' ⟨rfl, rfl⟩
  go_wp2_with fail
  refine (D.out _).mono ?_
  rintro e w' ⟨rfl, rfl⟩
  go_wp2_with fail
  go_ret2
  exact ⟨rfl, (Below.refl _ _).alloc (Nat.le_refl _) _⟩

set_option maxHeartbeats 400000 in
theorem sub_no (a b c d : Nat) (w : World) (h : (isPt a b && isPt c d) = false) :
    Calls Try.prog 22 #[.complex .f64 a b, .complex .f64 c d] w fun e w' => e = .returned (.tuple #[.complex .f64 0 0, .int .i64 1]) ∧ Below w.heap.size w w' := by
  have C := Lib.hid (are2 a b c d w false h)
  clear h
  go_enter Try.func22, Try.ntmps22
  go_wp2_with fail
  refine (C.out).mono ?_
  rintro e w' ⟨rfl, rfl⟩
  go_wp2_with fail
  go_ret2
  exact ⟨rfl, (Below.refl _ _).alloc (Nat.le_refl _) _⟩

set_option maxHeartbeats 400000 in
theorem corners_yes (a b c d : Nat) (x y u v : Int) (w : World) (h : Pt a b x y) (g : Pt c d u v) (hu : 0 ≤ u) (hv : 0 ≤ v) :
    Calls Try.prog 40 #[.complex .f64 a b, .complex .f64 c d] w fun e w' => e = .returned (.tuple #[.complex .f64 (fl x) (fl y), .complex .f64 (fl (satI (x + u))) (fl (satI (y + v))), .int .i64 0]) ∧ Below w.heap.size w w' := by
  have C := Lib.hid (are2 a b c d w true (by rw [h.is, g.is]; rfl))
  obtain ⟨wa, wb, x1, x2, y1, y2⟩ := h
  obtain ⟨wc, wd, u1, u2, v1, v2⟩ := g
  obtain ⟨s, t, hs, ws, wt⟩ := addc_wh wa wb wc wd (by omega) (by omega) (by omega) (by omega) (by omega) (by omega) (by omega) (by omega)
  have ha := add_run a b c d s t hs
  have l1 : (FloatKind.f64.format.order c 0 == some .lt) = false := by rw [lt_wh wc wh_zero]; simp; omega
  have l2 : (FloatKind.f64.format.order d 0 == some .lt) = false := by rw [lt_wh wd wh_zero]; simp; omega
  have D := Lib.hid (fun w => saturated_wh s t (x + u) (y + v) w ws (by omega) (by omega) wt (by omega) (by omega))
  have E := Lib.hid (fun w => satd_of a b x y w wa (by omega) (by omega) wb (by omega) (by omega) (fl x) (fl y) (by rw [sat_in x1 x2]) (by rw [sat_in y1 y2]))
  clear wa wb x1 x2 y1 y2 wc wd u1 u2 v1 v2 hs ws wt hu hv
  go_enter Try.func40, Try.ntmps40
  go_wp2_with fail
  refine (C.out).mono ?_
  rintro e w' ⟨rfl, rfl⟩
  go_wp2_with fail
  refine (E.out _).mono ?_
  rintro e w' ⟨rfl, rfl⟩
  go_wp2_with fail
  refine (D.out _).mono ?_
  rintro e w' ⟨rfl, rfl⟩
  go_wp2_with fail
  go_ret3
  exact ⟨rfl, (Below.refl _ _).alloc (Nat.le_refl _) _⟩

/-- a box: a corner and a size, of which no half is below nought -/
def isBox (a b c d : Nat) : Bool := isPt a b && isPt c d && decide (0 ≤ partOf c) && decide (0 ≤ partOf d)

set_option maxHeartbeats 400000 in
theorem corners_no (a b c d : Nat) (w : World) (h : isBox a b c d = false) :
    Calls Try.prog 40 #[.complex .f64 a b, .complex .f64 c d] w fun e w' => e = .returned (.tuple #[.complex .f64 0 0, .complex .f64 0 0, .int .i64 1]) ∧ Below w.heap.size w w' := by
  unfold isBox at h
  cases hp : (isPt a b && isPt c d)
  · have C := Lib.hid (are2 a b c d w false hp)
    clear h hp
    go_enter Try.func40, Try.ntmps40
    go_wp2_with fail
    refine (C.out).mono ?_
    rintro e w' ⟨rfl, rfl⟩
    go_wp2_with fail
    go_ret3
    exact ⟨rfl, (Below.refl _ _).alloc (Nat.le_refl _) _⟩
  · have C := Lib.hid (are2 a b c d w true hp)
    rw [hp, Bool.true_and] at h
    have g := pt_of (Bool.and_eq_true _ _ ▸ hp : _ ∧ _).2
    obtain ⟨wc, wd, u1, u2, v1, v2⟩ := g
    by_cases hu : 0 ≤ partOf c
    · have hv : ¬ 0 ≤ partOf d := by simpa [hu] using h
      have l1 : (FloatKind.f64.format.order c 0 == some .lt) = false := by rw [lt_wh wc wh_zero]; simp; omega
      have l2 : (FloatKind.f64.format.order d 0 == some .lt) = true := by rw [lt_wh wd wh_zero]; simp; omega
      clear h hp wc wd u1 u2 v1 v2 hu hv
      go_enter Try.func40, Try.ntmps40
      go_wp2_with fail
      refine (C.out).mono ?_
      rintro e w' ⟨rfl, rfl⟩
      go_wp2_with fail
      go_ret3
      exact ⟨rfl, (Below.refl _ _).alloc (Nat.le_refl _) _⟩
    · have l1 : (FloatKind.f64.format.order c 0 == some .lt) = true := by rw [lt_wh wc wh_zero]; simp; omega
      clear h hp wc wd u1 u2 v1 v2 hu
      go_enter Try.func40, Try.ntmps40
      go_wp2_with fail
      refine (C.out).mono ?_
      rintro e w' ⟨rfl, rfl⟩
      go_wp2_with fail
      go_ret3
      exact ⟨rfl, (Below.refl _ _).alloc (Nat.le_refl _) _⟩

/-- a box of numbers -/
structure Bx (a b c d : Nat) (x y u v : Int) : Prop where
  p : Pt a b x y
  s : Pt c d u v
  u0 : 0 ≤ u
  v0 : 0 ≤ v
theorem Bx.is {a b c d : Nat} {x y u v : Int} (h : Bx a b c d x y u v) : isBox a b c d = true := by
  unfold isBox
  rw [h.p.is, h.s.is, (isPart_of h.s.wa h.s.x1 h.s.x2).2, (isPart_of h.s.wb h.s.y1 h.s.y2).2, decide_eq_true h.u0, decide_eq_true h.v0]
  rfl
theorem bx_of {a b c d : Nat} (h : isBox a b c d = true) : Bx a b c d (partOf a) (partOf b) (partOf c) (partOf d) := by
  unfold isBox at h
  simp only [Bool.and_eq_true, decide_eq_true_eq] at h
  exact ⟨pt_of h.1.1.1, pt_of h.1.1.2, h.1.2, h.2⟩

end Go.Proofs.Ytjoeogdkcggmdaa
