/- Joined: D13. -/
import Derived.Test.YtdpopdlifcjdeaaDoorYD12
import Derived.Test.YtdpopdlifcjdeaaDoorYH

/- Hold: the laws' small functions; scripts opened. -/
namespace Go.Proofs.YtdpopdlifcjdeaaDoor
open Go.ChangeShapes Go.WideShapes Go.ChangeAt Go.RowKit Go.Deep Go.Lib
set_option linter.unusedVariables false

theorem num14_any (z : Int) (w : World) : Calls Tryd.prog 11 #[.int .i64 z] w fun e w' => e = .returned (.int .i64 z) ∧ w = w' := by
  go_enter Tryd.func11, Tryd.ntmps11
  go_wp2
  go_ret
  exact ⟨rfl, rfl⟩

theorem x0_vec : heldB [0] [] = true := by decide
theorem x0_fits : fitsB [0] x0D = true := by unfold fitsB; rw [x0_ok]; decide
theorem x0_known : knownB [0] [] x0D = false := by decide
theorem x0_ready : readyB [0] x0D = true := by decide
theorem x0_free : freeG [] ([] : List OpD).length (setV [0] x0D) [x0D] = ([1], [x0D]) := rfl
set_option maxHeartbeats 2000000 in
set_option maxRecDepth 100000 in
theorem wakes14_any (w : World) (ht : Pr.Tab w) : Calls Tryd.prog 25 #[] w (BoolPost w true) := by
  have HN := Lib.hid (fun W => num14_any 0 W)
  have HB0 := Lib.hid (box_bel w (.cells #[.int .i64 0] 3))
  have HR0 := Lib.hid (one_row .i64 3 w 0)
  have CO := Lib.hid (mkO_any (w.alloc (.cells #[.int .i64 0] 3)))
  have CT : Hid (∀ W a, Below w.heap.size w W → RowK .i64 W (some ⟨w.heap.size, 0, none⟩) [0] → RowK .i64 W a [0] → Calls Tryd.prog 18 #[.slice (some ⟨w.heap.size, 0, none⟩) 1 1, .slice none 0 0, .agg #[.int .i64 1, .int .i64 0, .int .i64 1, .slice a 1 1, .int .i64 1, .int .i64 1, .int .i64 0, .int .i64 0, .int .i64 0, .string ⟨#[107]⟩, .int .i64 0, .int .i64 0]] W (HTake [1] [] [x0D] W)) := fun W a hb h1 h2 => by
    have h := take_ready (some ⟨w.heap.size, 0, none⟩) [0] 1 1 none [] 0 0 x0D a 1 W (ht.below hb ht.lt) h1 rfl (by decide) (RowO.nil _ _) rfl (by decide) (by decide) h2 (by decide) x0_vec x0_fits x0_known x0_ready
    rw [x0_free] at h
    exact h
  clear ht
  go_enter Tryd.func25, Tryd.ntmps25
  go_wp2_with fail
  refine (CO.out).mono ?_
  rintro e w1 ⟨a1, rfl, hr1, hb1⟩
  have HB1 := Lib.hid (HB0.out.trans (hb1.mono HB0.out.size))
  have HR1 := Lib.hid (HR0.out.below hb1 (Nat.le_refl _))
  have HA1 := Lib.hid hr1
  clear hr1 hb1
  go_wp2_with fail
  refine (CT.out w1 a1 HB1.out HR1.out HA1.out).mono ?_
  rintro e w2 ⟨wv, lv, tv, rfl, B, dl1, dl2, h1, h2, h3, h4, h5, h6, h7, h8, h9, h10, h11⟩
  obtain ⟨a, c, rfl, hrw, hc⟩ := h1.form
  obtain ⟨la, ln, lc, rfl, hln, hlc, -⟩ := h2.form
  obtain ⟨ta, tn, tc, rfl, htn, htc, -⟩ := h4.form
  obtain rfl : ln = 0 := hln
  obtain rfl : tn = 1 := htn
  have HW2 := Lib.hid hrw
  have HB2 := Lib.hid (HB1.out.trans (h11.mono HB1.out.size))
  have CE := Lib.hid (fun (h : RowK .i64 (w2.alloc (.cells #[.int .i64 1] 3)) a [1]) => eqI_yes a (some ⟨w2.heap.size, 0, none⟩) [1] 1 1 c 1 (w2.alloc (.cells #[.int .i64 1] 3)) h (one_row .i64 3 w2 1) rfl rfl (by decide))
  have CE2 := Lib.hid (CE.out (HW2.out.alloc _))
  clear h1 h2 h3 h4 h5 h6 h7 h8 h9 h10 h11 hrw hlc htc CE
  have hl1 : ([1] : List Int).length = 1 := rfl
  go_wp2_with fail
  refine (HN.out _).mono ?_
  rintro e w3 ⟨rfl, rfl⟩
  go_wp2_with fail
  refine (CE2.out).mono ?_
  rintro e w4 ⟨rfl, m, rfl⟩
  have HB4 := Lib.hid (below_drewN (HB2.out.alloc HB2.out.size (.cells #[.int .i64 1] 3)) m)
  go_wp2
  go_ret
  exact ⟨rfl, HB4.out⟩
end Go.Proofs.YtdpopdlifcjdeaaDoor
