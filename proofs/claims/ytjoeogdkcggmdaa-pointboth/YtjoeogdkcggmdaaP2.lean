/- Contract of arePoints: a loop by goto. -/
import Derived.Test.YtjoeogdkcggmdaaP1
namespace Go.Proofs.Ytjoeogdkcggmdaa
open Go.RowKit
set_option linter.unusedVariables false

/-- are all of the row points? -/
def allPt (ps : List (Nat × Nat)) : Bool := ps.all fun p => isPt p.1 p.2
theorem allPt_snoc (ps : List (Nat × Nat)) (k : Nat) (h : k < ps.length) (hall : allPt (ps.take k) = true) (hp : isPt (ps.getD k (0, 0)).1 (ps.getD k (0, 0)).2 = true) : allPt (ps.take (k + 1)) = true := by
  unfold allPt at *
  rw [List.take_succ_eq_append_getElem h, List.all_append, hall]
  simp [List.getD, h] at hp ⊢
  exact hp
theorem allPt_no (ps : List (Nat × Nat)) (k : Nat) (h : k < ps.length) (hp : isPt (ps.getD k (0, 0)).1 (ps.getD k (0, 0)).2 = false) : allPt ps = false := by
  unfold allPt
  rw [List.all_eq_false]
  refine ⟨ps.getD k (0, 0), ?_, by rw [hp]; decide⟩
  simp [List.getD, h]

def AreJ (g : Nat) (ps : List (Nat × Nat)) (w : World) (a' : Act) (w' : World) : Prop :=
  w = w' ∧ ∃ (k r : Nat) (v : Option Addr) (u3 u4 u5 u6 u7 u8 u9 u10 u11 u12 u13 u14 u15 u16 u17 u18 u19 u20 u21 : Value), a' = { tmps := #[.slice v r r, undef, .bool false, u3, u4, u5, u6, u7, u8, u9, u10, u11, u12, u13, u14, u15, u16, u17, u18, u19, u20, u21], defers := [] } ∧ k + r = ps.length ∧ (0 < r → v = some ⟨g, k, none⟩) ∧ allPt (ps.take k) = true

set_option maxRecDepth 100000 in
set_option maxHeartbeats 1000000 in
theorem arePoints_any (g : Nat) (ps : List (Nat × Nat)) (w : World) (hl : ps.length ≤ 1000) (h0 : 0 < ps.length)
    (hcell : ∀ i, i < ps.length → w.cell? ⟨g, i, none⟩ = some (.complex .f64 (ps.getD i (0, 0)).1 (ps.getD i (0, 0)).2)) :
    Calls Try.prog 35 #[.slice (some ⟨g, 0, none⟩) ps.length ps.length] w fun e w' => e = .returned (.bool (allPt ps)) ∧ w = w' := by
  have HC := Lib.hid hcell
  clear hcell
  go_enter Try.func35, Try.ntmps35
  go_wp2
  refine wp_scope_jumps 0 (AreJ g ps w) (fun a' _ => match a'.tmps.getD 0 undef with | .slice _ n _ => n | _ => 0) rfl ?_ ?_
  · obtain ⟨r, hr⟩ : ∃ r, ps.length = r + 1 := ⟨ps.length - 1, by omega⟩
    have hc := HC.out 0 (by omega)
    have hs := allPt_snoc ps 0 (by omega) rfl
    have hn := allPt_no ps 0 (by omega)
    unfold isPt at hs hn
    generalize (ps.getD 0 (0, 0)).1 = a at *
    generalize (ps.getD 0 (0, 0)).2 = b at *
    rw [hr]
    have HR := Lib.hid hr
    have HS := Lib.hid hs
    have HN := Lib.hid hn
    clear hs hn hr h0 hl
    cases h1 : isPart a
    · have C := Lib.hid (fun w => isCoord_is a _ w h1)
      have HF := Lib.hid (HN.out (by rw [h1]; rfl))
      clear h1 HN HS
      go_wp2_with fail
      go_step3
      go_wp2_with fail
      refine (C.out _).mono ?_
      rintro e w' ⟨rfl, rfl⟩
      go_wp2_with fail
      simp only [Exit.jump]
      go_ret
      exact ⟨ret_bool (HF.out).symm, rfl⟩
    · cases h2 : isPart b
      · have C := Lib.hid (fun w => isCoord_is a _ w h1)
        have D := Lib.hid (fun w => isCoord_is b _ w h2)
        have HF := Lib.hid (HN.out (by rw [h1, h2]; rfl))
        clear h1 h2 HN HS
        go_wp2_with fail
        go_step3
        go_wp2_with fail
        refine (C.out _).mono ?_
        rintro e w' ⟨rfl, rfl⟩
        go_wp2_with fail
        refine (D.out _).mono ?_
        rintro e w' ⟨rfl, rfl⟩
        go_wp2_with fail
        simp only [Exit.jump]
        go_ret
        exact ⟨ret_bool (HF.out).symm, rfl⟩
      · have C := Lib.hid (fun w => isCoord_is a _ w h1)
        have D := Lib.hid (fun w => isCoord_is b _ w h2)
        have HF := Lib.hid (HS.out (by rw [h1, h2]; rfl))
        clear h1 h2 HN HS
        go_wp2_with fail
        go_step3
        go_wp2_with fail
        refine (C.out _).mono ?_
        rintro e w' ⟨rfl, rfl⟩
        go_wp2_with fail
        refine (D.out _).mono ?_
        rintro e w' ⟨rfl, rfl⟩
        go_wp2_with fail
        · have hr0 : r = 0 := by assumption
          go_step3
          exact ⟨rfl, rfl, 1, 0, _, _, _, _, _, _, _, _, _, _, _, _, _, _, _, _, _, _, _, _, rfl, by rw [HR.out, hr0], fun h => absurd h (Nat.lt_irrefl _), HF.out⟩
        · go_step3
          exact ⟨rfl, rfl, 1, r, _, _, _, _, _, _, _, _, _, _, _, _, _, _, _, _, _, _, _, _, rfl, by rw [HR.out, Nat.add_comm], fun _ => rfl, HF.out⟩
  · rintro a' w' ⟨rfl, k, r, v, u3, u4, u5, u6, u7, u8, u9, u10, u11, u12, u13, u14, u15, u16, u17, u18, u19, u20, u21, rfl, hk, hv, hall⟩
    by_cases hr0 : r = 0
    · subst hr0
      have HA := Lib.hid (show allPt ps = true by rw [List.take_of_length_le (by omega)] at hall; exact hall)
      clear hall hv
      go_wp2_with fail
      simp only [Exit.jump]
      go_ret
      exact ⟨ret_bool (HA.out).symm, rfl⟩
    obtain ⟨j, rfl⟩ : ∃ j, r = j + 1 := ⟨r - 1, by omega⟩
    have hve := hv (by omega)
    subst hve
    have hc := HC.out k (by omega)
    have hs := allPt_snoc ps k (by omega) hall
    have hn := allPt_no ps k (by omega)
    unfold isPt at hs hn
    generalize (ps.getD k (0, 0)).1 = a at *
    generalize (ps.getD k (0, 0)).2 = b at *
    have HR := Lib.hid hk
    have HS := Lib.hid hs
    have HN := Lib.hid hn
    clear hs hn hk hv hr0 hall h0 hl
    cases h1 : isPart a
    · have C := Lib.hid (fun w => isCoord_is a _ w h1)
      have HF := Lib.hid (HN.out (by rw [h1]; rfl))
      clear h1 HN HS
      go_wp2_with fail
      refine (C.out _).mono ?_
      rintro e w' ⟨rfl, rfl⟩
      go_wp2_with fail
      simp only [Exit.jump]
      go_ret
      exact ⟨ret_bool (HF.out).symm, rfl⟩
    · cases h2 : isPart b
      · have C := Lib.hid (fun w => isCoord_is a _ w h1)
        have D := Lib.hid (fun w => isCoord_is b _ w h2)
        have HF := Lib.hid (HN.out (by rw [h1, h2]; rfl))
        clear h1 h2 HN HS
        go_wp2_with fail
        refine (C.out _).mono ?_
        rintro e w' ⟨rfl, rfl⟩
        go_wp2_with fail
        refine (D.out _).mono ?_
        rintro e w' ⟨rfl, rfl⟩
        go_wp2_with fail
        simp only [Exit.jump]
        go_ret
        exact ⟨ret_bool (HF.out).symm, rfl⟩
      · have C := Lib.hid (fun w => isCoord_is a _ w h1)
        have D := Lib.hid (fun w => isCoord_is b _ w h2)
        have HF := Lib.hid (HS.out (by rw [h1, h2]; rfl))
        clear h1 h2 HN HS
        go_wp2_with fail
        refine (C.out _).mono ?_
        rintro e w' ⟨rfl, rfl⟩
        go_wp2_with fail
        refine (D.out _).mono ?_
        rintro e w' ⟨rfl, rfl⟩
        go_wp2_with fail
        · have hr0 : j = 0 := by assumption
          go_step3
          refine ⟨rfl, ⟨rfl, k + 1, 0, _, _, _, _, _, _, _, _, _, _, _, _, _, _, _, _, _, _, _, _, rfl, by have := HR.out; omega, fun h => absurd h (Nat.lt_irrefl _), HF.out⟩, ?_⟩
          simp
        · go_step3
          refine ⟨rfl, ⟨rfl, k + 1, j, _, _, _, _, _, _, _, _, _, _, _, _, _, _, _, _, _, _, _, _, rfl, by have := HR.out; omega, fun _ => rfl, HF.out⟩, ?_⟩
          simp

theorem are1 (a b : Nat) (w : World) (v : Bool) (hv : isPt a b = v) :
    Calls Try.prog 35 #[.slice (some ⟨w.heap.size, 0, none⟩) 1 1] (w.alloc (.cells #[.complex .f64 a b] 28)) fun e w' => e = .returned (.bool v) ∧ (w.alloc (.cells #[.complex .f64 a b] 28)) = w' := by
  have h := arePoints_any w.heap.size [(a, b)] (w.alloc (.cells #[.complex .f64 a b] 28)) (by simp) (by simp) (by
    intro i hi
    match i, hi with
    | 0, _ => simp [go_sem])
  rw [show allPt [(a, b)] = v by simp [allPt, hv]] at h
  exact h

theorem are2 (a b c d : Nat) (w : World) (v : Bool) (hv : (isPt a b && isPt c d) = v) :
    Calls Try.prog 35 #[.slice (some ⟨w.heap.size, 0, none⟩) 2 2] (w.alloc (.cells #[.complex .f64 a b, .complex .f64 c d] 28)) fun e w' => e = .returned (.bool v) ∧ (w.alloc (.cells #[.complex .f64 a b, .complex .f64 c d] 28)) = w' := by
  have h := arePoints_any w.heap.size [(a, b), (c, d)] (w.alloc (.cells #[.complex .f64 a b, .complex .f64 c d] 28)) (by simp) (by simp) (by
    intro i hi
    match i, hi with
    | 0, _ => simp [go_sem]
    | 1, _ => simp [go_sem])
  rw [show allPt [(a, b), (c, d)] = v by simp [allPt] at hv ⊢; exact hv] at h
  exact h
end Go.Proofs.Ytjoeogdkcggmdaa
