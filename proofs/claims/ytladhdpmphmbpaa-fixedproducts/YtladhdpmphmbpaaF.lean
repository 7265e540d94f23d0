/- The walk of FixedSums. -/
import Derived.Test.YtladhdpmphmbpaaE
import Derived.BigQuiet
import Derived.StillTailTactics
import Derived.Deep.RegionHeld3
import Derived.Deep.DeepCutAuto
namespace Go.Proofs.Ytladhdpmphmbpaa
open Go.RowKit
set_option linter.unusedVariables false

theorem quiet_left {P : Program} {f : FuncId} {args : Array Value} {w : World} {n : Nat} {v : Value}
    (h : Calls P f args (w.drewN n) fun e w' => e = .returned v ∧ w.drewN n = w') : Calls P f args (w.drewN n) fun e w'' => e = .returned v ∧ ∃ m, w'' = w.drewN m :=
  h.mono fun _ _ ⟨he, hm⟩ => ⟨he, n, hm.symm⟩

theorem coord_yes (a : Int) (w : World) (h : coordB a = true) : Calls Try.prog 11 #[.int .i64 a] w fun e w' => e = .returned (.bool true) ∧ w = w' := by
  rw [← h]; exact coord_any a w
theorem coord_no (a : Int) (w : World) (h : coordB a = false) : Calls Try.prog 11 #[.int .i64 a] w fun e w' => e = .returned (.bool false) ∧ w = w' := by
  rw [← h]; exact coord_any a w

set_option maxRecDepth 100000 in
set_option maxHeartbeats 2000000 in
theorem sums_walk (a : Option Addr) (zs : List Int) (cap : Nat) (w : World) (hrow : RowIs w a zs) :
    Calls Try.prog 3 #[.slice a zs.length cap] w fun e w' => e = .returned (.bool true) ∧ Below w.heap.size w w' := by
  have HA := Lib.hid (all_any a zs cap w hrow)
  clear hrow
  go_enter Try.func3, Try.ntmps3
  go_wp2_with fail
  refine (HA.out).mono ?_
  rintro e w1 ⟨g, cp, k, hk12, hk, rfl, hcells, hg, hg1, hb1⟩
  have hl := xsOf_length zs k hk
  have hl22 : (xsOf zs k).length ≤ 22 := by omega
  generalize xsOf zs k = X at *
  have HC := Lib.hid hcells
  have HB := Lib.hid hb1
  clear hl hcells hb1 hk hk12 HA
  go_wp2_with fail
  go_loopw [4] (fun i wr => ∃ k : Nat, k ≤ X.length ∧ i = .int .i64 k ∧ Below w1.heap.size w1 wr) (fun i _ => X.length - (intOf i).toNat)
  case atStart => exact ⟨0, Nat.zero_le _, rfl, Below.refl _ _⟩
  case round =>
    obtain ⟨i, hi, rfl, hb⟩ := hrel
    by_cases hlt : i < X.length
    · have hci : wr.cell? ⟨g, i, none⟩ = some (.int .i64 (X.getD i 0)) := (hb.cell (p := ⟨g, i, none⟩) hg1).trans (HC.out i hlt)
      generalize hx : X.getD i 0 = x at hci
      have HX := Lib.hid hx
      clear hx
      cases hco : coordB x
      · have H := Lib.hid hco
        clear hco
        go_wp2_with fail
        go_quiet (first | ((go_at_call 10; exact quiet_left (check_no _ _ H.out))) | ((go_at_call 9; exact quiet_left (num_any _ _))) | ((go_at_call 11; exact quiet_left (coord_no _ _ H.out))) | ((go_at_call 12; exact quiet_left (sat_any _ _))) | ((go_at_call 13; exact quiet_left (refsat_any _ _))))
        go_wp2_with fail
        go_loopw [5] (fun j wr2 => ∃ m : Nat, m ≤ X.length ∧ j = .int .i64 m ∧ Below w1.heap.size w1 wr2) (fun j _ => X.length - (intOf j).toNat)
        case atStart => exact ⟨0, Nat.zero_le _, rfl, below_drewN hb _⟩
        case round =>
          obtain ⟨m, hm, rfl, hb2⟩ := hrel
          by_cases hlt2 : m < X.length
          · have hcx : wr.cell? ⟨g, i, none⟩ = some (.int .i64 x) := (hb2.cell (p := ⟨g, i, none⟩) hg1).trans (by rw [HC.out i hlt, HX.out])
            have hcy : wr.cell? ⟨g, m, none⟩ = some (.int .i64 (X.getD m 0)) := (hb2.cell (p := ⟨g, m, none⟩) hg1).trans (HC.out m hlt2)
            generalize X.getD m 0 = y at hcy
            go_wp2_with (go_at_call 11; refine (coord_no _ _ H.out).mono ?_; rintro e w' ⟨rfl, rfl⟩)
            have hgw2 : g < wr.heap.size := Nat.lt_of_lt_of_le hg1 hb2.size
            go_region_held3 (fun w' => w'.cell? ⟨g, i, none⟩ = some (.int .i64 x) ∧ w'.cell? ⟨g, m, none⟩ = some (.int .i64 y)) (go_keep) ((go_at_call 14; refine (add_no x y _ (by rw [H.out]; rfl)).mono ?_; rintro e w2 ⟨rfl, hB2⟩; have c12 : w2.cell? ⟨g, i, none⟩ = some (.int .i64 x) := (hB2.cell (p := ⟨g, i, none⟩) (by simpa using hgw2)).trans (by simpa using hcx); have c22 : w2.cell? ⟨g, m, none⟩ = some (.int .i64 y) := (hB2.cell (p := ⟨g, m, none⟩) (by simpa using hgw2)).trans (by simpa using hcy); have hbb2 : Below w1.heap.size w1 w2 := (hb2.drew).trans (hB2.mono hb2.size)))
            have hgw3 : g < w2.heap.size := Nat.lt_of_lt_of_le hg1 hbb2.size
            clear hB2 hcx hcy
            go_wp2_with fail
            go_region_held3 (fun w' => w'.cell? ⟨g, i, none⟩ = some (.int .i64 x) ∧ w'.cell? ⟨g, m, none⟩ = some (.int .i64 y)) (go_keep) ((go_at_call 15; refine (sub_no x y _ (by rw [H.out]; rfl)).mono ?_; rintro e w3 ⟨rfl, hB3⟩; have c13 : w3.cell? ⟨g, i, none⟩ = some (.int .i64 x) := (hB3.cell (p := ⟨g, i, none⟩) (by simpa using hgw3)).trans (by simpa using c12); have c23 : w3.cell? ⟨g, m, none⟩ = some (.int .i64 y) := (hB3.cell (p := ⟨g, m, none⟩) (by simpa using hgw3)).trans (by simpa using c22); have hbb3 : Below w1.heap.size w1 w3 := (hbb2.drew).trans (hB3.mono hbb2.size)))
            clear hB3 c12 c22
            go_wp2_with fail
            go_quiet ((go_at_call 16; exact quiet_left (told_no _ _)))
            go_wp2_with fail
            go_roundw
            case rel => exact ⟨m + 1, by omega, by go_num, below_drewN hbb3 _⟩
            case measure => simp [intOf]; omega
          · go_wp2_with fail
            go_roundw
            case rel => exact ⟨i + 1, by omega, by go_num, hb2⟩
            case measure => simp [intOf]; omega
      · have H := Lib.hid hco
        clear hco
        go_wp2_with fail
        go_quiet (first | ((go_at_call 10; exact quiet_left (check_yes _ _ H.out))) | ((go_at_call 9; exact quiet_left (num_any _ _))) | ((go_at_call 11; exact quiet_left (coord_yes _ _ H.out))) | ((go_at_call 12; exact quiet_left (sat_any _ _))) | ((go_at_call 13; exact quiet_left (refsat_any _ _))))
        go_wp2_with fail
        go_loopw [5] (fun j wr2 => ∃ m : Nat, m ≤ X.length ∧ j = .int .i64 m ∧ Below w1.heap.size w1 wr2) (fun j _ => X.length - (intOf j).toNat)
        case atStart => exact ⟨0, Nat.zero_le _, rfl, below_drewN hb _⟩
        case round =>
          obtain ⟨m, hm, rfl, hb2⟩ := hrel
          by_cases hlt2 : m < X.length
          · have hcx : wr.cell? ⟨g, i, none⟩ = some (.int .i64 x) := (hb2.cell (p := ⟨g, i, none⟩) hg1).trans (by rw [HC.out i hlt, HX.out])
            have hcy : wr.cell? ⟨g, m, none⟩ = some (.int .i64 (X.getD m 0)) := (hb2.cell (p := ⟨g, m, none⟩) hg1).trans (HC.out m hlt2)
            generalize X.getD m 0 = y at hcy
            cases hco : coordB y
            · have H2 := Lib.hid hco
              clear hco
              go_wp2_with (go_at_call 11; first | ((refine (coord_yes _ _ H.out).mono ?_); rintro e w' ⟨rfl, rfl⟩) | ((refine (coord_no _ _ H2.out).mono ?_); rintro e w' ⟨rfl, rfl⟩))
              have hgw2 : g < wr.heap.size := Nat.lt_of_lt_of_le hg1 hb2.size
              go_region_held3 (fun w' => w'.cell? ⟨g, i, none⟩ = some (.int .i64 x) ∧ w'.cell? ⟨g, m, none⟩ = some (.int .i64 y)) (go_keep) ((go_at_call 14; refine (add_no x y _ (by rw [H.out, H2.out]; rfl)).mono ?_; rintro e w2 ⟨rfl, hB2⟩; have c12 : w2.cell? ⟨g, i, none⟩ = some (.int .i64 x) := (hB2.cell (p := ⟨g, i, none⟩) (by simpa using hgw2)).trans (by simpa using hcx); have c22 : w2.cell? ⟨g, m, none⟩ = some (.int .i64 y) := (hB2.cell (p := ⟨g, m, none⟩) (by simpa using hgw2)).trans (by simpa using hcy); have hbb2 : Below w1.heap.size w1 w2 := (hb2.drew).trans (hB2.mono hb2.size)))
              have hgw3 : g < w2.heap.size := Nat.lt_of_lt_of_le hg1 hbb2.size
              clear hB2 hcx hcy
              go_wp2_with fail
              go_region_held3 (fun w' => w'.cell? ⟨g, i, none⟩ = some (.int .i64 x) ∧ w'.cell? ⟨g, m, none⟩ = some (.int .i64 y)) (go_keep) ((go_at_call 15; refine (sub_no x y _ (by rw [H.out, H2.out]; rfl)).mono ?_; rintro e w3 ⟨rfl, hB3⟩; have c13 : w3.cell? ⟨g, i, none⟩ = some (.int .i64 x) := (hB3.cell (p := ⟨g, i, none⟩) (by simpa using hgw3)).trans (by simpa using c12); have c23 : w3.cell? ⟨g, m, none⟩ = some (.int .i64 y) := (hB3.cell (p := ⟨g, m, none⟩) (by simpa using hgw3)).trans (by simpa using c22); have hbb3 : Below w1.heap.size w1 w3 := (hbb2.drew).trans (hB3.mono hbb2.size)))
              clear hB3 c12 c22
              go_wp2_with fail
              go_quiet ((go_at_call 16; exact quiet_left (told_no _ _)))
              go_wp2_with fail
              go_roundw
              case rel => exact ⟨m + 1, by omega, by go_num, below_drewN hbb3 _⟩
              case measure => simp [intOf]; omega
            · have H2 := Lib.hid hco
              clear hco
              go_wp2_with (go_at_call 11; refine (coord_yes _ _ (by first | exact H.out | exact H2.out)).mono ?_; rintro e w' ⟨rfl, rfl⟩)
              have hgw2 : g < wr.heap.size := Nat.lt_of_lt_of_le hg1 hb2.size
              go_region_held3 (fun w' => w'.cell? ⟨g, i, none⟩ = some (.int .i64 x) ∧ w'.cell? ⟨g, m, none⟩ = some (.int .i64 y)) (go_keep) ((go_at_call 14; refine (add_yes x y _ H.out H2.out).mono ?_; rintro e w2 ⟨rfl, hB2⟩; have c12 : w2.cell? ⟨g, i, none⟩ = some (.int .i64 x) := (hB2.cell (p := ⟨g, i, none⟩) (by simpa using hgw2)).trans (by simpa using hcx); have c22 : w2.cell? ⟨g, m, none⟩ = some (.int .i64 y) := (hB2.cell (p := ⟨g, m, none⟩) (by simpa using hgw2)).trans (by simpa using hcy); have hbb2 : Below w1.heap.size w1 w2 := (hb2.drew).trans (hB2.mono hb2.size)))
              have hgw3 : g < w2.heap.size := Nat.lt_of_lt_of_le hg1 hbb2.size
              clear hB2 hcx hcy
              go_wp2_with fail
              go_region_held3 (fun w' => w'.cell? ⟨g, i, none⟩ = some (.int .i64 x) ∧ w'.cell? ⟨g, m, none⟩ = some (.int .i64 y)) (go_keep) ((go_at_call 15; refine (sub_yes x y _ H.out H2.out).mono ?_; rintro e w3 ⟨rfl, hB3⟩; have c13 : w3.cell? ⟨g, i, none⟩ = some (.int .i64 x) := (hB3.cell (p := ⟨g, i, none⟩) (by simpa using hgw3)).trans (by simpa using c12); have c23 : w3.cell? ⟨g, m, none⟩ = some (.int .i64 y) := (hB3.cell (p := ⟨g, m, none⟩) (by simpa using hgw3)).trans (by simpa using c22); have hbb3 : Below w1.heap.size w1 w3 := (hbb2.drew).trans (hB3.mono hbb2.size)))
              clear hB3 c12 c22
              go_wp2_with fail
              go_quiet (first | ((go_at_call 17; exact quiet_left (refadd_any _ _ _ H.out H2.out))) | ((go_at_call 18; exact quiet_left (refsub_any _ _ _ H.out H2.out))) | ((go_at_call 16; exact quiet_left (told_yes _ _))))
              go_wp2_with fail
              go_roundw
              case rel => exact ⟨m + 1, by omega, by go_num, below_drewN hbb3 _⟩
              case measure => simp [intOf]; omega
          · go_wp2_with fail
            go_roundw
            case rel => exact ⟨i + 1, by omega, by go_num, hb2⟩
            case measure => simp [intOf]; omega
    · go_wp2_with fail
      refine (wakes_any _).mono ?_
      rintro e w9 ⟨rfl, h9⟩
      go_wp2_with fail
      go_ret
      exact ⟨rfl, (HB.out).trans ((hb.mono (HB.out).size).trans (h9.mono (Nat.le_trans (HB.out).size hb.size)))⟩
end Go.Proofs.Ytladhdpmphmbpaa
