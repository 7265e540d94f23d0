/- The walk of FixedClamps. -/
import Derived.Test.YtladhdpmphmbpaaF
namespace Go.Proofs.Ytladhdpmphmbpaa
open Go.RowKit
set_option linter.unusedVariables false

theorem mayclamp_yes (x low high : Int) (w : World) (h : (coordB x && coordB low && coordB high) = true) :
    Calls Try.prog 23 #[.int .i64 x, .int .i64 low, .int .i64 high] w fun e w' => e = .returned (.bool true) ∧ w = w' := by
  rw [← h]; exact mayclamp_any x low high w
theorem mayclamp_no (x low high : Int) (w : World) (h : (coordB x && coordB low && coordB high) = false) :
    Calls Try.prog 23 #[.int .i64 x, .int .i64 low, .int .i64 high] w fun e w' => e = .returned (.bool false) ∧ w = w' := by
  rw [← h]; exact mayclamp_any x low high w

set_option maxRecDepth 100000 in
set_option maxHeartbeats 4000000 in
theorem clamps_walk (a : Option Addr) (zs : List Int) (cap : Nat) (w : World) (hrow : RowIs w a zs) :
    Calls Try.prog 5 #[.slice a zs.length cap] w fun e w' => e = .returned (.bool true) ∧ Below w.heap.size w w' := by
  have HA := Lib.hid (all_any a zs cap w hrow)
  clear hrow
  go_enter Try.func5, Try.ntmps5
  go_wp2_with fail
  refine (HA.out).mono ?_
  rintro e w1 ⟨g, cp, k, hk12, hk, rfl, hcells, hg, hg1, hb1⟩
  have hl := xsOf_length zs k hk
  have hl22 : (xsOf zs k).length ≤ 22 := by omega
  generalize xsOf zs k = X at *
  have HC := Lib.hid hcells
  have HB := Lib.hid hb1
  clear hl hcells hb1 hk hk12 HA
  go_wp2_with fail
  go_loopw [4] (fun i wr => ∃ k : Nat, k ≤ X.length ∧ i = .int .i64 k ∧ Below w1.heap.size w1 wr) (fun i _ => X.length - (intOf i).toNat)
  case atStart => exact ⟨0, Nat.zero_le _, rfl, Below.refl _ _⟩
  case round =>
    obtain ⟨i, hi, rfl, hb⟩ := hrel
    by_cases hlt : i < X.length
    · go_wp2_with fail
      go_loopw [5] (fun i wr => ∃ k : Nat, k ≤ X.length ∧ i = .int .i64 k ∧ Below w1.heap.size w1 wr) (fun i _ => X.length - (intOf i).toNat)
      case atStart => exact ⟨0, Nat.zero_le _, rfl, hb⟩
      case round =>
        obtain ⟨j, hj, rfl, hb2⟩ := hrel
        by_cases hlt2 : j < X.length
        · go_wp2_with fail
          go_loopw [6] (fun i wr => ∃ k : Nat, k ≤ X.length ∧ i = .int .i64 k ∧ Below w1.heap.size w1 wr) (fun i _ => X.length - (intOf i).toNat)
          case atStart => exact ⟨0, Nat.zero_le _, rfl, hb2⟩
          case round =>
            obtain ⟨l, hll, rfl, hb3⟩ := hrel
            by_cases hlt3 : l < X.length
            · have hcx : wr.cell? ⟨g, i, none⟩ = some (.int .i64 (X.getD i 0)) := (hb3.cell (p := ⟨g, i, none⟩) hg1).trans (HC.out i hlt)
              have hcy : wr.cell? ⟨g, j, none⟩ = some (.int .i64 (X.getD j 0)) := (hb3.cell (p := ⟨g, j, none⟩) hg1).trans (HC.out j hlt2)
              have hcz : wr.cell? ⟨g, l, none⟩ = some (.int .i64 (X.getD l 0)) := (hb3.cell (p := ⟨g, l, none⟩) hg1).trans (HC.out l hlt3)
              generalize X.getD i 0 = x at *
              generalize X.getD j 0 = y at *
              generalize X.getD l 0 = z at *
              cases hco : (coordB x && coordB y && coordB z)
              · have H := Lib.hid hco
                clear hco
                go_wp2_with fail
                go_quiet ((go_at_call 23; exact quiet_left (mayclamp_no _ _ _ _ H.out)))
                have hbA : Below w1.heap.size w1 (wr.drewN nq) := below_drewN hb3 _
                have ax : (wr.drewN nq).cell? ⟨g, i, none⟩ = some (.int .i64 x) := hcx
                have ay : (wr.drewN nq).cell? ⟨g, j, none⟩ = some (.int .i64 y) := hcy
                have az : (wr.drewN nq).cell? ⟨g, l, none⟩ = some (.int .i64 z) := hcz
                generalize wr.drewN nq = wa at *
                have hgw : g < wa.heap.size := Nat.lt_of_lt_of_le hg1 hbA.size
                go_wp2_with fail
                go_region_held3 (fun w' => w'.cell? ⟨g, i, none⟩ = some (.int .i64 x) ∧ w'.cell? ⟨g, j, none⟩ = some (.int .i64 y) ∧ w'.cell? ⟨g, l, none⟩ = some (.int .i64 z)) (go_keep) ((go_at_call 24; refine (clamp_no x y z _ H.out).mono ?_; rintro e w2 ⟨rfl, hB⟩; have qx : w2.cell? ⟨g, i, none⟩ = some (.int .i64 x) := (hB.cell (p := ⟨g, i, none⟩) (by simpa using hgw)).trans (by simpa using ax); have qy : w2.cell? ⟨g, j, none⟩ = some (.int .i64 y) := (hB.cell (p := ⟨g, j, none⟩) (by simpa using hgw)).trans (by simpa using ay); have qz : w2.cell? ⟨g, l, none⟩ = some (.int .i64 z) := (hB.cell (p := ⟨g, l, none⟩) (by simpa using hgw)).trans (by simpa using az); have hbb : Below w1.heap.size w1 w2 := (hbA.drew).trans (hB.mono hbA.size)))
                clear hB ax ay az hcx hcy hcz
                go_wp2_with (go_at_call 16; refine (told_no _ _).mono ?_; rintro e w' ⟨rfl, rfl⟩)
                go_roundw
                case rel => exact ⟨l + 1, by omega, by go_num, hbb⟩
                case measure => simp [intOf]; omega
              · have H := Lib.hid hco
                clear hco
                go_wp2_with fail
                go_quiet ((go_at_call 23; exact quiet_left (mayclamp_yes _ _ _ _ H.out)))
                have hbA : Below w1.heap.size w1 (wr.drewN nq) := below_drewN hb3 _
                have ax : (wr.drewN nq).cell? ⟨g, i, none⟩ = some (.int .i64 x) := hcx
                have ay : (wr.drewN nq).cell? ⟨g, j, none⟩ = some (.int .i64 y) := hcy
                have az : (wr.drewN nq).cell? ⟨g, l, none⟩ = some (.int .i64 z) := hcz
                generalize wr.drewN nq = wa at *
                have hgw : g < wa.heap.size := Nat.lt_of_lt_of_le hg1 hbA.size
                go_wp2_with fail
                go_region_held3 (fun w' => w'.cell? ⟨g, i, none⟩ = some (.int .i64 x) ∧ w'.cell? ⟨g, j, none⟩ = some (.int .i64 y) ∧ w'.cell? ⟨g, l, none⟩ = some (.int .i64 z)) (go_keep) ((go_at_call 24; refine (clamp_yes x y z _ H.out).mono ?_; rintro e w2 ⟨rfl, hB⟩; have qx : w2.cell? ⟨g, i, none⟩ = some (.int .i64 x) := (hB.cell (p := ⟨g, i, none⟩) (by simpa using hgw)).trans (by simpa using ax); have qy : w2.cell? ⟨g, j, none⟩ = some (.int .i64 y) := (hB.cell (p := ⟨g, j, none⟩) (by simpa using hgw)).trans (by simpa using ay); have qz : w2.cell? ⟨g, l, none⟩ = some (.int .i64 z) := (hB.cell (p := ⟨g, l, none⟩) (by simpa using hgw)).trans (by simpa using az); have hbb : Below w1.heap.size w1 w2 := (hbA.drew).trans (hB.mono hbA.size)))
                clear hB ax ay az hcx hcy hcz
                go_wp2_with fail
                go_quiet ((go_at_call 25; exact quiet_left (refclamp_any _ _ _ _)))
                go_wp2_with (go_at_call 16; refine (told_yes _ _).mono ?_; rintro e w' ⟨rfl, rfl⟩)
                go_roundw
                case rel => exact ⟨l + 1, by omega, by go_num, below_drewN hbb _⟩
                case measure => simp [intOf]; omega
            · go_wp2_with fail
              go_roundw
              case rel => exact ⟨j + 1, by omega, by go_num, hb3⟩
              case measure => simp [intOf]; omega
        · go_wp2_with fail
          go_roundw
          case rel => exact ⟨i + 1, by omega, by go_num, hb2⟩
          case measure => simp [intOf]; omega
    · go_wp2_with fail
      refine (wakes_any _).mono ?_
      rintro e w9 ⟨rfl, h9⟩
      go_wp2_with fail
      go_ret
      exact ⟨rfl, (HB.out).trans ((hb.mono (HB.out).size).trans (h9.mono (Nat.le_trans (HB.out).size hb.size)))⟩
end Go.Proofs.Ytladhdpmphmbpaa
