/- The walk of FixedProducts. -/
import Derived.Test.YtladhdpmphmbpaaJ
namespace Go.Proofs.Ytladhdpmphmbpaa
open Go.RowKit
set_option linter.unusedVariables false

set_option maxRecDepth 100000 in
set_option maxHeartbeats 8000000 in
theorem products_walk (a : Option Addr) (zs : List Int) (cap : Nat) (w : World) (hrow : RowIs w a zs) :
    Calls Try.prog 4 #[.slice a zs.length cap] w fun e w' => e = .returned (.bool true) ∧ Below w.heap.size w w' := by
  have HA := Lib.hid (all_any a zs cap w hrow)
  clear hrow
  obtain ⟨d, hd⟩ : ∃ d : Nat, (zs.length : Int) % 3 = (d : Int) := ⟨zs.length % 3, by omega⟩
  have hd2 : d ≤ 2 := by omega
  have HD := Lib.hid hd
  clear hd
  go_enter Try.func4, Try.ntmps4
  go_wp2_with fail
  refine (HA.out).mono ?_
  rintro e w1 ⟨g, cp, k, hk12, hk, rfl, hcells, hg, hg1, hb1⟩
  have hl := xsOf_length zs k hk
  have hl22 : (xsOf zs k).length ≤ 22 := by omega
  generalize xsOf zs k = X at *
  have HC := Lib.hid hcells
  have HB := Lib.hid hb1
  clear hl hcells hb1 hk hk12 HA
  go_wp2_with fail
  go_loopw [4] (fun i wr => ∃ k : Nat, k ≤ X.length ∧ i = .int .i64 k ∧ Below w1.heap.size w1 wr) (fun i _ => X.length - (intOf i).toNat)
  case atStart => exact ⟨0, Nat.zero_le _, rfl, Below.refl _ _⟩
  case round =>
    obtain ⟨i, hi, rfl, hb⟩ := hrel
    by_cases hlt : i < X.length
    · go_wp2_with fail
      go_loopw [5] (fun i wr => ∃ k : Nat, k ≤ X.length ∧ i = .int .i64 k ∧ Below w1.heap.size w1 wr) (fun i _ => X.length - (intOf i).toNat)
      case atStart => exact ⟨0, Nat.zero_le _, rfl, hb⟩
      case round =>
        obtain ⟨j, hj, rfl, hb2⟩ := hrel
        by_cases hlt2 : j < X.length
        · go_wp2_with fail
          go_loopw [6] (fun i wr => ∃ k : Nat, k ≤ X.length + 2 ∧ i = .int .i64 k ∧ Below w1.heap.size w1 wr) (fun i _ => X.length + 2 - (intOf i).toNat)
          case atStart => exact ⟨0, Nat.zero_le _, rfl, hb2⟩
          case round =>
            obtain ⟨l, hll, rfl, hb3⟩ := hrel
            have hcx : wr.cell? ⟨g, i, none⟩ = some (.int .i64 (X.getD i 0)) := (hb3.cell (p := ⟨g, i, none⟩) hg1).trans (HC.out i hlt)
            have hcy : wr.cell? ⟨g, j, none⟩ = some (.int .i64 (X.getD j 0)) := (hb3.cell (p := ⟨g, j, none⟩) hg1).trans (HC.out j hlt2)
            generalize X.getD i 0 = x at *
            generalize X.getD j 0 = y at *
            by_cases hlt3 : l < X.length
            · have hcz : wr.cell? ⟨g, l, none⟩ = some (.int .i64 (X.getD l 0)) := (hb3.cell (p := ⟨g, l, none⟩) hg1).trans (HC.out l hlt3)
              generalize X.getD l 0 = z at *
              cases h1 : coordB x
              · have HN := Lib.hid (show (coordB x && coordB y && coordB z && decide (0 < z)) = false by rw [h1]; rfl)
                have H1 := Lib.hid h1
                clear h1
                go_wp2_with (go_at_call 11; first | ((with_reducible refine (coord_no _ _ H1.out).mono ?_); rintro e w' ⟨rfl, rfl⟩))
                have hgw : g < wr.heap.size := Nat.lt_of_lt_of_le hg1 hb3.size
                go_region_held3 (fun w' => w'.cell? ⟨g, i, none⟩ = some (.int .i64 x) ∧ w'.cell? ⟨g, j, none⟩ = some (.int .i64 y) ∧ w'.cell? ⟨g, l, none⟩ = some (.int .i64 z)) (go_keep) ((go_at_call 20; refine (muldiv_no x y z _ HN.out).mono ?_; rintro e w2 ⟨rfl, hB⟩; have qx : w2.cell? ⟨g, i, none⟩ = some (.int .i64 x) := (hB.cell (p := ⟨g, i, none⟩) (by simpa using hgw)).trans (by simpa using hcx); have qy : w2.cell? ⟨g, j, none⟩ = some (.int .i64 y) := (hB.cell (p := ⟨g, j, none⟩) (by simpa using hgw)).trans (by simpa using hcy); have qz : w2.cell? ⟨g, l, none⟩ = some (.int .i64 z) := (hB.cell (p := ⟨g, l, none⟩) (by simpa using hgw)).trans (by simpa using hcz); have hbb : Below w1.heap.size w1 w2 := (hb3.drew).trans (hB.mono hb3.size)))
                clear hB hcx hcy hcz
                have hdd := HD.out
                go_wp2_with (go_at_call 16; ((with_reducible refine (told_no _ _).mono ?_); rintro e w' ⟨rfl, rfl⟩))
                go_roundw
                case rel => exact ⟨l + 1 + d, by omega, by go_num, hbb⟩
                case measure => simp [intOf]; omega
              · cases h2 : coordB y
                · have HN := Lib.hid (show (coordB x && coordB y && coordB z && decide (0 < z)) = false by rw [h1, h2]; rfl)
                  have H1 := Lib.hid h1
                  clear h1
                  have H2 := Lib.hid h2
                  clear h2
                  go_wp2_with (go_at_call 11; first | ((with_reducible refine (coord_yes _ _ H1.out).mono ?_); rintro e w' ⟨rfl, rfl⟩) | ((with_reducible refine (coord_no _ _ H2.out).mono ?_); rintro e w' ⟨rfl, rfl⟩))
                  have hgw : g < wr.heap.size := Nat.lt_of_lt_of_le hg1 hb3.size
                  go_region_held3 (fun w' => w'.cell? ⟨g, i, none⟩ = some (.int .i64 x) ∧ w'.cell? ⟨g, j, none⟩ = some (.int .i64 y) ∧ w'.cell? ⟨g, l, none⟩ = some (.int .i64 z)) (go_keep) ((go_at_call 20; refine (muldiv_no x y z _ HN.out).mono ?_; rintro e w2 ⟨rfl, hB⟩; have qx : w2.cell? ⟨g, i, none⟩ = some (.int .i64 x) := (hB.cell (p := ⟨g, i, none⟩) (by simpa using hgw)).trans (by simpa using hcx); have qy : w2.cell? ⟨g, j, none⟩ = some (.int .i64 y) := (hB.cell (p := ⟨g, j, none⟩) (by simpa using hgw)).trans (by simpa using hcy); have qz : w2.cell? ⟨g, l, none⟩ = some (.int .i64 z) := (hB.cell (p := ⟨g, l, none⟩) (by simpa using hgw)).trans (by simpa using hcz); have hbb : Below w1.heap.size w1 w2 := (hb3.drew).trans (hB.mono hb3.size)))
                  clear hB hcx hcy hcz
                  have hdd := HD.out
                  go_wp2_with (go_at_call 16; ((with_reducible refine (told_no _ _).mono ?_); rintro e w' ⟨rfl, rfl⟩))
                  go_roundw
                  case rel => exact ⟨l + 1 + d, by omega, by go_num, hbb⟩
                  case measure => simp [intOf]; omega
                · cases h3 : coordB z
                  · have HN := Lib.hid (show (coordB x && coordB y && coordB z && decide (0 < z)) = false by rw [h1, h2, h3]; rfl)
                    have H1 := Lib.hid h1
                    clear h1
                    have H2 := Lib.hid h2
                    clear h2
                    have H3 := Lib.hid h3
                    clear h3
                    go_wp2_with (go_at_call 11; first | ((with_reducible refine (coord_yes _ _ H1.out).mono ?_); rintro e w' ⟨rfl, rfl⟩) | ((with_reducible refine (coord_yes _ _ H2.out).mono ?_); rintro e w' ⟨rfl, rfl⟩) | ((with_reducible refine (coord_no _ _ H3.out).mono ?_); rintro e w' ⟨rfl, rfl⟩))
                    have hgw : g < wr.heap.size := Nat.lt_of_lt_of_le hg1 hb3.size
                    go_region_held3 (fun w' => w'.cell? ⟨g, i, none⟩ = some (.int .i64 x) ∧ w'.cell? ⟨g, j, none⟩ = some (.int .i64 y) ∧ w'.cell? ⟨g, l, none⟩ = some (.int .i64 z)) (go_keep) ((go_at_call 20; refine (muldiv_no x y z _ HN.out).mono ?_; rintro e w2 ⟨rfl, hB⟩; have qx : w2.cell? ⟨g, i, none⟩ = some (.int .i64 x) := (hB.cell (p := ⟨g, i, none⟩) (by simpa using hgw)).trans (by simpa using hcx); have qy : w2.cell? ⟨g, j, none⟩ = some (.int .i64 y) := (hB.cell (p := ⟨g, j, none⟩) (by simpa using hgw)).trans (by simpa using hcy); have qz : w2.cell? ⟨g, l, none⟩ = some (.int .i64 z) := (hB.cell (p := ⟨g, l, none⟩) (by simpa using hgw)).trans (by simpa using hcz); have hbb : Below w1.heap.size w1 w2 := (hb3.drew).trans (hB.mono hb3.size)))
                    clear hB hcx hcy hcz
                    have hdd := HD.out
                    go_wp2_with (go_at_call 16; ((with_reducible refine (told_no _ _).mono ?_); rintro e w' ⟨rfl, rfl⟩))
                    go_roundw
                    case rel => exact ⟨l + 1 + d, by omega, by go_num, hbb⟩
                    case measure => simp [intOf]; omega
                  · by_cases hz0 : 0 < z
                    · have H1 := Lib.hid h1
                      clear h1
                      have H2 := Lib.hid h2
                      clear h2
                      have H3 := Lib.hid h3
                      clear h3
                      go_wp2_with (go_at_call 11; first | ((with_reducible refine (coord_yes _ _ H1.out).mono ?_); rintro e w' ⟨rfl, rfl⟩) | ((with_reducible refine (coord_yes _ _ H2.out).mono ?_); rintro e w' ⟨rfl, rfl⟩) | ((with_reducible refine (coord_yes _ _ H3.out).mono ?_); rintro e w' ⟨rfl, rfl⟩))
                      have hgw : g < wr.heap.size := Nat.lt_of_lt_of_le hg1 hb3.size
                      go_region_held3 (fun w' => w'.cell? ⟨g, i, none⟩ = some (.int .i64 x) ∧ w'.cell? ⟨g, j, none⟩ = some (.int .i64 y) ∧ w'.cell? ⟨g, l, none⟩ = some (.int .i64 z)) (go_keep) ((go_at_call 20; refine (muldiv_yes x y z _ H1.out H2.out H3.out hz0).mono ?_; rintro e w2 ⟨rfl, hB⟩; have qx : w2.cell? ⟨g, i, none⟩ = some (.int .i64 x) := (hB.cell (p := ⟨g, i, none⟩) (by simpa using hgw)).trans (by simpa using hcx); have qy : w2.cell? ⟨g, j, none⟩ = some (.int .i64 y) := (hB.cell (p := ⟨g, j, none⟩) (by simpa using hgw)).trans (by simpa using hcy); have qz : w2.cell? ⟨g, l, none⟩ = some (.int .i64 z) := (hB.cell (p := ⟨g, l, none⟩) (by simpa using hgw)).trans (by simpa using hcz); have hbb : Below w1.heap.size w1 w2 := (hb3.drew).trans (hB.mono hb3.size)))
                      clear hB hcx hcy hcz
                      go_wp2_with fail
                      go_quiet ((go_at_call 21; exact quiet_left (refmuldiv_any _ _ _ _ H1.out H2.out H3.out hz0)))
                      have hdd := HD.out
                      go_wp2_with (go_at_call 16; ((with_reducible refine (told_yes _ _).mono ?_); rintro e w' ⟨rfl, rfl⟩))
                      go_roundw
                      case rel => exact ⟨l + 1 + d, by omega, by go_num, below_drewN hbb _⟩
                      case measure => simp [intOf]; omega
                    · have HN := Lib.hid (show (coordB x && coordB y && coordB z && decide (0 < z)) = false by rw [h1, h2, h3]; simp; omega)
                      have hzd : decide (0 < z) = false := by simp; omega
                      clear hz0
                      have H1 := Lib.hid h1
                      clear h1
                      have H2 := Lib.hid h2
                      clear h2
                      have H3 := Lib.hid h3
                      clear h3
                      go_wp2_with (go_at_call 11; first | ((with_reducible refine (coord_yes _ _ H1.out).mono ?_); rintro e w' ⟨rfl, rfl⟩) | ((with_reducible refine (coord_yes _ _ H2.out).mono ?_); rintro e w' ⟨rfl, rfl⟩) | ((with_reducible refine (coord_yes _ _ H3.out).mono ?_); rintro e w' ⟨rfl, rfl⟩))
                      have hgw : g < wr.heap.size := Nat.lt_of_lt_of_le hg1 hb3.size
                      go_region_held3 (fun w' => w'.cell? ⟨g, i, none⟩ = some (.int .i64 x) ∧ w'.cell? ⟨g, j, none⟩ = some (.int .i64 y) ∧ w'.cell? ⟨g, l, none⟩ = some (.int .i64 z)) (go_keep) ((go_at_call 20; refine (muldiv_no x y z _ HN.out).mono ?_; rintro e w2 ⟨rfl, hB⟩; have qx : w2.cell? ⟨g, i, none⟩ = some (.int .i64 x) := (hB.cell (p := ⟨g, i, none⟩) (by simpa using hgw)).trans (by simpa using hcx); have qy : w2.cell? ⟨g, j, none⟩ = some (.int .i64 y) := (hB.cell (p := ⟨g, j, none⟩) (by simpa using hgw)).trans (by simpa using hcy); have qz : w2.cell? ⟨g, l, none⟩ = some (.int .i64 z) := (hB.cell (p := ⟨g, l, none⟩) (by simpa using hgw)).trans (by simpa using hcz); have hbb : Below w1.heap.size w1 w2 := (hb3.drew).trans (hB.mono hb3.size)))
                      clear hB hcx hcy hcz
                      have hdd := HD.out
                      go_wp2_with (go_at_call 16; ((with_reducible refine (told_no _ _).mono ?_); rintro e w' ⟨rfl, rfl⟩))
                      go_roundw
                      case rel => exact ⟨l + 1 + d, by omega, by go_num, hbb⟩
                      case measure => simp [intOf]; omega
            · cases h1 : coordB x
              · have HN := Lib.hid (show (coordB x && coordB y) = false by rw [h1]; rfl)
                have H1 := Lib.hid h1
                clear h1
                go_wp2_with (go_at_call 11; first | ((with_reducible refine (coord_no _ _ H1.out).mono ?_); rintro e w' ⟨rfl, rfl⟩))
                have hgw : g < wr.heap.size := Nat.lt_of_lt_of_le hg1 hb3.size
                go_region_held3 (fun w' => w'.cell? ⟨g, i, none⟩ = some (.int .i64 x) ∧ w'.cell? ⟨g, j, none⟩ = some (.int .i64 y)) (go_keep) ((go_at_call 22; refine (mul_no x y _ HN.out).mono ?_; rintro e w2 ⟨rfl, hB⟩; have qx : w2.cell? ⟨g, i, none⟩ = some (.int .i64 x) := (hB.cell (p := ⟨g, i, none⟩) (by simpa using hgw)).trans (by simpa using hcx); have qy : w2.cell? ⟨g, j, none⟩ = some (.int .i64 y) := (hB.cell (p := ⟨g, j, none⟩) (by simpa using hgw)).trans (by simpa using hcy); have hbb : Below w1.heap.size w1 w2 := (hb3.drew).trans (hB.mono hb3.size)))
                clear hB hcx hcy
                go_wp2_with (go_at_call 16; ((with_reducible refine (told_no _ _).mono ?_); rintro e w' ⟨rfl, rfl⟩))
                go_roundw
                case rel => exact ⟨j + 1, by omega, by go_num, hbb⟩
                case measure => simp [intOf]; omega
              · cases h2 : coordB y
                · have HN := Lib.hid (show (coordB x && coordB y) = false by rw [h1, h2]; rfl)
                  have H1 := Lib.hid h1
                  clear h1
                  have H2 := Lib.hid h2
                  clear h2
                  go_wp2_with (go_at_call 11; first | ((with_reducible refine (coord_yes _ _ H1.out).mono ?_); rintro e w' ⟨rfl, rfl⟩) | ((with_reducible refine (coord_no _ _ H2.out).mono ?_); rintro e w' ⟨rfl, rfl⟩))
                  have hgw : g < wr.heap.size := Nat.lt_of_lt_of_le hg1 hb3.size
                  go_region_held3 (fun w' => w'.cell? ⟨g, i, none⟩ = some (.int .i64 x) ∧ w'.cell? ⟨g, j, none⟩ = some (.int .i64 y)) (go_keep) ((go_at_call 22; refine (mul_no x y _ HN.out).mono ?_; rintro e w2 ⟨rfl, hB⟩; have qx : w2.cell? ⟨g, i, none⟩ = some (.int .i64 x) := (hB.cell (p := ⟨g, i, none⟩) (by simpa using hgw)).trans (by simpa using hcx); have qy : w2.cell? ⟨g, j, none⟩ = some (.int .i64 y) := (hB.cell (p := ⟨g, j, none⟩) (by simpa using hgw)).trans (by simpa using hcy); have hbb : Below w1.heap.size w1 w2 := (hb3.drew).trans (hB.mono hb3.size)))
                  clear hB hcx hcy
                  go_wp2_with (go_at_call 16; ((with_reducible refine (told_no _ _).mono ?_); rintro e w' ⟨rfl, rfl⟩))
                  go_roundw
                  case rel => exact ⟨j + 1, by omega, by go_num, hbb⟩
                  case measure => simp [intOf]; omega
                · have H1 := Lib.hid h1
                  clear h1
                  have H2 := Lib.hid h2
                  clear h2
                  go_wp2_with (go_at_call 11; first | ((with_reducible refine (coord_yes _ _ H1.out).mono ?_); rintro e w' ⟨rfl, rfl⟩) | ((with_reducible refine (coord_yes _ _ H2.out).mono ?_); rintro e w' ⟨rfl, rfl⟩))
                  have hgw : g < wr.heap.size := Nat.lt_of_lt_of_le hg1 hb3.size
                  go_region_held3 (fun w' => w'.cell? ⟨g, i, none⟩ = some (.int .i64 x) ∧ w'.cell? ⟨g, j, none⟩ = some (.int .i64 y)) (go_keep) ((go_at_call 22; refine (mul_yes x y _ H1.out H2.out).mono ?_; rintro e w2 ⟨rfl, hB⟩; have qx : w2.cell? ⟨g, i, none⟩ = some (.int .i64 x) := (hB.cell (p := ⟨g, i, none⟩) (by simpa using hgw)).trans (by simpa using hcx); have qy : w2.cell? ⟨g, j, none⟩ = some (.int .i64 y) := (hB.cell (p := ⟨g, j, none⟩) (by simpa using hgw)).trans (by simpa using hcy); have hbb : Below w1.heap.size w1 w2 := (hb3.drew).trans (hB.mono hb3.size)))
                  clear hB hcx hcy
                  go_wp2_with fail
                  go_quiet ((go_at_call 21; exact quiet_left (refmuldiv_any _ _ _ _ H1.out H2.out coord64 (by decide))))
                  go_wp2_with (go_at_call 16; ((with_reducible refine (told_yes _ _).mono ?_); rintro e w' ⟨rfl, rfl⟩))
                  go_roundw
                  case rel => exact ⟨j + 1, by omega, by go_num, below_drewN hbb _⟩
                  case measure => simp [intOf]; omega
        · go_wp2_with fail
          go_roundw
          case rel => exact ⟨i + 1, by omega, by go_num, hb2⟩
          case measure => simp [intOf]; omega
    · go_wp2_with fail
      refine (wakes_any _).mono ?_
      rintro e w9 ⟨rfl, h9⟩
      go_wp2_with fail
      go_ret
      exact ⟨rfl, (HB.out).trans ((hb.mono (HB.out).size).trans (h9.mono (Nat.le_trans (HB.out).size hb.size)))⟩
end Go.Proofs.Ytladhdpmphmbpaa
