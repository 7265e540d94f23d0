/- Which number bytes begin with: the page's TakeNum; takeCount; texts. -/
import Derived.Test.YtknfpildkiekcaaDoorE3
namespace Go.Proofs.YtknfpildkiekcaaDoor
open Go.RowKit Go.Lib
set_option linter.unusedVariables false

theorem or_at64 {i : Nat} {acc p g : Int} (hp : p = g * 128 ^ i) (hg0 : 0 ≤ g) (ha0 : 0 ≤ acc) (ha1 : acc < 128 ^ i) (h : acc + p ≤ 9223372036854775807) : bits .or .u64 acc p = acc + p := by
  have hp0 : 0 ≤ p := by rw [hp]; exact Int.mul_nonneg hg0 (Int.le_of_lt (pow128 i))
  refine bits_join_low .u64 64 (by decide) wraps_u64 (7 * i) acc p ha0 (by rw [← pow_128]; exact ha1) (by omega) hp0 ?_ (by omega)
  rw [hp, ← pow_128, Int.mul_emod_left]
theorem and127b (x : Int) (h0 : 0 ≤ x) (h1 : x < 256) : bits .and .u8 x 127 = x % 128 := bits_mask .u8 8 (by decide) wraps_u8 7 (by decide) x h0 (by omega)

theorem tk_bad {bs : List Int} {w : World} {i : Nat} {s c : Int} {R : Int × Nat × Int} (h : tkN bs = if 128 ≤ c then R else if (c = 0 ∧ 0 < i) ∨ 4611686018427387904 < s then (0, 0, 1) else (s, i + 1, 0)) (hl : ¬ 128 ≤ c) (hn : (c = 0 ∧ 0 < i) ∨ 4611686018427387904 < s) :
    TakePost bs w (.returned (.tuple #[.int .i64 0, .int .i64 0, .int .i64 1])) w := by
  rw [if_neg hl, if_pos hn] at h
  exact ⟨by rw [h]; rfl, rfl⟩
theorem tk_good {bs : List Int} {w : World} {i : Nat} {s c : Int} {R : Int × Nat × Int} (h : tkN bs = if 128 ≤ c then R else if (c = 0 ∧ 0 < i) ∨ 4611686018427387904 < s then (0, 0, 1) else (s, i + 1, 0)) (hl : ¬ 128 ≤ c) (hn : ¬ ((c = 0 ∧ 0 < i) ∨ 4611686018427387904 < s)) :
    TakePost bs w (.returned (.tuple #[.int .i64 s, .int .i64 ((i : Int) + 1), .int .i64 0])) w := by
  rw [if_neg hl, if_neg hn] at h
  exact ⟨by rw [h]; rfl, rfl⟩

set_option maxHeartbeats 2000000 in
set_option maxRecDepth 100000 in
theorem refTakeNum_any (a : Option Addr) (bs : List Int) (cap : Nat) (w : World) (hr : RowK .u8 w a bs) (hb : IsB bs) :
    Calls Tryd.prog 73 #[.slice a bs.length cap] w (TakePost bs w) := by
  have HR := Lib.hid hr
  have HB := Lib.hid hb
  clear hr hb
  go_enter Tryd.func73, Tryd.ntmps73
  go_wp2
  go_loopg [5, 6] 9 (fun g1 vn vi wr => ∃ (i : Nat) (acc z : Int), vn = .int .u64 acc ∧ vi = .int .i64 z ∧ z = (i : Int) ∧ i ≤ 8 ∧ 0 ≤ acc ∧ acc < 128 ^ i ∧ i ≤ bs.length ∧ 9 - i ≤ g1 ∧ tk i acc (bs.drop i) = tkN bs ∧ w = wr)
  case atStart => exact ⟨0, 0, _, rfl, rfl, rfl, by omega, by omega, by simp, by omega, by omega, rfl, rfl⟩
  case round =>
    obtain ⟨i, acc, z, rfl, rfl, rfl, hi8, ha0, ha1, hil, hg1, hT, rfl⟩ := hrel
    by_cases hlt : i < bs.length
    · have hne : ¬ (bs.length : Int) ≤ (i : Int) := by omega
      have hltz : (i : Int) < (bs.length : Int) := by omega
      obtain ⟨b, off, rfl, hc⟩ := HR.out i hlt
      obtain ⟨c0, c1⟩ := HB.out.getD hlt
      have hst := tk_at bs i acc hlt
      rw [hT] at hst
      obtain ⟨c, hcc⟩ : ∃ c, c = bs.getD i 0 := ⟨_, rfl⟩
      rw [← hcc] at hc hst c0 c1
      clear hcc hT
      have hm1 := and127b c c0 c1
      obtain ⟨g, hg⟩ : ∃ g, g = c % 128 := ⟨_, rfl⟩
      have hgg0 : 0 ≤ g := by omega
      have hgg1 : g < 128 := by omega
      rw [← hg] at hst hm1
      clear hg
      obtain ⟨p, hp⟩ : ∃ p, p = g * 128 ^ i := ⟨_, rfl⟩
      rw [← hp] at hst
      have hp0 : 0 ≤ p := by rw [hp]; exact Int.mul_nonneg hgg0 (Int.le_of_lt (pow128 i))
      have hp1 : acc + p < 128 ^ (i + 1) := acc_lt hp hgg1 ha1
      have hp2 : (128 : Int) ^ (i + 1) ≤ 9223372036854775808 := pow128_lt (show i + 1 ≤ 9 by omega)
      have hp3 : acc + p ≤ 9223372036854775807 := by omega
      have hp4 := or_at64 hp hgg0 ha0 ha1 hp3
      have hw0 : g * 2 ^ (7 * i) = p := by rw [hp, Int.pow_mul]; rfl
      have hw1 : g * 2 ^ (7 * (i : Int)).toNat = p := by rw [← hw0]; congr 2
      have HP1 := Lib.hid hp1
      clear hp hp1 hp2 ha1
      have HST := Lib.hid hst
      clear hst
      by_cases hl : 128 ≤ c
      · by_cases h8 : i = 8
        · subst h8
          have HE := Lib.hid (tk_nine (w := w) HST.out (by omega))
          go_wp2
          go_ret3
          exact HE.out
        · have HE := Lib.hid (tk_more HST.out (by omega) h8)
          have hi9 : ¬ (i : Int) = 8 := by omega
          go_wp2
          go_roundg (9 - (i + 1))
          case measure => omega
          case rel => exact ⟨i + 1, _, _, rfl, by go_num, by omega, by omega, by omega, HP1.out, by omega, by omega, HE.out, rfl⟩
      · by_cases hz : c = 0
        · by_cases hi0 : 0 < i
          · have hiz : decide ((0 : Int) < (i : Int)) = true := decide_eq_true (by omega)
            have hiy : (0 : Int) < (i : Int) := by omega
            have HE := Lib.hid (tk_bad (w := w) HST.out hl (.inl ⟨hz, hi0⟩))
            subst hz
            go_wp2
            go_ret3
            exact HE.out
          · have hiz : decide ((0 : Int) < (i : Int)) = false := decide_eq_false (by omega)
            have hiy : ¬ (0 : Int) < (i : Int) := by omega
            by_cases hb : 4611686018427387904 < acc + p
            · have hbd : decide (4611686018427387904 < acc + p) = true := decide_eq_true hb
              have HE := Lib.hid (tk_bad (w := w) HST.out hl (.inr hb))
              subst hz
              go_wp2
              go_ret3
              exact HE.out
            · have hbd : decide (4611686018427387904 < acc + p) = false := decide_eq_false hb
              have HE := Lib.hid (tk_good (w := w) HST.out hl (by omega))
              subst hz
              go_wp2
              go_ret3
              exact HE.out
        · have hzd : (c == 0) = false := by simp [hz]
          by_cases hb : 4611686018427387904 < acc + p
          · have hbd : decide (4611686018427387904 < acc + p) = true := decide_eq_true hb
            have HE := Lib.hid (tk_bad (w := w) HST.out hl (.inr hb))
            go_wp2
            go_ret3
            exact HE.out
          · have hbd : decide (4611686018427387904 < acc + p) = false := decide_eq_false hb
            have HE := Lib.hid (tk_good (w := w) HST.out hl (by omega))
            go_wp2
            go_ret3
            exact HE.out
    · have hne : (bs.length : Int) ≤ (i : Int) := by omega
      have HE : Hid (TakePost bs w (.returned (.tuple #[.int .i64 0, .int .i64 0, .int .i64 7])) w) := by
        rw [List.drop_of_length_le (by omega), tk] at hT
        exact ⟨by rw [← hT]; rfl, rfl⟩
      go_wp2
      go_ret3
      exact HE.out
end Go.Proofs.YtknfpildkiekcaaDoor
