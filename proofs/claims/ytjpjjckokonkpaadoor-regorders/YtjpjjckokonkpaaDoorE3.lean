/- Which number bytes begin with: the program's TakeNum. -/
import Derived.Test.YtjpjjckokonkpaaDoorE2
import Derived.Lib.EndianBits
namespace Go.Proofs.YtjpjjckokonkpaaDoor
open Go.RowKit Go.Lib
set_option linter.unusedVariables false

def TakePost (bs : List Int) (w : World) (e : Ending) (w' : World) : Prop := e = .returned (.tuple #[.int .i64 (tkN bs).1, .int .i64 ((tkN bs).2.1 : Int), .int .i64 (tkN bs).2.2]) ∧ w = w'
def TakeJ (a : Option Addr) (bs : List Int) (cap : Nat) (w : World) (a' : Act) (w' : World) : Prop :=
  ∃ (i : Nat) (acc z : Int) (u1 u4 u5 u6 u7 u8 u9 u10 u11 u12 u13 u14 u15 u16 u17 u18 u19 u20 u21 u22 u23 u24 u25 u26 u27 u28 u29 u30 u31 u32 u33 u34 u35 u36 u37 u38 u39 u40 u41 u42 u43 u44 u45 u46 u47 u48 u49 : Value), a' = { tmps := #[.slice a bs.length cap, u1, .int .i64 acc, .int .i64 z, u4, u5, u6, u7, u8, u9, u10, u11, u12, u13, u14, u15, u16, u17, u18, u19, u20, u21, u22, u23, u24, u25, u26, u27, u28, u29, u30, u31, u32, u33, u34, u35, u36, u37, u38, u39, u40, u41, u42, u43, u44, u45, u46, u47, u48, u49], defers := [] } ∧ z = (i : Int) ∧ i ≤ 8 ∧ 0 ≤ acc ∧ acc < 128 ^ i ∧ i ≤ bs.length ∧ tk i acc (bs.drop i) = tkN bs ∧ w = w'

theorem tk_at (bs : List Int) (i : Nat) (acc : Int) (h : i < bs.length) : tk i acc (bs.drop i) = if 128 ≤ bs.getD i 0 then (if i = 8 then (0, 0, 1) else tk (i + 1) (acc + bs.getD i 0 % 128 * 128 ^ i) (bs.drop (i + 1))) else if (bs.getD i 0 = 0 ∧ 0 < i) ∨ 4611686018427387904 < acc + bs.getD i 0 % 128 * 128 ^ i then (0, 0, 1) else (acc + bs.getD i 0 % 128 * 128 ^ i, i + 1, 0) := by
  rw [drop_getD bs i h, tk]

theorem tk_form {bs : List Int} {w : World} {i : Nat} {s c g : Int} {R : Int × Nat × Int} (h : tkN bs = if 128 ≤ c then R else if (c = 0 ∧ 0 < i) ∨ 4611686018427387904 < s then (0, 0, 1) else (s, i + 1, 0)) (hl : c < 128) (hg : g = c) (hn : needB g ((i : Int) + 1) = true ∨ numB s = false) (h0 : 0 ≤ s) :
    TakePost bs w (.returned (.tuple #[.int .i64 0, .int .i64 0, .int .i64 1])) w := by
  rw [if_neg (by omega), if_pos ?_] at h
  · exact ⟨by rw [h]; rfl, rfl⟩
  · rcases hn with hn | hn
    · simp only [needB, decide_eq_true_eq] at hn
      exact .inl ⟨by omega, by omega⟩
    · have := numB_no hn
      exact .inr (by omega)
theorem tk_ok {bs : List Int} {w : World} {i : Nat} {s c g : Int} {R : Int × Nat × Int} (h : tkN bs = if 128 ≤ c then R else if (c = 0 ∧ 0 < i) ∨ 4611686018427387904 < s then (0, 0, 1) else (s, i + 1, 0)) (hl : c < 128) (hg : g = c) (hn : needB g ((i : Int) + 1) = false) (hb : numB s = true) :
    TakePost bs w (.returned (.tuple #[.int .i64 s, .int .i64 ((i : Int) + 1), .int .i64 0])) w := by
  simp only [needB, decide_eq_false_iff_not] at hn
  simp only [numB, decide_eq_true_eq] at hb
  rw [if_neg (by omega), if_neg (by omega)] at h
  exact ⟨by rw [h]; rfl, rfl⟩
theorem tk_more {bs : List Int} {i : Nat} {c : Int} {R S : Int × Nat × Int} (h : tkN bs = if 128 ≤ c then (if i = 8 then (0, 0, 1) else R) else S) (hl : ¬ c < 128) (h8 : ¬ i = 8) : R = tkN bs := by
  rw [if_pos (by omega), if_neg h8] at h
  exact h.symm
theorem tk_nine {bs : List Int} {w : World} {c : Int} {R S : Int × Nat × Int} (h : tkN bs = if 128 ≤ c then (if 8 = 8 then (0, 0, 1) else R) else S) (hl : ¬ c < 128) : TakePost bs w (.returned (.tuple #[.int .i64 0, .int .i64 0, .int .i64 1])) w := by
  rw [if_pos (by omega), if_pos rfl] at h
  exact ⟨by rw [h]; rfl, rfl⟩
theorem or_low (i : Nat) (acc p : Int) (ha0 : 0 ≤ acc) (ha1 : acc < 2 ^ i) (hp0 : 0 ≤ p) (hp : p % 2 ^ i = 0) (h : acc + p ≤ 9223372036854775807) : bits .or .i64 acc p = acc + p :=
  bits_join_low .i64 63 (by decide) wraps_i64 i acc p ha0 ha1 (by omega) hp0 hp (by omega)
theorem pow_128 (i : Nat) : (128 : Int) ^ i = 2 ^ (7 * i) := by rw [Int.pow_mul]; rfl
theorem or_at {i : Nat} {acc p g : Int} (hp : p = g * 128 ^ i) (hg0 : 0 ≤ g) (ha0 : 0 ≤ acc) (ha1 : acc < 128 ^ i) (h : acc + p ≤ 9223372036854775807) : bits .or .i64 acc p = acc + p := by
  refine or_low (7 * i) acc p ha0 (by rw [← pow_128]; exact ha1) (by rw [hp]; exact Int.mul_nonneg hg0 (Int.le_of_lt (pow128 i))) ?_ h
  rw [hp, ← pow_128, Int.mul_emod_left]
theorem acc_lt {i : Nat} {acc p g : Int} (hp : p = g * 128 ^ i) (hg1 : g < 128) (ha1 : acc < 128 ^ i) : acc + p < 128 ^ (i + 1) := by
  have h1 : g * 128 ^ i ≤ 127 * 128 ^ i := Int.mul_le_mul_of_nonneg_right (by omega) (Int.le_of_lt (pow128 i))
  rw [hp, Int.pow_succ]
  omega

end Go.Proofs.YtjpjjckokonkpaaDoor
