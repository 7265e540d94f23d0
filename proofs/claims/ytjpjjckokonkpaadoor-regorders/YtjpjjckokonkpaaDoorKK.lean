/- The small functions of keys. -/
import Derived.Test.YtjpjjckokonkpaaDoorM2
namespace Go.Proofs.YtjpjjckokonkpaaDoor.Ky
open Go.RowKit Go.Lib

theorem byte_wrap (s : ByteArray) (i : Nat) (h : i < s.size) : wrap64 ((s[i]'h).toNat : Int) = ((s[i]'h).toNat : Int) := by
  have := (s[i]'h).toNat_lt
  exact IntWalk.wrap64_in _ (by omega)
theorem emp_iff (s : ByteArray) : s.toList = [] ↔ strN s = [] := by
  rw [ByteArray.toList_eq]; unfold strN
  constructor
  · intro h; rw [h]; rfl
  · intro h; exact List.map_eq_nil_iff.1 h
theorem em_strN (s : ByteArray) : (s.toList == (ByteArray.mk #[]).toList) = decide (strN s = []) := same_strN s ⟨#[]⟩
theorem at_strN (s : ByteArray) (i : Nat) (h : i < s.size) (d : Int) : ((s[i]'h).toNat : Int) = (strN s).getD i d := by
  unfold strN
  rw [List.getD_eq_getElem?_getD, List.getElem?_map]
  rw [List.getElem?_eq_getElem (by simpa using h)]
  rfl
theorem far_strN (s : ByteArray) (i : Nat) (h : ¬ i < s.size) (d : Int) : (strN s).getD i d = d := by
  rw [List.getD_eq_getElem?_getD, List.getElem?_eq_none (by rw [strN_len]; omega)]; rfl

def errK (s : ByteArray) : Int := if keyB (strN s) = true then 0 else 1
theorem keyB_size (s : ByteArray) : keyB (strN s) = (decide (strN s ≠ []) && decide (s.size ≤ 64) && decide ((strN s).getD (s.size - 1) 0 ≠ 0)) := by
  unfold keyB
  rw [endB_last, strN_len]
  by_cases h : strN s = []
  · simp [h]
  · simp only [h, ne_eq, not_false_iff, decide_true, Bool.true_and]
    rw [Bool.and_comm]


theorem emp_yes {s : ByteArray} (h : strN s = []) : s.toList.isEmpty = true ∧ s.toList = [] := by
  have := (emp_iff s).2 h
  exact ⟨by rw [this]; rfl, this⟩
theorem emp_no {s : ByteArray} (h : ¬ strN s = []) : s.toList.isEmpty = false ∧ ¬ s.toList = [] := by
  have : ¬ s.toList = [] := fun e => h ((emp_iff s).1 e)
  refine ⟨?_, this⟩
  cases hl : s.toList with
  | nil => exact absurd hl this
  | cons => rfl
theorem size_pos {s : ByteArray} (h : ¬ strN s = []) : 0 < s.size := by
  rw [← strN_len]
  exact List.length_pos_iff.2 h

theorem keyB_true {s : ByteArray} (h0 : ¬ strN s = []) (h1 : s.size ≤ 64) (h2 : ¬ (strN s).getD (s.size - 1) 0 = 0) : keyB (strN s) = true := by
  rw [keyB_size, decide_eq_true h0, decide_eq_true h1, decide_eq_true h2]; rfl
def modN (z : Int) (n : Nat) : Nat := (z % 18446744073709551616).toNat % n
theorem modN_lt (z : Int) {n : Nat} (h : 0 < n) : modN z n < n := Nat.mod_lt _ h
set_option maxHeartbeats 400000 in
theorem withinN_any (z : Int) (n : Nat) (w : World) (h0 : 0 < n) (h1 : n ≤ 1000) : Calls Tryd.prog 23 #[.int .i64 z, .int .i64 (n : Int)] w fun e w' => e = .returned (.int .i64 (modN z n : Nat)) ∧ w = w' := by
  go_enter Tryd.func23, Tryd.ntmps23
  go_wp2
  go_ret
  refine ⟨ret_int ?_, rfl⟩
  unfold modN
  rw [IntKind.wrap_u64, Int.tmod_eq_emod_of_nonneg (by omega), Int.natCast_emod, Int.toNat_of_nonneg (by omega)]
  have h2 : 0 ≤ z % 18446744073709551616 % (n : Int) := Int.emod_nonneg _ (by omega)
  have h3 : z % 18446744073709551616 % (n : Int) < (n : Int) := Int.emod_lt_of_pos _ (by omega)
  generalize z % 18446744073709551616 % (n : Int) = y at *
  exact IntWalk.wrap64_in y (by omega)
end Go.Proofs.YtjpjjckokonkpaaDoor.Ky
