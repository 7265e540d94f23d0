/- One more, a row more, a text more: for the walk. The small functions. -/
import Derived.Test.YtjpjjckokonkpaaDoorV1
namespace Go.Proofs.YtjpjjckokonkpaaDoor
open Go.RowKit Go.Lib

theorem one_row (kd : IntKind) (e : TypeId) (W : World) (z : Int) : RowK kd (W.alloc (.cells #[.int kd z] e)) (some ⟨W.heap.size, 0, none⟩) [z] := by
  intro i hi
  simp only [List.length_cons, List.length_nil] at hi
  obtain rfl : i = 0 := by omega
  exact ⟨W.heap.size, 0, rfl, by simp⟩

theorem strCells_strN (s : ByteArray) : strCells s = (strN s).map (Value.int .u8) := by simp [strCells, strN]

theorem ret_int {k : IntKind} {a b : Int} (h : a = b) : Ending.returned (.int k a) = .returned (.int k b) := by rw [h]
theorem ret_bool {a b : Bool} (h : a = b) : Ending.returned (.bool a) = .returned (.bool b) := by rw [h]

theorem numB_no {z : Int} (h : numB z = false) : z < 0 ∨ 4611686018427387904 < z := by simp [numB] at h; omega

def needB (g k : Int) : Bool := decide (g = 0 ∧ 1 < k)
def modW (z : Int) : Int := z % 4611686018427387904
set_option maxHeartbeats 400000 in
theorem within_any (z : Int) (w : World) : Calls Tryd.prog 23 #[.int .i64 z, .int .i64 4611686018427387904] w fun e w' => e = .returned (.int .i64 (modW z)) ∧ w = w' := by
  go_enter Tryd.func23, Tryd.ntmps23
  go_wp2
  go_ret
  refine ⟨ret_int ?_, rfl⟩
  unfold modW
  rw [IntKind.wrap_u64, Int.tmod_eq_emod_of_nonneg (by omega)]
  have h : z % 18446744073709551616 % 4611686018427387904 = z % 4611686018427387904 := by omega
  rw [h]
  have h0 : 0 ≤ z % 4611686018427387904 := by omega
  have h1 : z % 4611686018427387904 < 4611686018427387904 := by omega
  generalize z % 4611686018427387904 = y at *
  exact IntWalk.wrap64_in y (by omega)
end Go.Proofs.YtjpjjckokonkpaaDoor
