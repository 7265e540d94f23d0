/- Joined: D22. -/
import Derived.Test.YtdpopdlifcjdeaaDoorYD13
import Derived.Test.YtdpopdlifcjdeaaDoorYD21

/- Hold: mathematics of HoldFull. -/
namespace Go.Proofs.YtdpopdlifcjdeaaDoor
open Go.RowKit Go.Lib
set_option linter.unusedVariables false

def oF (z : Int) : OpD := (⟨z, 0, [z - 1, 0], 1, z, 0, 0, 0, ⟨#[107]⟩, 0, 0⟩, z)
def hsF (k : Nat) : List OpD := (List.range k).map fun (j : Nat) => oF ((j : Int) + 2)
def oF1 : OpD := (⟨1, 0, [0, 0], 1, 1, 0, 0, 0, ⟨#[107]⟩, 0, 0⟩, 1)
theorem hsF_len (k : Nat) : (hsF k).length = k := by simp [hsF]
theorem hsF_at {k j : Nat} {x : OpD} (h : (hsF k)[j]? = some x) : x = oF ((j : Int) + 2) := by
  unfold hsF at h
  rw [List.getElem?_map] at h
  by_cases hj : j < k
  · rw [List.getElem?_range hj] at h
    simpa using h.symm
  · rw [List.getElem?_eq_none (by simpa using hj)] at h
    cases h
theorem hsF_next (k : Nat) : (hsF k).take k ++ oF ((k : Int) + 2) :: (hsF k).drop k = hsF (k + 1) := by
  rw [List.take_of_length_le (by rw [hsF_len]; exact Nat.le_refl _), List.drop_of_length_le (by rw [hsF_len]; exact Nat.le_refl _)]
  unfold hsF
  rw [List.range_succ, List.map_append]
  rfl
theorem hsF_pos (k : Nat) : PosIs (hsF k) (oF ((k : Int) + 2)) k := by
  refine ⟨by rw [hsF_len]; exact Nat.le_refl _, fun j x hj hx => ?_, fun j x hj hx => ?_⟩
  · rw [hsF_at hx, cmpO_lt]
    left
    show (j : Int) + 2 < (k : Int) + 2
    omega
  · have := (List.getElem?_eq_some_iff.1 hx).1
    rw [hsF_len] at this
    omega
theorem hsF_held : ∀ k : Nat, k < 17 → heldB [0, 0] (hsF k) = true := by decide +kernel
theorem oF_fits : ∀ k : Nat, k < 18 → fitsB [0, 0] (oF ((k : Int) + 2)) = true := by decide +kernel
theorem oF_known : ∀ k : Nat, k < 17 → knownB [0, 0] (hsF k) (oF ((k : Int) + 2)) = false := by decide +kernel
theorem oF_known' : knownB [0, 0] (hsF 16) (oF (17 + 2)) = false := by decide +kernel
theorem oF_ready : ∀ k : Nat, k < 18 → readyB [0, 0] (oF ((k : Int) + 2)) = false := by decide +kernel
theorem oF_room : ∀ k : Nat, k < 16 → (decide (16 ≤ (hsF k).length) || stampB (hsF k) (oF ((k : Int) + 2))) = false := by decide +kernel
theorem o1_fits : fitsB [0, 0] oF1 = true := by decide +kernel
theorem o1_known : knownB [0, 0] (hsF 16) oF1 = false := by decide +kernel
theorem o1_ready : readyB [0, 0] oF1 = true := by decide +kernel
theorem o1_free1 : (freeG (hsF 16) (hsF 16).length (setV [0, 0] oF1) [oF1]).1 = [17, 0] := by decide +kernel
theorem o1_free2 : (freeG (hsF 16) (hsF 16).length (setV [0, 0] oF1) [oF1]).2.length = 17 := by decide +kernel
theorem o1_above : (aboveL [17, 0] (hsF 16)).length = 0 := by decide +kernel
end Go.Proofs.YtdpopdlifcjdeaaDoor
