/- The bytes of a place, and back: mathematics. -/
import Derived.Test.YtabbbpmhmlapgaaDoorK5
import Derived.Test.YtabbbpmhmlapgaaDoorS3
namespace Go.Proofs.YtabbbpmhmlapgaaDoor.St
open Go.RowKit Go.Lib
set_option linter.unusedVariables false

def encS (t r : Int) : List Int := enc t.toNat ++ enc r.toNat
/-- the place that bytes begin with: its two numbers, how many bytes, the error -/
def tkSt (bs : List Int) : Int × Int × Nat × Int :=
  if (tkN bs).2.2 ≠ 0 then (0, 0, 0, (tkN bs).2.2)
  else if (tkN (bs.drop (tkN bs).2.1)).2.2 ≠ 0 then (0, 0, 0, (tkN (bs.drop (tkN bs).2.1)).2.2)
  else if plB (tkN bs).1 (tkN (bs.drop (tkN bs).2.1)).1 then ((tkN bs).1, (tkN (bs.drop (tkN bs).2.1)).1, (tkN bs).2.1 + (tkN (bs.drop (tkN bs).2.1)).2.1, 0)
  else (0, 0, 0, 1)

theorem plB_num {t r : Int} (h : plB t r = true) : 0 ≤ t ∧ t ≤ 1099511627776 ∧ 0 ≤ r ∧ r < 16 := by
  simp [plB, stB, rtB] at h
  omega
theorem encS_isB (t r : Int) : IsB (encS t r) := (enc_isB _).app (enc_isB _)
theorem encS_encs (t r : Int) : encs [t, r] = encS t r := by simp [encs, encS]
theorem encS_len {t r : Int} (h : plB t r = true) : (encS t r).length ≤ 18 := by
  obtain ⟨h1, h2, h3, h4⟩ := plB_num h
  have a := enc_len9 (n := t.toNat) (by omega)
  have b := enc_len9 (n := r.toNat) (by omega)
  unfold encS
  rw [List.length_append]
  omega
theorem tkSt_enc {t r : Int} (h : plB t r = true) (x : List Int) : tkSt (encS t r ++ x) = (t, r, (encS t r).length, 0) := by
  obtain ⟨h1, h2, h3, h4⟩ := plB_num h
  have e1 : tkN (encS t r ++ x) = (t, (enc t.toNat).length, 0) := by
    unfold encS
    rw [List.append_assoc, tkN_enc (by omega)]
    congr 1
    omega
  have e2 : tkN ((encS t r ++ x).drop (enc t.toNat).length) = (r, (enc r.toNat).length, 0) := by
    unfold encS
    rw [List.append_assoc, List.drop_left, tkN_enc (by omega)]
    congr 1
    omega
  unfold tkSt
  rw [e1]
  simp only [ne_eq, not_true_eq_false, if_false]
  rw [e2]
  simp only [not_true_eq_false, if_false, h, if_true]
  unfold encS
  rw [List.length_append]
theorem tkSt_err {bs : List Int} (h : (tkN bs).2.2 ≠ 0) : tkSt bs = (0, 0, 0, (tkN bs).2.2) := by unfold tkSt; rw [if_pos h]
theorem tkSt_err2 {bs : List Int} (h : (tkN bs).2.2 = 0) (h2 : (tkN (bs.drop (tkN bs).2.1)).2.2 ≠ 0) : tkSt bs = (0, 0, 0, (tkN (bs.drop (tkN bs).2.1)).2.2) := by unfold tkSt; rw [if_neg (by simp [h]), if_pos h2]
theorem tkSt_no {bs : List Int} (h : (tkN bs).2.2 = 0) (h2 : (tkN (bs.drop (tkN bs).2.1)).2.2 = 0) (h3 : plB (tkN bs).1 (tkN (bs.drop (tkN bs).2.1)).1 = false) : tkSt bs = (0, 0, 0, 1) := by
  unfold tkSt; rw [if_neg (by simp [h]), if_neg (by simp [h2]), h3]; rfl
theorem tkSt_yes {bs : List Int} (h : (tkN bs).2.2 = 0) (h2 : (tkN (bs.drop (tkN bs).2.1)).2.2 = 0) (h3 : plB (tkN bs).1 (tkN (bs.drop (tkN bs).2.1)).1 = true) : tkSt bs = ((tkN bs).1, (tkN (bs.drop (tkN bs).2.1)).1, (tkN bs).2.1 + (tkN (bs.drop (tkN bs).2.1)).2.1, 0) := by
  unfold tkSt; rw [if_neg (by simp [h]), if_neg (by simp [h2]), h3]; rfl

theorem size3 (w : World) : (Go.sizeOf 3).run Tryd.prog w = .ok 1 w := by
  obtain ⟨i0, hi, hz0, hz1, hz2⟩ := info_parts Tryd.info3
  simp [Go.sizeOf, typeInfo, hi, hz1]
theorem sliceI_1 (w : World) (a : Option Addr) (len cap : Nat) (h1 : 1 ≤ len) :
    (Instr.slice 25 (.slice a len cap) (some (.int .i64 1)) none none).run Tryd.prog w = .ok (.slice (partA a 1 cap) (len - 1) (cap - 1)) w := by
  have ht' : Tryd.prog.underlying 25 = some (.slice (Tryd.prog.elem 25)) := by simp [Program.elem, Tryd.underlying25]
  have he : Tryd.prog.elem 25 = 3 := by simp [Program.elem, Tryd.underlying25]
  rw [run_slice_l w 25 _ _ _ ht' .i64 _ (by omega) (by omega), he, size3]
  simp [Result.andThen, sliced, partA]
end Go.Proofs.YtabbbpmhmlapgaaDoor.St
