/- Registers: the page's Merge. -/
import Derived.Test.YtjpjjckokonkpaaDoorA8
namespace Go.Proofs.YtjpjjckokonkpaaDoor
open Go.RowKit Go.Lib
set_option linter.unusedVariables false

theorem setG_lens (x : RgD) (X : List RgD) : (setG x false X).length ≤ X.length + 1 := setG_len x false X
def foldG (X Y : List RgD) : List RgD := Y.foldl (fun l x => setG x false l) X
theorem foldG_len : ∀ (Y X : List RgD), (foldG X Y).length ≤ X.length + Y.length
  | [], X => by simp [foldG]
  | y :: Y, X => by
    have h1 := foldG_len Y (setG y false X)
    have h2 := setG_lens y X
    show (foldG (setG y false X) Y).length ≤ _
    rw [List.length_cons]; omega
theorem foldG_room {X Y : List RgD} {B : Nat} (k : Nat) (h : (X.length + Y.length + 2) * 32 ≤ B) : ((foldG X (Y.take k)).length + 2) * 32 ≤ B := by
  have h1 := foldG_len (Y.take k) X
  rw [List.length_take] at h1
  exact Nat.le_trans (Nat.mul_le_mul_right 32 (Nat.add_le_add_right (Nat.le_trans h1 (Nat.add_le_add_left (Nat.min_le_right _ _) _)) 2)) h
theorem foldG_push {X Y : List RgD} {k : Nat} {y : RgD} (h : Y[k]? = some y) : foldG X (Y.take (k + 1)) = setG y false (foldG X (Y.take k)) := by
  unfold foldG
  rw [take_moreG h, List.foldl_append]
  rfl
theorem foldG_merge {X Y : List RgD} (h1 : regsB X = true) (h2 : regsB Y = true) : foldG X Y = mergeG X Y := merge_fold (regs_asc h1) (regs_asc h2)
set_option maxHeartbeats 4000000 in
set_option maxRecDepth 100000 in
theorem refMerge_any (a : Option Addr) (X : List RgD) (n c : Nat) (b : Option Addr) (Y : List RgD) (m d : Nat) (w : World) (hx : RowG w a X) (hy : RowG w b Y) (hn : n = X.length) (hm : m = Y.length) (hl : (X.length + Y.length + 2) * 32 ≤ 140737488355328) :
    Calls Tryd.prog 22 #[.slice a n c, .slice b m d] w (RegsPost w (foldG X Y)) := by
  have mixed : Tryd.prog.follows .mixedOrders = true := by kernel_rfl
  have C := Lib.hid (copyRegs_any a X n c w hx hn (by omega))
  have HY := Lib.hid hy
  have HM := Lib.hid hm
  have HL := Lib.hid hl
  have hml : m ≤ 4398046511104 := by omega
  clear hx hy hn hm
  go_enter Tryd.func22, Tryd.ntmps22
  go_wp2_with fail
  refine (C.out).mono ?_
  rintro e w1 ⟨v1, rfl, ho, hb⟩
  have HO1 := Lib.hid ho
  have HB1 := Lib.hid hb
  clear ho hb C
  go_wp2
  go_loopg [5, 6] m (fun gg s5 s6 wr => ∃ k : Nat, s6 = .int .i64 k ∧ k ≤ m ∧ m - k ≤ gg ∧ Hid (OwnG wr w.heap.size s5 (foldG X (Y.take k))) ∧ Hid (Below w.heap.size w wr))
  case atStart => exact ⟨0, rfl, Nat.zero_le _, by omega, by rw [List.take_zero]; exact HO1, HB1⟩
  case round =>
    obtain ⟨k, rfl, hk, hgk, HO, HB⟩ := hrel
    clear HO1 HB1
    by_cases hin : k < m
    · have hinz : (k : Int) < (m : Int) := by omega
      obtain ⟨y, hy⟩ : ∃ y, Y[k]? = some y := ⟨_, List.getElem?_eq_getElem (by rw [← HM.out]; exact hin)⟩
      have HYK := Lib.hid hy
      obtain ⟨bb, off, rfl, hat⟩ := (HY.out.below HB.out (Nat.le_refl _)) k y hy
      have HAT := Lib.hid hat
      clear hy hat
      obtain ⟨la, ln, lc, rfl, hln, hlc, hrow⟩ := HO.out.form
      have HROW := Lib.hid hrow
      have hle := foldG_room k HL.out
      have D := Lib.hid (fun W (hb : Below wr.heap.size wr W) => refSet_any la (foldG X (Y.take k)) ln lc y W (HROW.out.next hb) hln hle)
      have HK : Hid (∀ W, Below wr.heap.size wr W → W.cell? ⟨bb, off + k * 4, none⟩ = some (.int .i64 y.p) ∧ W.cell? ⟨bb, off + k * 4 + 1, none⟩ = some (.int .i64 y.v) ∧ W.cell? ⟨bb, off + k * 4 + 2, none⟩ = some (.int .i64 y.t) ∧ W.cell? ⟨bb, off + k * 4 + 3, none⟩ = some (.int .i64 y.r)) := fun W hb => ⟨(HAT.out.next hb).c0, (HAT.out.next hb).c1, (HAT.out.next hb).c2, (HAT.out.next hb).c3⟩
      obtain ⟨c0, c1, c2, c3⟩ := HAT.out
      have hd := HK.out wr.drew (Below.refl _ _).drew
      clear hln hlc hrow hle
      go_wp2_with fail
      go_region_held3 (fun W => W.cell? ⟨bb, off + k * 4, none⟩ = some (.int .i64 y.p) ∧ W.cell? ⟨bb, off + k * 4 + 1, none⟩ = some (.int .i64 y.v) ∧ W.cell? ⟨bb, off + k * 4 + 2, none⟩ = some (.int .i64 y.t) ∧ W.cell? ⟨bb, off + k * 4 + 3, none⟩ = some (.int .i64 y.r)) (with_reducible assumption) (first
        | (go_at_call 18
           (with_reducible refine (D.out _ (Below.refl _ _).drew).mono ?_)
           rintro e w9 ⟨v9, rfl, ho9, hb9⟩
           have HB9w : Hid (Below wr.heap.size wr w9) := (Below.refl _ _).drew.trans hb9
           have HB9 := Lib.hid (HB.out.trans (HB9w.out.mono HB.out.size))
           have HO9 : Hid (OwnG w9 w.heap.size v9 (setG y false (foldG X (Y.take k)))) := ho9.mono HB.out.size
           rw [← foldG_push HYK.out] at HO9
           have hS9 := HK.out w9 HB9w.out
           clear ho9 hb9))
      go_wp2_with fail
      go_roundg (m - (k + 1))
      case measure => omega
      case rel => exact ⟨k + 1, by go_num, by omega, by omega, HO9, HB9⟩
    · obtain rfl : k = m := by omega
      have hinz : ¬ (k : Int) < (k : Int) := by omega
      have HF : Hid (OwnG wr w.heap.size u5 (foldG X Y)) := by
        have h := HO.out
        rw [List.take_of_length_le (by have := HM.out; omega)] at h
        exact h
      go_wp2
      go_ret
      exact ⟨_, rfl, HF.out, HB.out⟩
end Go.Proofs.YtjpjjckokonkpaaDoor
