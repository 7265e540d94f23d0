/- Rows of numbers as bytes. -/
import Derived.Test.YtabbbpmhmlapgaaDoorE5
namespace Go.Proofs.YtabbbpmhmlapgaaDoor
open Go.RowKit Go.Lib
set_option linter.unusedVariables false

def numsOK (l : List Int) : Bool := l.all numB && decide (l.length ≤ 1024)

theorem encL_take {l : List Int} {k : Nat} (h : k < l.length) : enc l.length ++ encs (l.take (k + 1)) = enc l.length ++ encs (l.take k) ++ enc (l.getD k 0).toNat := by
  rw [take_getD l k h, encs_snoc, List.append_assoc]
theorem encs_take_len {l : List Int} (k : Nat) (h : (l.take k).all numB = true) (hl : l.length ≤ 1024) : (enc l.length ++ encs (l.take k)).length ≤ 9225 := by
  have h1 := encs_len (l.take k) (fun z hz => (List.all_eq_true.1 h) z hz)
  have h2 := enc_len9 (n := l.length) (by omega)
  rw [List.length_append]
  rw [List.length_take] at h1
  omega

def NoPost (w : World) (e : Ending) (w' : World) : Prop := e = .returned (.tuple #[.slice none 0 0, .int .i64 1]) ∧ Below w.heap.size w w'

def NumsPost (w : World) (l : List Int) (e : Ending) (w' : World) : Prop := if numsOK l then BytesPost w (encL l) e w' else NoPost w e w'
theorem numsPost_no {w w' : World} {l : List Int} {e : Ending} (h : numsOK l = false) (hp : NoPost w e w') : NumsPost w l e w' := by unfold NumsPost; rw [h]; exact hp
theorem numsPost_yes {w w' : World} {l : List Int} {e : Ending} (h : numsOK l = true) (hp : BytesPost w (encL l) e w') : NumsPost w l e w' := by unfold NumsPost; rw [h]; exact hp

set_option maxHeartbeats 2000000 in
theorem nums_any (a : Option Addr) (l : List Int) (cap : Nat) (w : World) (hr : RowK .i64 w a l) (hl : l.length ≤ 140737488355328) :
    Calls Tryd.prog 54 #[.slice a l.length cap] w (NumsPost w l) := by
  by_cases h1024 : l.length ≤ 1024
  · have hz : ¬ (1024 : Int) < (l.length : Int) := by omega
    have HR := Lib.hid hr
    have H2 := Lib.hid (appendNum_any w.heap.size (.slice none 0 0) [] l.length w (OwnK.nil _ _ _ _) (Nat.le_refl _) (by omega) (by have := enc_len9 (n := l.length) (by omega); simp; omega))
    clear hr
    go_enter Tryd.func54, Tryd.ntmps54
    go_wp2_with fail
    refine (H2.out).mono ?_
    rintro e w1 ⟨v1, rfl, ho, hb⟩
    rw [List.nil_append] at ho
    have HO1 : Hid (OwnK .u8 5 w1 w.heap.size v1 (enc l.length ++ encs (l.take 0)) ∧ Below w.heap.size w w1) := ⟨by simpa [encs] using ho, hb⟩
    clear ho hb H2
    go_wp2
    go_loopg [4, 15] l.length (fun g1 v i wr => ∃ k : Nat, i = .int .i64 k ∧ k ≤ l.length ∧ l.length - k ≤ g1 ∧ Hid ((l.take k).all numB = true) ∧ Hid (OwnK .u8 5 wr w.heap.size v (enc l.length ++ encs (l.take k)) ∧ Below w.heap.size w wr))
    case atStart => exact ⟨0, rfl, Nat.zero_le _, by omega, rfl, HO1⟩
    case round =>
      obtain ⟨k, rfl, hk, hg1, HALL, HI⟩ := hrel
      have hsz := HI.out.2.size
      by_cases hlt : k < l.length
      · have hltz : (k : Int) < (l.length : Int) := by omega
        obtain ⟨b, off, rfl, hc0⟩ := HR.out k hlt
        have hbl := World.block_lt_of_cell? _ _ hc0
        have hc : wr.cell? ⟨b, off + k, none⟩ = some (.int .i64 (l.getD k 0)) := (HI.out.2.cell (p := ⟨b, off + k, none⟩) hbl).trans hc0
        have HN := Lib.hid (fun W => isNum_any (l.getD k 0) W)
        clear hc0
        cases hb : numB (l.getD k 0)
        · have HE : Hid (numsOK l = false) := by show numsOK l = false; unfold numsOK; rw [numsB_no l k hlt hb]; rfl
          rw [hb] at HN
          clear hb
          generalize l.getD k 0 = z at *
          go_wp2_with fail
          refine (HN.out _).mono ?_
          rintro e w' ⟨rfl, rfl⟩
          go_wp2
          go_ret2
          exact numsPost_no HE.out ⟨rfl, HI.out.2⟩
        · have hb2 : 0 ≤ l.getD k 0 ∧ l.getD k 0 ≤ 4611686018427387904 := by simpa [numB] using hb
          obtain ⟨m, hm⟩ : ∃ m : Nat, l.getD k 0 = (m : Int) := ⟨(l.getD k 0).toNat, by omega⟩
          have HALL2 : Hid ((l.take (k + 1)).all numB = true) := by show _ = true; rw [numsB_take l k hlt, HALL.out, hb]; rfl
          have hT := encL_take hlt
          rw [hm, Int.toNat_natCast] at hT
          have H3 := Lib.hid (appendNum_any w.heap.size u4 (enc l.length ++ encs (l.take k)) m wr HI.out.1 (by omega) (by omega) (by rw [← hT]; have := encs_take_len (k + 1) HALL2.out h1024; omega))
          rw [← hT] at H3
          rw [hb] at HN
          rw [hm] at hc HN
          clear hb hb2 hm hT
          go_wp2_with fail
          refine (HN.out _).mono ?_
          rintro e w' ⟨rfl, rfl⟩
          go_wp2_with fail
          refine (H3.out).mono ?_
          rintro e w2 ⟨v2, rfl, ho2, hb2⟩
          have HI2 : Hid (OwnK .u8 5 w2 w.heap.size v2 (enc l.length ++ encs (l.take (k + 1))) ∧ Below w.heap.size w w2) := ⟨ho2, HI.out.2.trans hb2⟩
          clear ho2 hb2 H3
          go_wp2
          go_roundg (l.length - (k + 1))
          case measure => omega
          case rel => exact ⟨k + 1, by go_num, by omega, by omega, HALL2, HI2⟩
      · have hltz : ¬ (k : Int) < (l.length : Int) := by omega
        have HE : Hid (numsOK l = true ∧ BytesPost w (encL l) (.returned (.tuple #[u4, .int .i64 0])) wr) := by
          have h1 := HALL.out
          have h2 := HI.out.1
          rw [List.take_of_length_le (by omega)] at h1 h2
          exact ⟨by unfold numsOK; rw [h1, decide_eq_true h1024]; rfl, u4, rfl, h2, HI.out.2⟩
        go_wp2
        go_ret2
        exact numsPost_yes HE.out.1 HE.out.2
  · have hz : (1024 : Int) < (l.length : Int) := by omega
    have HE : Hid (numsOK l = false) := by show _ = false; unfold numsOK; rw [decide_eq_false h1024, Bool.and_false]
    clear hr
    go_enter Tryd.func54, Tryd.ntmps54
    go_wp2
    go_ret2
    exact numsPost_no HE.out ⟨rfl, Below.refl _ _⟩

end Go.Proofs.YtabbbpmhmlapgaaDoor
