/- Vectors: which rows are one; the small functions, of the program and of the page. -/
import Derived.Test.YtabbbpmhmlapgaaDoorE8
import Derived.Deep.DrawnRows
import Derived.Deep.CutRange
namespace Go.Proofs.YtabbbpmhmlapgaaDoor.Hv
open Go.RowKit Go.Lib
set_option linter.unusedVariables false

/-- how many operations of one replica may be known -/
def tmB (z : Int) : Bool := decide (0 ≤ z ∧ z ≤ 1099511627776)
/-- a vector -/
def vecB (l : List Int) : Bool := l.all tmB && decide (1 ≤ l.length ∧ l.length ≤ 16)
def pairB (l m : List Int) : Bool := vecB l && vecB m && decide (l.length = m.length)
/-- whether something is refused -/
def errC (b : Bool) : Int := if b then 0 else 1
theorem errC_t {b : Bool} (h : b = true) : errC b = 0 := by rw [h]; rfl
theorem errC_f {b : Bool} (h : b = false) : errC b = 1 := by rw [h]; rfl

theorem getD_in {l : List Int} {k : Nat} (h : k < l.length) : l.getD k 0 ∈ l := by
  rw [List.getD_eq_getElem?_getD, List.getElem?_eq_getElem h]
  exact List.getElem_mem h
theorem vecB_iff (l : List Int) : vecB l = true ↔ (∀ i, i < l.length → 0 ≤ l.getD i 0 ∧ l.getD i 0 ≤ 1099511627776) ∧ 1 ≤ l.length ∧ l.length ≤ 16 := by
  unfold vecB
  simp only [Bool.and_eq_true, decide_eq_true_eq, List.all_eq_true, tmB]
  constructor
  · rintro ⟨h1, h2⟩
    exact ⟨fun i hi => h1 _ (getD_in hi), h2⟩
  · rintro ⟨h1, h2⟩
    refine ⟨fun z hz => ?_, h2⟩
    obtain ⟨i, hi, rfl⟩ := List.getElem_of_mem hz
    have := h1 i hi
    rw [List.getD_eq_getElem?_getD, List.getElem?_eq_getElem hi] at this
    exact this
theorem vecB_no {l : List Int} {k : Nat} (hk : k < l.length) (h : ¬ (0 ≤ l.getD k 0 ∧ l.getD k 0 ≤ 1099511627776)) : vecB l = false := by
  rw [← Bool.not_eq_true, vecB_iff]
  exact fun h' => h (h'.1 k hk)
theorem vecB_len {l : List Int} (h : vecB l = true) : 1 ≤ l.length ∧ l.length ≤ 16 := ((vecB_iff l).1 h).2
theorem vecB_at {l : List Int} (h : vecB l = true) {k : Nat} (hk : k < l.length) : 0 ≤ l.getD k 0 ∧ l.getD k 0 ≤ 1099511627776 := ((vecB_iff l).1 h).1 k hk
theorem pairB_iff (l m : List Int) : pairB l m = true ↔ vecB l = true ∧ vecB m = true ∧ l.length = m.length := by
  unfold pairB
  simp only [Bool.and_eq_true, decide_eq_true_eq, and_assoc]

set_option maxHeartbeats 400000 in
theorem copyI_any (a : Option Addr) (zs : List Int) (n c : Nat) (w : World) (ha : RowK .i64 w a zs) (hn : n = zs.length) (hl : zs.length ≤ 2000) :
    Calls Tryd.prog 17 #[.slice a n c] w (fun e w' => ∃ v, e = .returned v ∧ OwnK .i64 3 w' w.heap.size v zs ∧ Below w.heap.size w w') := by
  subst hn
  have HA := Lib.hid ha
  clear ha
  go_enter Tryd.func17, Tryd.ntmps17
  go_wp2
  go_loopg [3, 4] zs.length (fun g1 v i wr => ∃ k : Nat, i = .int .i64 k ∧ k ≤ zs.length ∧ zs.length - k ≤ g1 ∧ Hid (OwnK .i64 3 wr w.heap.size v (zs.take k) ∧ Below w.heap.size w wr))
  case atStart => exact ⟨0, rfl, Nat.zero_le _, by omega, ⟨OwnK.nil _ _ _ _, Below.refl _ _⟩⟩
  case round =>
    obtain ⟨k, rfl, hk, hg, HI⟩ := hrel
    by_cases hlt : k < zs.length
    · obtain ⟨b1, o1, rfl, hc1⟩ := HA.out k hlt
      have hbl := World.block_lt_of_cell? _ _ hc1
      have hsz := HI.out.2.size
      have hd1 : wr.cell? ⟨b1, o1 + k, none⟩ = some (.int .i64 (zs.getD k 0)) := (HI.out.2.cell (p := ⟨b1, o1 + k, none⟩) hbl).trans hc1
      have hltz : (k : Int) < (zs.length : Int) := by omega
      have HT := Lib.hid (take_getD zs k hlt)
      clear hc1 hbl
      generalize zs.getD k 0 = z at *
      go_wp2_with (at_builtin
                   refine wpI_one rfl _ _ rfl w.heap.size wr u3 (zs.take k) z rfl HI.out.1 rfl (by rw [List.length_take]; omega) (by omega) ?_
                   intro v1 w2 hp1
                   have HI2 : Hid (OwnK .i64 3 w2 w.heap.size v1 (zs.take (k + 1)) ∧ Below w.heap.size w w2) := ⟨by rw [HT.out]; exact hp1.own, hp1.bel _ _ HI.out.2 (Nat.le_refl _) (by omega)⟩
                   clear hp1 HI HT hd1)
      go_roundg (zs.length - (k + 1))
      case measure => omega
      case rel => exact ⟨k + 1, by go_num, by omega, by omega, HI2⟩
    · have hltz : ¬ (k : Int) < (zs.length : Int) := by omega
      have HF : Hid (OwnK .i64 3 wr w.heap.size u3 zs ∧ Below w.heap.size w wr) := by
        have h1 := HI.out.1
        rw [List.take_of_length_le (by omega)] at h1
        exact ⟨h1, HI.out.2⟩
      clear HI
      go_wp2
      go_ret
      exact ⟨u3, rfl, HF.out.1, HF.out.2⟩

set_option maxHeartbeats 1000000 in
theorem check_any (a : Option Addr) (l : List Int) (n c : Nat) (w : World) (hr : RowK .i64 w a l) (hn : n = l.length) (hl : l.length ≤ 140737488355328) :
    Calls Tryd.prog 28 #[.slice a n c] w fun e w' => e = .returned (.int .i64 (errC (vecB l))) ∧ w = w' := by
  have HR := Lib.hid hr
  have HN := Lib.hid hn
  clear hr
  by_cases h0 : n < 1
  · have t1 : decide ((n : Int) < 1) = true := decide_eq_true (by omega)
    have t2 : (n : Int) < 1 := by omega
    have HV : Hid (errC (vecB l) = 1) := errC_f (by rw [← Bool.not_eq_true, vecB_iff]; omega)
    clear HN hn
    go_enter Tryd.func28, Tryd.ntmps28
    go_wp2
    go_ret
    exact ⟨ret_int HV.out.symm, rfl⟩
  · have t1 : decide ((n : Int) < 1) = false := decide_eq_false (by omega)
    have t2 : ¬ (n : Int) < 1 := by omega
    by_cases h16 : 16 < n
    · have t3 : decide ((16 : Int) < (n : Int)) = true := decide_eq_true (by omega)
      have t4 : (16 : Int) < (n : Int) := by omega
      have HV : Hid (errC (vecB l) = 1) := errC_f (by rw [← Bool.not_eq_true, vecB_iff]; omega)
      clear HN hn
      go_enter Tryd.func28, Tryd.ntmps28
      go_wp2
      go_ret
      exact ⟨ret_int HV.out.symm, rfl⟩
    · have t3 : decide ((16 : Int) < (n : Int)) = false := decide_eq_false (by omega)
      have t4 : ¬ (16 : Int) < (n : Int) := by omega
      clear hn
      go_enter Tryd.func28, Tryd.ntmps28
      go_wp2
      go_loop [15] (fun i => ∃ k : Nat, k ≤ n ∧ i = .int .i64 k ∧ Hid (∀ j, j < k → 0 ≤ l.getD j 0 ∧ l.getD j 0 ≤ 1099511627776)) (fun i => n - (intOf i).toNat)
      case atStart => exact ⟨0, Nat.zero_le _, rfl, fun j hj => by omega⟩
      case round =>
        obtain ⟨k, hk, rfl, HO⟩ := hrel
        by_cases hlt : k < n
        · obtain ⟨b, off, rfl, hc⟩ := HR.out k (by have := HN.out; omega)
          have hltz : (k : Int) < (n : Int) := by omega
          by_cases hz0 : l.getD k 0 < 0
          · have HV : Hid (errC (vecB l) = 1) := errC_f (vecB_no (k := k) (by have := HN.out; omega) (by omega))
            generalize l.getD k 0 = z at *
            have t5 : decide (z < 0) = true := decide_eq_true hz0
            go_wp2
            go_ret
            exact ⟨ret_int HV.out.symm, rfl⟩
          · by_cases hz1 : 1099511627776 < l.getD k 0
            · have HV : Hid (errC (vecB l) = 1) := errC_f (vecB_no (k := k) (by have := HN.out; omega) (by omega))
              generalize l.getD k 0 = z at *
              have t5 : decide (z < 0) = false := decide_eq_false hz0
              have t6 : decide (1099511627776 < z) = true := decide_eq_true hz1
              go_wp2
              go_ret
              exact ⟨ret_int HV.out.symm, rfl⟩
            · have HO2 : Hid (∀ j, j < k + 1 → 0 ≤ l.getD j 0 ∧ l.getD j 0 ≤ 1099511627776) := fun j hj => by
                by_cases e : j = k
                · subst e; omega
                · exact HO.out j (by omega)
              clear HO
              generalize l.getD k 0 = z at *
              have t5 : decide (z < 0) = false := decide_eq_false hz0
              have t6 : decide (1099511627776 < z) = false := decide_eq_false hz1
              go_wp2
              go_round
              case rel => exact ⟨k + 1, by omega, by go_num, HO2⟩
              case measure => simp [intOf]; omega
        · have hltz : ¬ (k : Int) < (n : Int) := by omega
          have HV : Hid (errC (vecB l) = 0) := errC_t (by
            rw [vecB_iff]
            have := HN.out
            exact ⟨fun j hj => HO.out j (by omega), by omega, by omega⟩)
          clear HO
          go_wp2
          go_ret
          exact ⟨ret_int HV.out.symm, rfl⟩

end Go.Proofs.YtabbbpmhmlapgaaDoor.Hv
