/- Joined: H1 H2 H5 H7 HX3 HX4 HX5. -/
import Derived.Test.YtdpopdlifcjdeaaDoorZA
import Derived.Deep.DrawnRows
import Derived.Deep.CutRange

/- Vectors: which rows are one; the small functions, of the program and of the page. -/
namespace Go.Proofs.YtdpopdlifcjdeaaDoor.Hv
open Go.RowKit Go.Lib
set_option linter.unusedVariables false

/-- how many operations of one replica may be known -/
def tmB (z : Int) : Bool := decide (0 ≤ z ∧ z ≤ 1099511627776)
/-- a vector -/
def vecB (l : List Int) : Bool := l.all tmB && decide (1 ≤ l.length ∧ l.length ≤ 16)
def pairB (l m : List Int) : Bool := vecB l && vecB m && decide (l.length = m.length)
/-- whether something is refused -/
def errC (b : Bool) : Int := if b then 0 else 1
theorem errC_t {b : Bool} (h : b = true) : errC b = 0 := by rw [h]; rfl
theorem errC_f {b : Bool} (h : b = false) : errC b = 1 := by rw [h]; rfl

theorem getD_in {l : List Int} {k : Nat} (h : k < l.length) : l.getD k 0 ∈ l := by
  rw [List.getD_eq_getElem?_getD, List.getElem?_eq_getElem h]
  exact List.getElem_mem h
theorem vecB_iff (l : List Int) : vecB l = true ↔ (∀ i, i < l.length → 0 ≤ l.getD i 0 ∧ l.getD i 0 ≤ 1099511627776) ∧ 1 ≤ l.length ∧ l.length ≤ 16 := by
  unfold vecB
  simp only [Bool.and_eq_true, decide_eq_true_eq, List.all_eq_true, tmB]
  constructor
  · rintro ⟨h1, h2⟩
    exact ⟨fun i hi => h1 _ (getD_in hi), h2⟩
  · rintro ⟨h1, h2⟩
    refine ⟨fun z hz => ?_, h2⟩
    obtain ⟨i, hi, rfl⟩ := List.getElem_of_mem hz
    have := h1 i hi
    rw [List.getD_eq_getElem?_getD, List.getElem?_eq_getElem hi] at this
    exact this
theorem vecB_no {l : List Int} {k : Nat} (hk : k < l.length) (h : ¬ (0 ≤ l.getD k 0 ∧ l.getD k 0 ≤ 1099511627776)) : vecB l = false := by
  rw [← Bool.not_eq_true, vecB_iff]
  exact fun h' => h (h'.1 k hk)
theorem vecB_len {l : List Int} (h : vecB l = true) : 1 ≤ l.length ∧ l.length ≤ 16 := ((vecB_iff l).1 h).2
theorem vecB_at {l : List Int} (h : vecB l = true) {k : Nat} (hk : k < l.length) : 0 ≤ l.getD k 0 ∧ l.getD k 0 ≤ 1099511627776 := ((vecB_iff l).1 h).1 k hk
theorem pairB_iff (l m : List Int) : pairB l m = true ↔ vecB l = true ∧ vecB m = true ∧ l.length = m.length := by
  unfold pairB
  simp only [Bool.and_eq_true, decide_eq_true_eq, and_assoc]

set_option maxHeartbeats 400000 in
theorem refNum_any (z : Int) (w : World) : Calls Tryd.prog 57 #[.int .i64 z, .int .i64 1099511627776] w fun e w' => e = .returned (.bool (tmB z)) ∧ w = w' := by
  by_cases g1 : 0 ≤ z
  · have hd : decide (0 ≤ z) = true := decide_eq_true g1
    by_cases g2 : z ≤ 1099511627776
    · have HC : Hid (tmB z = true) := by show _ = true; simp [tmB]; omega
      have hd2 : decide (z ≤ 1099511627776) = true := decide_eq_true g2
      go_enter Tryd.func57, Tryd.ntmps57
      go_wp2
      go_ret
      exact ⟨ret_bool HC.out.symm, rfl⟩
    · have HC : Hid (tmB z = false) := by show _ = false; simp [tmB]; omega
      have hd2 : decide (z ≤ 1099511627776) = false := decide_eq_false g2
      go_enter Tryd.func57, Tryd.ntmps57
      go_wp2
      go_ret
      exact ⟨ret_bool HC.out.symm, rfl⟩
  · have HC : Hid (tmB z = false) := by show _ = false; simp [tmB]; omega
    have hd : decide (0 ≤ z) = false := decide_eq_false g1
    go_enter Tryd.func57, Tryd.ntmps57
    go_wp2
    go_ret
    exact ⟨ret_bool HC.out.symm, rfl⟩

set_option maxHeartbeats 400000 in
theorem copyI_any (a : Option Addr) (zs : List Int) (n c : Nat) (w : World) (ha : RowK .i64 w a zs) (hn : n = zs.length) (hl : zs.length ≤ 2000) :
    Calls Tryd.prog 9 #[.slice a n c] w (fun e w' => ∃ v, e = .returned v ∧ OwnK .i64 3 w' w.heap.size v zs ∧ Below w.heap.size w w') := by
  subst hn
  have HA := Lib.hid ha
  clear ha
  go_enter Tryd.func9, Tryd.ntmps9
  go_wp2
  go_loopg [3, 4] zs.length (fun g1 v i wr => ∃ k : Nat, i = .int .i64 k ∧ k ≤ zs.length ∧ zs.length - k ≤ g1 ∧ Hid (OwnK .i64 3 wr w.heap.size v (zs.take k) ∧ Below w.heap.size w wr))
  case atStart => exact ⟨0, rfl, Nat.zero_le _, by omega, ⟨OwnK.nil _ _ _ _, Below.refl _ _⟩⟩
  case round =>
    obtain ⟨k, rfl, hk, hg, HI⟩ := hrel
    by_cases hlt : k < zs.length
    · obtain ⟨b1, o1, rfl, hc1⟩ := HA.out k hlt
      have hbl := World.block_lt_of_cell? _ _ hc1
      have hsz := HI.out.2.size
      have hd1 : wr.cell? ⟨b1, o1 + k, none⟩ = some (.int .i64 (zs.getD k 0)) := (HI.out.2.cell (p := ⟨b1, o1 + k, none⟩) hbl).trans hc1
      have hltz : (k : Int) < (zs.length : Int) := by omega
      have HT := Lib.hid (take_getD zs k hlt)
      clear hc1 hbl
      generalize zs.getD k 0 = z at *
      go_wp2_with (at_builtin
                   refine wpI_one rfl _ _ rfl w.heap.size wr u3 (zs.take k) z rfl HI.out.1 rfl (by rw [List.length_take]; omega) (by omega) ?_
                   intro v1 w2 hp1
                   have HI2 : Hid (OwnK .i64 3 w2 w.heap.size v1 (zs.take (k + 1)) ∧ Below w.heap.size w w2) := ⟨by rw [HT.out]; exact hp1.own, hp1.bel _ _ HI.out.2 (Nat.le_refl _) (by omega)⟩
                   clear hp1 HI HT hd1)
      go_roundg (zs.length - (k + 1))
      case measure => omega
      case rel => exact ⟨k + 1, by go_num, by omega, by omega, HI2⟩
    · have hltz : ¬ (k : Int) < (zs.length : Int) := by omega
      have HF : Hid (OwnK .i64 3 wr w.heap.size u3 zs ∧ Below w.heap.size w wr) := by
        have h1 := HI.out.1
        rw [List.take_of_length_le (by omega)] at h1
        exact ⟨h1, HI.out.2⟩
      clear HI
      go_wp2
      go_ret
      exact ⟨u3, rfl, HF.out.1, HF.out.2⟩

set_option maxHeartbeats 1000000 in
theorem check_any (a : Option Addr) (l : List Int) (n c : Nat) (w : World) (hr : RowK .i64 w a l) (hn : n = l.length) (hl : l.length ≤ 140737488355328) :
    Calls Tryd.prog 32 #[.slice a n c] w fun e w' => e = .returned (.int .i64 (errC (vecB l))) ∧ w = w' := by
  have HR := Lib.hid hr
  have HN := Lib.hid hn
  clear hr
  by_cases h0 : n < 1
  · have t1 : decide ((n : Int) < 1) = true := decide_eq_true (by omega)
    have t2 : (n : Int) < 1 := by omega
    have HV : Hid (errC (vecB l) = 1) := errC_f (by rw [← Bool.not_eq_true, vecB_iff]; omega)
    clear HN hn
    go_enter Tryd.func32, Tryd.ntmps32
    go_wp2
    go_ret
    exact ⟨ret_int HV.out.symm, rfl⟩
  · have t1 : decide ((n : Int) < 1) = false := decide_eq_false (by omega)
    have t2 : ¬ (n : Int) < 1 := by omega
    by_cases h16 : 16 < n
    · have t3 : decide ((16 : Int) < (n : Int)) = true := decide_eq_true (by omega)
      have t4 : (16 : Int) < (n : Int) := by omega
      have HV : Hid (errC (vecB l) = 1) := errC_f (by rw [← Bool.not_eq_true, vecB_iff]; omega)
      clear HN hn
      go_enter Tryd.func32, Tryd.ntmps32
      go_wp2
      go_ret
      exact ⟨ret_int HV.out.symm, rfl⟩
    · have t3 : decide ((16 : Int) < (n : Int)) = false := decide_eq_false (by omega)
      have t4 : ¬ (16 : Int) < (n : Int) := by omega
      clear hn
      go_enter Tryd.func32, Tryd.ntmps32
      go_wp2
      go_loop [15] (fun i => ∃ k : Nat, k ≤ n ∧ i = .int .i64 k ∧ Hid (∀ j, j < k → 0 ≤ l.getD j 0 ∧ l.getD j 0 ≤ 1099511627776)) (fun i => n - (intOf i).toNat)
      case atStart => exact ⟨0, Nat.zero_le _, rfl, fun j hj => by omega⟩
      case round =>
        obtain ⟨k, hk, rfl, HO⟩ := hrel
        by_cases hlt : k < n
        · obtain ⟨b, off, rfl, hc⟩ := HR.out k (by have := HN.out; omega)
          have hltz : (k : Int) < (n : Int) := by omega
          by_cases hz0 : l.getD k 0 < 0
          · have HV : Hid (errC (vecB l) = 1) := errC_f (vecB_no (k := k) (by have := HN.out; omega) (by omega))
            generalize l.getD k 0 = z at *
            have t5 : decide (z < 0) = true := decide_eq_true hz0
            go_wp2
            go_ret
            exact ⟨ret_int HV.out.symm, rfl⟩
          · by_cases hz1 : 1099511627776 < l.getD k 0
            · have HV : Hid (errC (vecB l) = 1) := errC_f (vecB_no (k := k) (by have := HN.out; omega) (by omega))
              generalize l.getD k 0 = z at *
              have t5 : decide (z < 0) = false := decide_eq_false hz0
              have t6 : decide (1099511627776 < z) = true := decide_eq_true hz1
              go_wp2
              go_ret
              exact ⟨ret_int HV.out.symm, rfl⟩
            · have HO2 : Hid (∀ j, j < k + 1 → 0 ≤ l.getD j 0 ∧ l.getD j 0 ≤ 1099511627776) := fun j hj => by
                by_cases e : j = k
                · subst e; omega
                · exact HO.out j (by omega)
              clear HO
              generalize l.getD k 0 = z at *
              have t5 : decide (z < 0) = false := decide_eq_false hz0
              have t6 : decide (1099511627776 < z) = false := decide_eq_false hz1
              go_wp2
              go_round
              case rel => exact ⟨k + 1, by omega, by go_num, HO2⟩
              case measure => simp [intOf]; omega
        · have hltz : ¬ (k : Int) < (n : Int) := by omega
          have HV : Hid (errC (vecB l) = 0) := errC_t (by
            rw [vecB_iff]
            have := HN.out
            exact ⟨fun j hj => HO.out j (by omega), by omega, by omega⟩)
          clear HO
          go_wp2
          go_ret
          exact ⟨ret_int HV.out.symm, rfl⟩

set_option maxHeartbeats 1000000 in
theorem refVector_any (a : Option Addr) (l : List Int) (n c : Nat) (w : World) (hr : RowK .i64 w a l) (hn : n = l.length) (hl : l.length ≤ 140737488355328) :
    Calls Tryd.prog 35 #[.slice a n c] w fun e w' => e = .returned (.bool (vecB l)) ∧ w = w' := by
  have HR := Lib.hid hr
  have HN := Lib.hid hn
  have hnl : n ≤ 140737488355328 := by omega
  clear hr hn
  go_enter Tryd.func35, Tryd.ntmps35
  go_wp2
  go_loop [3] (fun i => ∃ k : Nat, k ≤ n ∧ i = .int .i64 k ∧ Hid (∀ j, j < k → 0 ≤ l.getD j 0 ∧ l.getD j 0 ≤ 1099511627776)) (fun i => n - (intOf i).toNat)
  case atStart => exact ⟨0, Nat.zero_le _, rfl, fun j hj => by omega⟩
  case round =>
    obtain ⟨k, hk, rfl, HO⟩ := hrel
    by_cases hlt : k < n
    · obtain ⟨b, off, rfl, hc⟩ := HR.out k (by have := HN.out; omega)
      have hltz : (k : Int) < (n : Int) := by omega
      have HK := Lib.hid (fun W => refNum_any (l.getD k 0) W)
      cases hb : tmB (l.getD k 0)
      · have HV : Hid (vecB l = false) := vecB_no (k := k) (by have := HN.out; omega) (by simp only [tmB, decide_eq_false_iff_not] at hb; exact hb)
        rw [hb] at HK
        clear hb
        generalize l.getD k 0 = z at *
        go_wp2_with fail
        refine (HK.out _).mono ?_
        rintro e w' ⟨rfl, rfl⟩
        go_wp2
        go_ret
        exact ⟨ret_bool HV.out.symm, rfl⟩
      · have HO2 : Hid (∀ j, j < k + 1 → 0 ≤ l.getD j 0 ∧ l.getD j 0 ≤ 1099511627776) := fun j hj => by
          by_cases e : j = k
          · subst e; simpa [tmB] using hb
          · exact HO.out j (by omega)
        rw [hb] at HK
        clear hb HO
        generalize l.getD k 0 = z at *
        go_wp2_with fail
        refine (HK.out _).mono ?_
        rintro e w' ⟨rfl, rfl⟩
        go_wp2
        go_round
        case rel => exact ⟨k + 1, by omega, by go_num, HO2⟩
        case measure => simp [intOf]; omega
    · have hltz : ¬ (k : Int) < (n : Int) := by omega
      by_cases h1 : 1 ≤ n
      · have t1 : decide ((1 : Int) ≤ (n : Int)) = true := decide_eq_true (by omega)
        have t2 : (1 : Int) ≤ (n : Int) := by omega
        by_cases h16 : n ≤ 16
        · have t3 : decide ((n : Int) ≤ 16) = true := decide_eq_true (by omega)
          have t4 : (n : Int) ≤ 16 := by omega
          have HV : Hid (vecB l = true) := by
            show _ = true
            rw [vecB_iff]
            have := HN.out
            exact ⟨fun j hj => HO.out j (by omega), by omega, by omega⟩
          clear HO
          go_wp2
          go_ret
          exact ⟨ret_bool HV.out.symm, rfl⟩
        · have t3 : decide ((n : Int) ≤ 16) = false := decide_eq_false (by omega)
          have t4 : ¬ (n : Int) ≤ 16 := by omega
          have HV : Hid (vecB l = false) := by show _ = false; rw [← Bool.not_eq_true, vecB_iff]; have := HN.out; omega
          clear HO
          go_wp2
          go_ret
          exact ⟨ret_bool HV.out.symm, rfl⟩
      · have t1 : decide ((1 : Int) ≤ (n : Int)) = false := decide_eq_false (by omega)
        have t2 : ¬ (1 : Int) ≤ (n : Int) := by omega
        have HV : Hid (vecB l = false) := by show _ = false; rw [← Bool.not_eq_true, vecB_iff]; have := HN.out; omega
        clear HO
        go_wp2
        go_ret
        exact ⟨ret_bool HV.out.symm, rfl⟩
end Go.Proofs.YtdpopdlifcjdeaaDoor.Hv

/- Two vectors: whether they go together; the larger one, how far behind; the sum of a row. -/
namespace Go.Proofs.YtdpopdlifcjdeaaDoor.Hv
open Go.RowKit Go.Lib
set_option linter.unusedVariables false

theorem check_yes (a : Option Addr) (l : List Int) (n c : Nat) (w : World) (hr : RowK .i64 w a l) (hn : n = l.length) (hl : l.length ≤ 140737488355328) (h : vecB l = true) : Calls Tryd.prog 32 #[.slice a n c] w fun e w' => e = .returned (.int .i64 0) ∧ w = w' := by
  have := check_any a l n c w hr hn hl
  rw [errC_t h] at this
  exact this
theorem check_no (a : Option Addr) (l : List Int) (n c : Nat) (w : World) (hr : RowK .i64 w a l) (hn : n = l.length) (hl : l.length ≤ 140737488355328) (h : vecB l = false) : Calls Tryd.prog 32 #[.slice a n c] w fun e w' => e = .returned (.int .i64 1) ∧ w = w' := by
  have := check_any a l n c w hr hn hl
  rw [errC_f h] at this
  exact this
theorem refVector_is (a : Option Addr) (l : List Int) (n c : Nat) (w : World) (hr : RowK .i64 w a l) (hn : n = l.length) (hl : l.length ≤ 140737488355328) {b : Bool} (h : vecB l = b) : Calls Tryd.prog 35 #[.slice a n c] w fun e w' => e = .returned (.bool b) ∧ w = w' := by
  subst h
  exact refVector_any a l n c w hr hn hl

set_option maxHeartbeats 1000000 in
theorem compatible_any (a b : Option Addr) (l m : List Int) (na ca nb cb : Nat) (w : World) (ha : RowK .i64 w a l) (hb : RowK .i64 w b m) (hna : na = l.length) (hnb : nb = m.length) (hl : l.length ≤ 140737488355328) (hm : m.length ≤ 140737488355328) :
    Calls Tryd.prog 72 #[.slice a na ca, .slice b nb cb] w fun e w' => e = .returned (.bool (pairB l m)) ∧ w = w' := by
  by_cases h0 : na = nb
  · cases h1 : vecB l
    · have HV : Hid (pairB l m = false) := by show _ = false; rw [← Bool.not_eq_true, pairB_iff]; simp [h1]
      have C1 := Lib.hid (check_no a l na ca w ha hna hl h1)
      clear ha hb hna hnb h1
      subst h0
      go_enter Tryd.func72, Tryd.ntmps72
      go_wp2_with fail
      refine (C1.out).mono ?_
      rintro e w' ⟨rfl, rfl⟩
      go_wp2
      go_ret
      exact ⟨ret_bool HV.out.symm, rfl⟩
    · have C1 := Lib.hid (check_yes a l na ca w ha hna hl h1)
      cases h2 : vecB m
      · have HV : Hid (pairB l m = false) := by show _ = false; rw [← Bool.not_eq_true, pairB_iff]; simp [h2]
        have C2 := Lib.hid (check_no b m nb cb w hb hnb hm h2)
        clear ha hb hna hnb h1 h2
        subst h0
        go_enter Tryd.func72, Tryd.ntmps72
        go_wp2_with fail
        refine (C1.out).mono ?_
        rintro e w' ⟨rfl, rfl⟩
        go_wp2_with fail
        refine (C2.out).mono ?_
        rintro e w' ⟨rfl, rfl⟩
        go_wp2
        go_ret
        exact ⟨ret_bool HV.out.symm, rfl⟩
      · have HV : Hid (pairB l m = true) := by show _ = true; rw [pairB_iff]; exact ⟨h1, h2, by omega⟩
        have C2 := Lib.hid (check_yes b m nb cb w hb hnb hm h2)
        clear ha hb hna hnb h1 h2
        subst h0
        go_enter Tryd.func72, Tryd.ntmps72
        go_wp2_with fail
        refine (C1.out).mono ?_
        rintro e w' ⟨rfl, rfl⟩
        go_wp2_with fail
        refine (C2.out).mono ?_
        rintro e w' ⟨rfl, rfl⟩
        go_wp2
        go_ret
        exact ⟨ret_bool HV.out.symm, rfl⟩
  · have HV : Hid (pairB l m = false) := by show _ = false; rw [← Bool.not_eq_true, pairB_iff]; omega
    have t1 : ((na : Int) == (nb : Int)) = false := beq_eq_false_iff_ne.2 (by omega)
    have t2 : (na == nb) = false := beq_eq_false_iff_ne.2 (by omega)
    have t3 : ¬ (na : Int) = (nb : Int) := by omega
    clear ha hb hna hnb
    go_enter Tryd.func72, Tryd.ntmps72
    go_wp2
    go_ret
    exact ⟨ret_bool HV.out.symm, rfl⟩

theorem max_int (x y : Int) (ts : Array TypeId) (t : TypeId) (w : World) : (Builtin.max_ ts t #[.int .i64 x, .int .i64 y]).run Tryd.prog w = .ok (.int .i64 (max x y)) w := by
  change (Builtin.max2 (.int .i64 x) (.int .i64 y) >>= fun v => pure v).run Tryd.prog w = _
  simp only [Builtin.max2]
  by_cases h : x < y
  · rw [if_pos h, Int.max_eq_right (by omega)]; rfl
  · rw [if_neg h, Int.max_eq_left (by omega)]; rfl

set_option maxHeartbeats 400000 in
theorem behind_any (x y : Int) (w : World) (hx : 0 ≤ x ∧ x ≤ 1099511627776) (hy : 0 ≤ y ∧ y ≤ 1099511627776) : Calls Tryd.prog 74 #[.int .i64 x, .int .i64 y] w fun e w' => e = .returned (.int .i64 (max 0 (y - x))) ∧ w = w' := by
  have hm := fun ts t W => max_int 0 (y - x) ts t W
  generalize max 0 (y - x) = z at *
  go_enter Tryd.func74, Tryd.ntmps74
  go_wp2
  go_ret
  exact ⟨rfl, rfl⟩
end Go.Proofs.YtdpopdlifcjdeaaDoor.Hv

/- Join, Lacks, Covers, Count; the page's Covers; mathematics of them. -/
namespace Go.Proofs.YtdpopdlifcjdeaaDoor.Hv
open Go.RowKit Go.Lib
set_option linter.unusedVariables false

theorem vec_mem {l : List Int} (h : vecB l = true) : ∀ z ∈ l, 0 ≤ z ∧ z ≤ 1099511627776 := by
  unfold vecB at h
  simp only [Bool.and_eq_true, List.all_eq_true, tmB, decide_eq_true_eq] at h
  exact h.1
def ErrPost (w : World) (e : Ending) (w' : World) : Prop := e = .returned (.tuple #[.slice none 0 0, .int .i64 1]) ∧ w = w'
end Go.Proofs.YtdpopdlifcjdeaaDoor.Hv

/- The bytes of a vector, and back. -/
namespace Go.Proofs.YtdpopdlifcjdeaaDoor.Hv
open Go.RowKit Go.Lib
set_option linter.unusedVariables false

theorem vec_num {l : List Int} (h : vecB l = true) : ∀ z ∈ l, numB z = true := fun z hz => by
  have := vec_mem h z hz
  simp [numB]
  omega
theorem vec_numsOK {l : List Int} (h : vecB l = true) : numsOK l = true := by
  unfold numsOK
  have := vecB_len h
  rw [List.all_eq_true.2 (vec_num h), decide_eq_true (by omega)]
  rfl
theorem encV_len {l : List Int} (h : vecB l = true) : (encL l).length ≤ 153 := by
  have h1 := encs_len l (vec_num h)
  have h2 := vecB_len h
  have h3 := enc_len9 (n := l.length) (by omega)
  unfold encL
  rw [List.length_append]
  omega
theorem tkL_len (bs : List Int) : ∀ (c p : Nat) (acc : List Int), (tkL bs c p acc).1.length ≤ acc.length + c := by
  intro c
  induction c with
  | zero => intro p acc; simp [tkL]
  | succ c ih =>
    intro p acc
    rw [tkL]
    split
    · simp
    · have := ih (p + (tkN (bs.drop p)).2.1) (acc ++ [(tkN (bs.drop p)).1])
      rw [List.length_append] at this
      simp only [List.length_cons, List.length_nil] at this
      omega
theorem tkNs_len (bs : List Int) : (tkNs bs).1.length ≤ 1024 := by
  unfold tkNs
  split
  · simp
  · split
    · simp
    · have := tkL_len bs (tkN bs).1.toNat (tkN bs).2.1 []
      simp only [List.length_nil] at this
      omega
/-- the vector that bytes begin with, how many bytes, the error -/
def tkV (bs : List Int) : List Int × Nat × Int :=
  if (tkNs bs).2.2 ≠ 0 then ([], 0, (tkNs bs).2.2) else if vecB (tkNs bs).1 then ((tkNs bs).1, (tkNs bs).2.1, 0) else ([], 0, 1)
theorem tkV_err {bs : List Int} (h : (tkNs bs).2.2 ≠ 0) : tkV bs = ([], 0, (tkNs bs).2.2) := by unfold tkV; rw [if_pos h]
theorem tkV_no {bs : List Int} (h : (tkNs bs).2.2 = 0) (h2 : vecB (tkNs bs).1 = false) : tkV bs = ([], 0, 1) := by unfold tkV; rw [if_neg (by simp [h]), h2]; rfl
theorem tkV_yes {bs : List Int} (h : (tkNs bs).2.2 = 0) (h2 : vecB (tkNs bs).1 = true) : tkV bs = ((tkNs bs).1, (tkNs bs).2.1, 0) := by unfold tkV; rw [if_neg (by simp [h]), h2]; rfl
theorem tkV_enc {l : List Int} (h : vecB l = true) (x : List Int) : tkV (encL l ++ x) = (l, (encL l).length, 0) := by
  have e := tkNs_enc l x (vec_num h) (by have := vecB_len h; omega)
  rw [tkV_yes (by rw [e]) (by rw [e]; exact h), e]
theorem tkV_len (bs : List Int) : (tkV bs).1.length ≤ 1024 := by
  unfold tkV
  split
  · simp
  · split
    · exact tkNs_len bs
    · simp

def TakeIs (ls : List Int) (k : Nat) (x : Int) (w : World) (e : Ending) (w' : World) : Prop := ∃ v, e = .returned (.tuple #[v, .int .i64 (k : Int), .int .i64 x]) ∧ OwnK .i64 3 w' w.heap.size v ls ∧ Below w.heap.size w w'
end Go.Proofs.YtdpopdlifcjdeaaDoor.Hv

/- The sum of a row: goto. -/
namespace Go.Proofs.YtdpopdlifcjdeaaDoor.Hv
open Go.RowKit Go.Lib
set_option linter.unusedVariables false

theorem size3 (w : World) : (Go.sizeOf 3).run Tryd.prog w = .ok 1 w := by
  obtain ⟨i0, hi, hz0, hz1, hz2⟩ := info_parts Tryd.info3
  simp [Go.sizeOf, typeInfo, hi, hz1]
theorem sliceI_1 (w : World) (a : Option Addr) (len cap : Nat) (h1 : 1 ≤ len) :
    (Instr.slice 22 (.slice a len cap) (some (.int .i64 1)) none none).run Tryd.prog w = .ok (.slice (partA a 1 cap) (len - 1) (cap - 1)) w := by
  have ht' : Tryd.prog.underlying 22 = some (.slice (Tryd.prog.elem 22)) := by simp [Program.elem, Tryd.underlying22]
  have he : Tryd.prog.elem 22 = 3 := by simp [Program.elem, Tryd.underlying22]
  rw [run_slice_l w 22 _ _ _ ht' .i64 _ (by omega) (by omega), he, size3]
  simp [Result.andThen, sliced, partA]
def lenOfS : Value → Nat
  | .slice _ n _ => n
  | _ => 0

def SumI (l : List Int) (w : World) (a : Option Addr) (c : Nat) (s : Int) (done rest : List Int) : Prop :=
  done ++ rest = l ∧ RowK .i64 w a rest ∧ rest.length ≤ c ∧ s = done.sum
def SumJ (l : List Int) (w : World) (act : Act) (w' : World) : Prop :=
  ∃ (a : Option Addr) (n c : Nat) (s : Int) (done rest : List Int) (u1 u2 u4 u5 u6 u7 u8 u9 u10 u11 u12 u13 u14 : Value), act = { tmps := #[.slice a n c, u1, u2, .int .i64 s, u4, u5, u6, u7, u8, u9, u10, u11, u12, u13, u14], defers := [] } ∧ n = rest.length ∧ SumI l w a c s done rest ∧ w' = w
theorem sum_end {l : List Int} {w : World} {a : Option Addr} {c : Nat} {s : Int} {done : List Int} (h : SumI l w a c s done []) : s = l.sum := by
  obtain ⟨h1, h2, h3, h4⟩ := h
  rw [List.append_nil] at h1
  subst h1
  exact h4
theorem sum_next {l : List Int} {w : World} {a : Option Addr} {c : Nat} {s z : Int} {done rest : List Int} (h : SumI l w a c s done (z :: rest)) : SumI l w (partA a 1 c) (c - 1) (s + z) (done ++ [z]) rest := by
  obtain ⟨h1, h2, h3, h4⟩ := h
  refine ⟨by rw [List.append_assoc]; exact h1, h2.rest 1 c h3, by simp at h3; omega, ?_⟩
  rw [List.sum_append, h4]
  simp
theorem sum_le : ∀ (l : List Int) (B : Int), (∀ z ∈ l, 0 ≤ z ∧ z ≤ B) → 0 ≤ l.sum ∧ l.sum ≤ (l.length : Int) * B
  | [], B, _ => by simp
  | z :: r, B, h => by
    have h1 := sum_le r B (fun x hx => h x (List.mem_cons_of_mem _ hx))
    have h2 := h z (List.mem_cons_self ..)
    rw [List.sum_cons, List.length_cons]
    have e : ((r.length + 1 : Nat) : Int) * B = (r.length : Int) * B + B := by rw [Int.natCast_add, Int.add_mul]; simp
    rw [e]
    omega
theorem sum_bound {l : List Int} {w : World} {a : Option Addr} {c : Nat} {s z : Int} {done rest : List Int} (h : SumI l w a c s done (z :: rest)) (hm : ∀ x ∈ l, 0 ≤ x ∧ x ≤ 1099511627776) (hl : l.length ≤ 16) :
    0 ≤ s ∧ s ≤ 17592186044416 ∧ 0 ≤ z ∧ z ≤ 1099511627776 := by
  obtain ⟨h1, h2, h3, h4⟩ := h
  have hz := hm z (by rw [← h1]; simp)
  have hd := sum_le done 1099511627776 (fun x hx => hm x (by rw [← h1]; simp [hx]))
  have hdl : done.length ≤ 16 := by have := congrArg List.length h1; simp at this; omega
  rw [h4]
  omega

set_option maxHeartbeats 2000000 in
set_option maxRecDepth 100000 in
theorem sum_any (a : Option Addr) (l : List Int) (n c : Nat) (w : World) (hn : n = l.length) (hr : RowK .i64 w a l) (hc : l.length ≤ c) (hm : ∀ z ∈ l, 0 ≤ z ∧ z ≤ 1099511627776) (hl : l.length ≤ 16) :
    Calls Tryd.prog 59 #[.slice a n c] w fun e w' => e = .returned (.int .i64 l.sum) ∧ w = w' := by
  obtain ⟨s, hs⟩ : ∃ s : Int, s = 0 := ⟨_, rfl⟩
  obtain ⟨done, hdone⟩ : ∃ d : List Int, d = [] := ⟨_, rfl⟩
  obtain ⟨rest, hrest⟩ : ∃ r : List Int, r = l := ⟨_, rfl⟩
  have HI : Hid (SumI l w a c s done rest) := by
    subst hs hdone hrest
    exact ⟨rfl, hr, hc, rfl⟩
  have HN : Hid (n = rest.length) := by rw [hrest]; exact hn
  have HM := Lib.hid hm
  have HL := Lib.hid hl
  have HS := Lib.hid hs
  clear hm hl hn hr hc hdone hrest hs
  go_enter Tryd.func59, Tryd.ntmps59
  go_wp2
  refine wp_scope_jumps 0 (SumJ l w) (fun a' _ => lenOfS (a'.tmps.getD 0 undef)) rfl ?_ ?_
  · have hs := HS.out
    subst hs
    clear HS
    cases rest with
    | nil =>
      have HE := Lib.hid (sum_end HI.out)
      have hn1 : n = 0 := HN.out
      subst hn1
      clear HN HI
      go_wp2_with fail
      go_step3
      go_wp2
      simp only [Exit.jump]
      go_ret
      exact ⟨ret_int HE.out, rfl⟩
    | cons z rest =>
      have hnr : n = rest.length + 1 := HN.out
      have hn1 : 1 ≤ n := by omega
      have hnz : ¬ ((n : Nat) : Int) = 0 := by omega
      have hnp : (0 : Int) < (n : Int) := by omega
      have HNR := Lib.hid hnr
      clear hnr HN
      obtain ⟨b, off, rfl, hc0⟩ := HI.out.2.1 0 (by simp)
      have hc : w.cell? ⟨b, off, none⟩ = some (.int .i64 z) := hc0
      clear hc0
      obtain ⟨hs0, hs1, hz0, hz1⟩ := sum_bound HI.out HM.out HL.out
      have hsl := fun W => sliceI_1 W (some ⟨b, off, none⟩) n c hn1
      have HQ := Lib.hid (sum_next HI.out)
      go_wp2_with fail
      go_step3
      go_wp2_with fail
      go_step3
      exact ⟨rfl, _, n - 1, c - 1, z, done ++ [z], rest, _, _, _, _, _, _, _, _, _, _, _, _, _, rfl, by have := HNR.out; omega, by have h := HQ.out; rw [Int.zero_add] at h; exact h, rfl⟩
  · rintro a' w' ⟨a, n, c, s, done, rest, u1, u2, u4, u5, u6, u7, u8, u9, u10, u11, u12, u13, u14, rfl, hn, hI, rfl⟩
    have HI := Lib.hid hI
    have HN := Lib.hid hn
    clear hI hn HS
    cases rest with
    | nil =>
      have HE := Lib.hid (sum_end HI.out)
      have hn1 : n = 0 := HN.out
      subst hn1
      clear HN HI
      go_wp2
      simp only [Exit.jump]
      go_ret
      exact ⟨ret_int HE.out, rfl⟩
    | cons z rest =>
      have hnr : n = rest.length + 1 := HN.out
      have hn1 : 1 ≤ n := by omega
      have hnz : ¬ ((n : Nat) : Int) = 0 := by omega
      have hnp : (0 : Int) < (n : Int) := by omega
      have HNR := Lib.hid hnr
      clear hnr HN
      obtain ⟨b, off, rfl, hc0⟩ := HI.out.2.1 0 (by simp)
      have hc : w'.cell? ⟨b, off, none⟩ = some (.int .i64 z) := hc0
      clear hc0
      obtain ⟨hs0, hs1, hz0, hz1⟩ := sum_bound HI.out HM.out HL.out
      have hsl := fun W => sliceI_1 W (some ⟨b, off, none⟩) n c hn1
      have HQ := Lib.hid (sum_next HI.out)
      go_wp2_with fail
      go_step3
      refine ⟨rfl, ⟨_, n - 1, c - 1, s + z, done ++ [z], rest, _, _, _, _, _, _, _, _, _, _, _, _, _, rfl, by have := HNR.out; omega, HQ.out, rfl⟩, ?_⟩
      simp [lenOfS]
      omega
end Go.Proofs.YtdpopdlifcjdeaaDoor.Hv

/- Two rows, element by element: goto. -/
namespace Go.Proofs.YtdpopdlifcjdeaaDoor.Hv
open Go.RowKit Go.Lib
set_option linter.unusedVariables false

def RowsPost (w : World) (zs : List Int) (e : Ending) (w' : World) : Prop := ∃ v, e = .returned v ∧ OwnK .i64 3 w' w.heap.size v zs ∧ Below w.heap.size w w'
def joinL (l m : List Int) : List Int := List.zipWith max l m
def lackL (l m : List Int) : List Int := List.zipWith (fun x y => max 0 (y - x)) l m
theorem zip_len (f : Int → Int → Int) {l m : List Int} (h : l.length = m.length) : (List.zipWith f l m).length = l.length := by rw [List.length_zipWith]; omega
theorem zip_at (f : Int → Int → Int) {l m : List Int} {k : Nat} (h1 : k < l.length) (h2 : k < m.length) : (List.zipWith f l m).getD k 0 = f (l.getD k 0) (m.getD k 0) := by
  simp only [List.getD_eq_getElem?_getD]
  rw [List.getElem?_eq_getElem (by rw [List.length_zipWith]; omega), List.getElem?_eq_getElem h1, List.getElem?_eq_getElem h2, List.getElem_zipWith]
  rfl

def PwI (zs : List Int) (w w' : World) (v : Option Addr) (k c7 : Nat) : Prop := OwnK .i64 3 w' w.heap.size (.slice v k c7) (zs.take k) ∧ Below w.heap.size w w'
theorem pw_end {zs : List Int} {w w' : World} {v : Option Addr} {k c7 n : Nat} (hk : k = n) (hn : n = zs.length) (h : PwI zs w w' v k c7) : RowsPost w zs (.returned (.slice v k c7)) w' := by
  obtain ⟨h1, h2⟩ := h
  rw [List.take_of_length_le (by omega)] at h1
  exact ⟨_, rfl, h1, h2⟩
theorem pw_next {zs : List Int} {w w' w2 : World} {v : Option Addr} {k c7 : Nat} {v2 : Value} (hk : k < zs.length) (h : PwI zs w w' v k c7) (hg : Grew .i64 3 w.heap.size w' (.slice v k c7) (zs.take k) [zs.getD k 0] v2 w2) : ∃ v' c', v2 = .slice v' (k + 1) c' ∧ PwI zs w w2 v' (k + 1) c' := by
  obtain ⟨h1, h2⟩ := h
  have ho := hg.own
  rw [← take_getD zs k hk] at ho
  obtain ⟨a, c, e, hr, hc, _⟩ := ho.form
  have hl : (zs.take (k + 1)).length = k + 1 := by rw [List.length_take]; omega
  rw [hl] at e
  subst e
  exact ⟨a, c, rfl, ho, hg.bel _ _ h2 (Nat.le_refl _) h2.size⟩

set_option maxHeartbeats 400000 in
theorem stepI_one {ops : Array Oper} {o : Oper} {a : Act} {K : Act → World → Prop} {Q : Exit → Act → World → Prop} {E : Prop} (hgd : o.guard = none) (s x : Operand)
    (ho : o.op = .call { callee := .builtin .append, args := #[s, x], argTypes := #[22, 22] }) (base : Nat) (W : World) (v : Value) (zs : List Int) (z : Int) (hs : a.eval s = v) (hown : OwnK .i64 3 W base v zs)
    (hx : a.eval x = .slice (some ⟨W.heap.size, 0, none⟩) 1 1) (hlen : (zs.length + 1) * 8 ≤ 140737488355328) (hbase : base ≤ W.heap.size)
    (h : ∀ v' w', Grew .i64 3 base W v zs [z] v' w' → K (a.put o.dst v') w') : if Region.wanted o (yielded ops a.tmps) = true then Oper.wp Tryd.prog o a (W.alloc (.cells #[.int .i64 z] 3)) K Q else E := by
  have hw : Region.wanted o (yielded ops a.tmps) = true := by simp [Region.wanted, hgd]
  rw [if_pos hw]
  obtain ⟨v', w', hr, hg⟩ := run_row (t := 22) (ty := o.type) (bytes := 8) (fun _ => rfl) Tryd.underlying22 Tryd.info3 base W _ v zs [z] _ 1 1 ((Below.refl W.heap.size W).alloc (Nat.le_refl _) _) rfl hown (one_row .i64 3 W z) (by simpa using hlen) (by simp; omega) hbase
  unfold Oper.wp execOp
  simp only [ho, resolve, invoke, builtin, Sem.run_bind, Sem.run_pure, Result.andThen_ok, List.map_toArray, List.map_cons, List.map_nil, hs, hx, hr]
  exact h v' w' hg

def PwJ29 (zs : List Int) (w : World) (a b : Option Addr) (n ca cb : Nat) (act : Act) (w' : World) : Prop :=
  ∃ (v : Option Addr) (k c7 : Nat) (u3 u4 u5 u6 u8 u9 u10 u11 u12 u13 u14 u15 u16 u17 u18 u19 u20 u21 u22 u23 u24 u25 u26 u27 u28 : Value), act = { tmps := #[.slice a n ca, .slice b n cb, .func (.func 74) #[] #[], u3, u4, u5, u6, .slice v k c7, u8, u9, u10, u11, u12, u13, u14, u15, u16, u17, u18, u19, u20, u21, u22, u23, u24, u25, u26, u27, u28], defers := [] } ∧ k ≤ n ∧ PwI zs w w' v k c7
def PwF29 (zs l m : List Int) : Prop := ∀ k, k < l.length → ∀ W, Calls Tryd.prog 74 #[.int .i64 (l.getD k 0), .int .i64 (m.getD k 0)] W fun e w' => e = .returned (.int .i64 (zs.getD k 0)) ∧ W = w'

set_option maxHeartbeats 4000000 in
set_option maxRecDepth 100000 in
theorem pairwise_behind (a b : Option Addr) (l m zs : List Int) (n ca cb : Nat) (w : World) (ha : RowK .i64 w a l) (hb : RowK .i64 w b m) (hna : n = l.length) (hnb : n = m.length) (hz : n = zs.length) (hl : n ≤ 16) (hf : PwF29 zs l m) :
    Calls Tryd.prog 73 #[.slice a n ca, .slice b n cb, .func (.func 74) #[] #[]] w (RowsPost w zs) := by
  have mixed : Tryd.prog.follows .mixedOrders = true := by kernel_rfl
  have HA := Lib.hid ha
  have HB := Lib.hid hb
  have HNA := Lib.hid hna
  have HNB := Lib.hid hnb
  have HZ := Lib.hid hz
  have HF := Lib.hid hf
  clear ha hb hna hnb hz hf
  have HI0 : Hid (PwI zs w w none 0 0) := ⟨OwnK.nil _ _ _ _, Below.refl _ _⟩
  go_enter Tryd.func73, Tryd.ntmps73
  go_wp2
  refine wp_scope_jumps 0 (PwJ29 zs w a b n ca cb) (fun a' _ => n - lenOfS (a'.tmps.getD 7 undef)) rfl ?_ ?_
  · by_cases hk : 0 = n
    · have HE := Lib.hid (pw_end hk HZ.out HI0.out)
      subst hk
      go_wp2_with fail
      go_step3
      go_wp2
      simp only [Exit.jump]
      go_ret
      exact HE.out
    · have hkl : 0 < n := by omega
      have hk1 : ¬ ((0 : Nat) : Int) = (n : Int) := by omega
      have hk2 : (((0 : Nat) : Int) == (n : Int)) = false := beq_eq_false_iff_ne.2 hk1
      have hk3 : (0 == n) = false := beq_eq_false_iff_ne.2 hk
      have hk4 : ((0 : Int) == (n : Int)) = false := beq_eq_false_iff_ne.2 (by omega)
      have hk5 : ((0 : Nat) : Int) < (n : Int) := by omega
      obtain ⟨b1, o1, rfl, hc1⟩ := HA.out 0 (by have := HNA.out; omega)
      obtain ⟨b2, o2, rfl, hc2⟩ := HB.out 0 (by have := HNB.out; omega)
      have hp1 := World.block_lt_of_cell? _ _ hc1
      have hp2 := World.block_lt_of_cell? _ _ hc2
      have HC := Lib.hid (HF.out 0 (by have := HNA.out; omega))
      have HQ := Lib.hid (fun (v2 : Value) (w2 : World) => pw_next (zs := zs) (w := w) (w' := w.drew) (w2 := w2) (v := none) (k := 0) (c7 := 0) (v2 := v2) (by have := HZ.out; omega) ⟨HI0.out.1, HI0.out.2.drew⟩)
      have hsz : w.heap.size ≤ w.heap.size := HI0.out.2.size
      have hd3 : w.cell? ⟨b1, o1, none⟩ = some (.int .i64 (l.getD 0 0)) := (HI0.out.2.cell (p := ⟨b1, o1 + 0, none⟩) hp1).trans hc1
      have hd4 : w.cell? ⟨b2, o2, none⟩ = some (.int .i64 (m.getD 0 0)) := (HI0.out.2.cell (p := ⟨b2, o2 + 0, none⟩) hp2).trans hc2
      have hd1 : w.drew.cell? ⟨b1, o1, none⟩ = some (.int .i64 (l.getD 0 0)) := hd3
      have hd2 : w.drew.cell? ⟨b2, o2, none⟩ = some (.int .i64 (m.getD 0 0)) := hd4
      have hd5 : (w.alloc (.cells #[.int .i64 (zs.getD 0 0)] 3)).drew.cell? ⟨b1, o1, none⟩ = some (.int .i64 (l.getD 0 0)) := (((Below.refl w.heap.size w).alloc (Nat.le_refl _) (.cells #[.int .i64 (zs.getD 0 0)] 3)).cell (p := ⟨b1, o1 + 0, none⟩) (Nat.lt_of_lt_of_le hp1 hsz)).trans hd3
      have hd6 : (w.alloc (.cells #[.int .i64 (zs.getD 0 0)] 3)).drew.cell? ⟨b2, o2, none⟩ = some (.int .i64 (m.getD 0 0)) := (((Below.refl w.heap.size w).alloc (Nat.le_refl _) (.cells #[.int .i64 (zs.getD 0 0)] 3)).cell (p := ⟨b2, o2 + 0, none⟩) (Nat.lt_of_lt_of_le hp2 hsz)).trans hd4
      have HK : Hid (∀ w2, Below w.heap.size w w2 → w2.cell? ⟨b1, o1, none⟩ = some (.int .i64 (l.getD 0 0)) ∧ w2.cell? ⟨b2, o2, none⟩ = some (.int .i64 (m.getD 0 0))) := fun w2 hB => ⟨(hB.cell (p := ⟨b1, o1 + 0, none⟩) hp1).trans hc1, (hB.cell (p := ⟨b2, o2 + 0, none⟩) hp2).trans hc2⟩
      clear hc1 hc2 hp1 hp2
      generalize l.getD 0 0 = x at *
      generalize m.getD 0 0 = y at *
      generalize zs.getD 0 0 = z at *
      go_wp2_with fail
      go_step3
      go_wp2_with fail
      go_region_held3 (fun W => W.cell? ⟨b1, o1, none⟩ = some (.int .i64 x) ∧ W.cell? ⟨b2, o2, none⟩ = some (.int .i64 y)) (first | exact ⟨by assumption, by assumption⟩) (first
        | (go_at_call 74
           refine (HC.out _).mono ?_
           rintro e w8 ⟨rfl, rfl⟩)
        | (refine stepI_one (by rfl) _ _ (by rfl) w.heap.size w.drew (.slice none 0 0) (zs.take 0) z (by rfl) HI0.out.1 (by rfl) (by rw [List.length_take]; omega) hsz ?_
           intro v2 w2 hp2
           obtain ⟨v3, c3, rfl, HQ2⟩ := HQ.out v2 w2 hp2
           have HQ2 := Lib.hid HQ2
           obtain ⟨r1, r2⟩ := HK.out _ HQ2.out.2
           clear hp2))
      go_wp2_with fail
      go_step3
      exact ⟨rfl, _, _, _, _, _, _, _, _, _, _, _, _, _, _, _, _, _, _, _, _, _, _, _, _, _, _, _, _, rfl, by omega, HQ2.out⟩
  · rintro a' w' ⟨v, k, c7, u3, u4, u5, u6, u8, u9, u10, u11, u12, u13, u14, u15, u16, u17, u18, u19, u20, u21, u22, u23, u24, u25, u26, u27, u28, rfl, hkn, hI⟩
    have HI := Lib.hid hI
    clear hI HI0
    by_cases hk : k = n
    · have HE := Lib.hid (pw_end hk HZ.out HI.out)
      subst hk
      go_wp2
      simp only [Exit.jump]
      go_ret
      exact HE.out
    · have hkl : k < n := by omega
      have hk1 : ¬ ((k : Nat) : Int) = (n : Int) := by omega
      have hk2 : (((k : Nat) : Int) == (n : Int)) = false := beq_eq_false_iff_ne.2 hk1
      have hk3 : (k == n) = false := beq_eq_false_iff_ne.2 hk

      have hk5 : ((k : Nat) : Int) < (n : Int) := by omega
      obtain ⟨b1, o1, rfl, hc1⟩ := HA.out k (by have := HNA.out; omega)
      obtain ⟨b2, o2, rfl, hc2⟩ := HB.out k (by have := HNB.out; omega)
      have hp1 := World.block_lt_of_cell? _ _ hc1
      have hp2 := World.block_lt_of_cell? _ _ hc2
      have HC := Lib.hid (HF.out k (by have := HNA.out; omega))
      have HQ := Lib.hid (fun (v2 : Value) (w2 : World) => pw_next (zs := zs) (w := w) (w' := w'.drew) (w2 := w2) (v := v) (k := k) (c7 := c7) (v2 := v2) (by have := HZ.out; omega) ⟨HI.out.1, HI.out.2.drew⟩)
      have hsz : w.heap.size ≤ w'.heap.size := HI.out.2.size
      have hd3 : w'.cell? ⟨b1, o1 + k, none⟩ = some (.int .i64 (l.getD k 0)) := (HI.out.2.cell (p := ⟨b1, o1 + k, none⟩) hp1).trans hc1
      have hd4 : w'.cell? ⟨b2, o2 + k, none⟩ = some (.int .i64 (m.getD k 0)) := (HI.out.2.cell (p := ⟨b2, o2 + k, none⟩) hp2).trans hc2
      have hd1 : w'.drew.cell? ⟨b1, o1 + k, none⟩ = some (.int .i64 (l.getD k 0)) := hd3
      have hd2 : w'.drew.cell? ⟨b2, o2 + k, none⟩ = some (.int .i64 (m.getD k 0)) := hd4
      have hd5 : (w'.alloc (.cells #[.int .i64 (zs.getD k 0)] 3)).drew.cell? ⟨b1, o1 + k, none⟩ = some (.int .i64 (l.getD k 0)) := (((Below.refl w'.heap.size w').alloc (Nat.le_refl _) (.cells #[.int .i64 (zs.getD k 0)] 3)).cell (p := ⟨b1, o1 + k, none⟩) (Nat.lt_of_lt_of_le hp1 hsz)).trans hd3
      have hd6 : (w'.alloc (.cells #[.int .i64 (zs.getD k 0)] 3)).drew.cell? ⟨b2, o2 + k, none⟩ = some (.int .i64 (m.getD k 0)) := (((Below.refl w'.heap.size w').alloc (Nat.le_refl _) (.cells #[.int .i64 (zs.getD k 0)] 3)).cell (p := ⟨b2, o2 + k, none⟩) (Nat.lt_of_lt_of_le hp2 hsz)).trans hd4
      have HK : Hid (∀ w2, Below w.heap.size w w2 → w2.cell? ⟨b1, o1 + k, none⟩ = some (.int .i64 (l.getD k 0)) ∧ w2.cell? ⟨b2, o2 + k, none⟩ = some (.int .i64 (m.getD k 0))) := fun w2 hB => ⟨(hB.cell (p := ⟨b1, o1 + k, none⟩) hp1).trans hc1, (hB.cell (p := ⟨b2, o2 + k, none⟩) hp2).trans hc2⟩
      clear hc1 hc2 hp1 hp2
      generalize l.getD k 0 = x at *
      generalize m.getD k 0 = y at *
      generalize zs.getD k 0 = z at *
      go_wp2_with fail
      go_region_held3 (fun W => W.cell? ⟨b1, o1 + k, none⟩ = some (.int .i64 x) ∧ W.cell? ⟨b2, o2 + k, none⟩ = some (.int .i64 y)) (first | exact ⟨by assumption, by assumption⟩) (first
        | (go_at_call 74
           refine (HC.out _).mono ?_
           rintro e w8 ⟨rfl, rfl⟩)
        | (refine stepI_one (by rfl) _ _ (by rfl) w.heap.size w'.drew (.slice v k c7) (zs.take k) z (by rfl) HI.out.1 (by rfl) (by rw [List.length_take]; omega) hsz ?_
           intro v2 w2 hp2
           obtain ⟨v3, c3, rfl, HQ2⟩ := HQ.out v2 w2 hp2
           have HQ2 := Lib.hid HQ2
           obtain ⟨r1, r2⟩ := HK.out _ HQ2.out.2
           clear hp2))
      go_wp2_with fail
      go_step3
      refine ⟨rfl, ⟨_, _, _, _, _, _, _, _, _, _, _, _, _, _, _, _, _, _, _, _, _, _, _, _, _, _, _, _, rfl, by omega, HQ2.out⟩, ?_⟩
      simp [lenOfS]
      omega

end Go.Proofs.YtdpopdlifcjdeaaDoor.Hv

/- Join, Lacks, Covers, Count; the page's Covers; mathematics of them. -/
namespace Go.Proofs.YtdpopdlifcjdeaaDoor.Hv
open Go.RowKit Go.Lib
set_option linter.unusedVariables false

theorem joinL_len {l m : List Int} (h : l.length = m.length) : (joinL l m).length = l.length := zip_len _ h
theorem lackL_len {l m : List Int} (h : l.length = m.length) : (lackL l m).length = l.length := zip_len _ h
theorem joinL_at {l m : List Int} (h : l.length = m.length) {k : Nat} (hk : k < l.length) : (joinL l m).getD k 0 = max (l.getD k 0) (m.getD k 0) := zip_at _ hk (by omega)
theorem lackL_at {l m : List Int} (h : l.length = m.length) {k : Nat} (hk : k < l.length) : (lackL l m).getD k 0 = max 0 (m.getD k 0 - l.getD k 0) := zip_at _ hk (by omega)
theorem joinL_vec {l m : List Int} (h : pairB l m = true) : vecB (joinL l m) = true := by
  obtain ⟨h1, h2, h3⟩ := (pairB_iff l m).1 h
  rw [vecB_iff, joinL_len h3]
  refine ⟨fun i hi => ?_, vecB_len h1⟩
  rw [joinL_at h3 hi]
  have g1 := vecB_at h1 hi
  have g2 := vecB_at h2 (k := i) (by omega)
  omega
theorem lackL_vec {l m : List Int} (h : pairB l m = true) : vecB (lackL l m) = true := by
  obtain ⟨h1, h2, h3⟩ := (pairB_iff l m).1 h
  rw [vecB_iff, lackL_len h3]
  refine ⟨fun i hi => ?_, vecB_len h1⟩
  rw [lackL_at h3 hi]
  have g1 := vecB_at h1 hi
  have g2 := vecB_at h2 (k := i) (by omega)
  omega
theorem pairB_join {l m : List Int} (h : pairB l m = true) : pairB (joinL l m) l = true ∧ pairB (joinL l m) m = true := by
  obtain ⟨h1, h2, h3⟩ := (pairB_iff l m).1 h
  exact ⟨(pairB_iff _ _).2 ⟨joinL_vec h, h1, joinL_len h3⟩, (pairB_iff _ _).2 ⟨joinL_vec h, h2, by rw [joinL_len h3, h3]⟩⟩
theorem pairB_comm {l m : List Int} (h : pairB l m = true) : pairB m l = true := by
  obtain ⟨h1, h2, h3⟩ := (pairB_iff l m).1 h
  exact (pairB_iff _ _).2 ⟨h2, h1, h3.symm⟩
theorem pairB_self {l : List Int} (h : vecB l = true) : pairB l l = true := (pairB_iff _ _).2 ⟨h, h, rfl⟩
theorem list_at {l m : List Int} (h : l.length = m.length) (h2 : ∀ i, i < l.length → l.getD i 0 = m.getD i 0) : l = m := by
  refine List.ext_getElem h fun i h1 h3 => ?_
  have := h2 i h1
  simpa [List.getD_eq_getElem?_getD, List.getElem?_eq_getElem h1, List.getElem?_eq_getElem h3] using this
theorem joinL_comm {l m : List Int} (h : l.length = m.length) : joinL l m = joinL m l := by
  refine list_at (by rw [joinL_len h, joinL_len h.symm, h]) fun i hi => ?_
  rw [joinL_len h] at hi
  rw [joinL_at h hi, joinL_at h.symm (by omega)]
  omega
theorem joinL_self (l : List Int) : joinL l l = l := by
  refine list_at (joinL_len rfl) fun i hi => ?_
  rw [joinL_len rfl] at hi
  rw [joinL_at rfl hi]
  omega
theorem sum_zero : ∀ (l : List Int), (∀ z ∈ l, 0 ≤ z) → (l.sum = 0 ↔ ∀ z ∈ l, z = 0)
  | [], _ => by simp
  | z :: r, h => by
    have h1 := sum_zero r (fun x hx => h x (List.mem_cons_of_mem _ hx))
    have h2 := h z (List.mem_cons_self ..)
    have h3 : 0 ≤ r.sum := by
      clear h1
      have : ∀ (q : List Int), (∀ x ∈ q, 0 ≤ x) → 0 ≤ q.sum := by
        intro q
        induction q with
        | nil => intro _; simp
        | cons y q ih =>
          intro hq
          have a1 := ih (fun x hx => hq x (List.mem_cons_of_mem _ hx))
          have a2 := hq y (List.mem_cons_self ..)
          rw [List.sum_cons]; omega
      exact this r (fun x hx => h x (List.mem_cons_of_mem _ hx))
    rw [List.sum_cons]
    constructor
    · intro hs x hx
      rcases List.mem_cons.1 hx with rfl | hx
      · omega
      · exact h1.1 (by omega) x hx
    · intro hx
      have a1 := hx z (List.mem_cons_self ..)
      have a2 := h1.2 (fun x hx' => hx x (List.mem_cons_of_mem _ hx'))
      omega
/-- whether no element of m is above that of l -/
def coversB (l m : List Int) : Bool := (lackL l m).sum == 0
theorem coversB_iff {l m : List Int} (h : pairB l m = true) : coversB l m = true ↔ ∀ i, i < l.length → m.getD i 0 ≤ l.getD i 0 := by
  obtain ⟨h1, h2, h3⟩ := (pairB_iff l m).1 h
  unfold coversB
  rw [beq_iff_eq, sum_zero _ (fun z hz => (vec_mem (lackL_vec h) z hz).1)]
  constructor
  · intro hz i hi
    have := hz _ (getD_in (l := lackL l m) (k := i) (by rw [lackL_len h3]; exact hi))
    rw [lackL_at h3 hi] at this
    omega
  · intro hz z hz2
    obtain ⟨i, hi, rfl⟩ := List.getElem_of_mem hz2
    rw [lackL_len h3] at hi
    have g := lackL_at h3 hi
    have g2 := hz i hi
    rw [List.getD_eq_getElem?_getD, List.getElem?_eq_getElem (by rw [lackL_len h3]; exact hi)] at g
    simp only [Option.getD_some] at g
    omega
theorem pairB_len {l m : List Int} (h : pairB l m = true) : l.length = m.length ∧ 1 ≤ l.length ∧ l.length ≤ 16 := by
  obtain ⟨h1, h2, h3⟩ := (pairB_iff l m).1 h
  have := vecB_len h1
  omega

def VecPost (w : World) (zs : List Int) (e : Ending) (w' : World) : Prop := ∃ v, e = .returned (.tuple #[v, .int .i64 0]) ∧ OwnK .i64 3 w' w.heap.size v zs ∧ Below w.heap.size w w'

set_option maxHeartbeats 400000 in
theorem lacks_no (a b : Option Addr) (l m : List Int) (na ca nb cb : Nat) (w : World) (ha : RowK .i64 w a l) (hb : RowK .i64 w b m) (hna : na = l.length) (hnb : nb = m.length) (hl : l.length ≤ 140737488355328) (hm : m.length ≤ 140737488355328) (h : pairB l m = false) : Calls Tryd.prog 58 #[.slice a na ca, .slice b nb cb] w (ErrPost w) := by
  have C := Lib.hid (compatible_any a b l m na ca nb cb w ha hb hna hnb hl hm)
  rw [h] at C
  clear ha hb hna hnb h
  go_enter Tryd.func58, Tryd.ntmps58
  go_wp2_with fail
  refine (C.out).mono ?_
  rintro e w' ⟨rfl, rfl⟩
  go_wp2
  go_ret2
  exact ⟨rfl, rfl⟩
set_option maxHeartbeats 400000 in
theorem lacks_yes (a b : Option Addr) (l m : List Int) (na ca nb cb : Nat) (w : World) (ha : RowK .i64 w a l) (hb : RowK .i64 w b m) (hna : na = l.length) (hnb : nb = m.length) (h : pairB l m = true) : Calls Tryd.prog 58 #[.slice a na ca, .slice b nb cb] w (VecPost w (lackL l m)) := by
  obtain ⟨hlm, hl1, hl16⟩ := pairB_len h
  have C := Lib.hid (compatible_any a b l m na ca nb cb w ha hb hna hnb (by omega) (by omega))
  have hnn : nb = na := by omega
  subst hnn
  have D := Lib.hid (pairwise_behind a b l m (lackL l m) nb ca cb w ha hb hna hnb (by rw [lackL_len hlm]; exact hna) (by omega) (fun k hk W => by
    have := behind_any (l.getD k 0) (m.getD k 0) W (vecB_at ((pairB_iff l m).1 h).1 hk) (vecB_at ((pairB_iff l m).1 h).2.1 (by omega))
    rw [← lackL_at hlm hk] at this
    exact this))
  rw [h] at C
  clear ha hb hna hnb h
  go_enter Tryd.func58, Tryd.ntmps58
  go_wp2_with fail
  refine (C.out).mono ?_
  rintro e w' ⟨rfl, rfl⟩
  go_wp2_with fail
  refine (D.out).mono ?_
  rintro e w1 ⟨v, rfl, ho, hbl⟩
  have HO := Lib.hid ho
  have HB := Lib.hid hbl
  clear ho hbl
  go_wp2
  go_ret2
  exact ⟨v, rfl, HO.out, HB.out⟩

theorem sum_vec (a : Option Addr) (l : List Int) (n c : Nat) (w : World) (hn : n = l.length) (hr : RowK .i64 w a l) (hc : l.length ≤ c) (h : vecB l = true) : Calls Tryd.prog 59 #[.slice a n c] w fun e w' => e = .returned (.int .i64 l.sum) ∧ w = w' :=
  sum_any a l n c w hn hr hc (vec_mem h) (vecB_len h).2
def CovNo (w : World) (e : Ending) (w' : World) : Prop := e = .returned (.tuple #[.bool false, .int .i64 1]) ∧ w = w'
def CovPost (w : World) (b : Bool) (e : Ending) (w' : World) : Prop := e = .returned (.tuple #[.bool b, .int .i64 0]) ∧ Below w.heap.size w w'
set_option maxHeartbeats 400000 in
theorem covers_no (a b : Option Addr) (l m : List Int) (na ca nb cb : Nat) (w : World) (ha : RowK .i64 w a l) (hb : RowK .i64 w b m) (hna : na = l.length) (hnb : nb = m.length) (hl : l.length ≤ 140737488355328) (hm : m.length ≤ 140737488355328) (h : pairB l m = false) : Calls Tryd.prog 38 #[.slice a na ca, .slice b nb cb] w (CovNo w) := by
  have C := Lib.hid (lacks_no a b l m na ca nb cb w ha hb hna hnb hl hm h)
  clear ha hb hna hnb h
  go_enter Tryd.func38, Tryd.ntmps38
  go_wp2_with fail
  refine (C.out).mono ?_
  rintro e w' ⟨rfl, rfl⟩
  go_wp2
  go_ret2
  exact ⟨rfl, rfl⟩
set_option maxHeartbeats 400000 in
theorem covers_yes (a b : Option Addr) (l m : List Int) (na ca nb cb : Nat) (w : World) (ha : RowK .i64 w a l) (hb : RowK .i64 w b m) (hna : na = l.length) (hnb : nb = m.length) (h : pairB l m = true) : Calls Tryd.prog 38 #[.slice a na ca, .slice b nb cb] w (CovPost w (coversB l m)) := by
  have C := Lib.hid (lacks_yes a b l m na ca nb cb w ha hb hna hnb h)
  have HV := Lib.hid (lackL_vec h)
  clear ha hb hna hnb h
  unfold coversB
  go_enter Tryd.func38, Tryd.ntmps38
  go_wp2_with fail
  refine (C.out).mono ?_
  rintro e w1 ⟨v, rfl, ho, hbl⟩
  obtain ⟨a1, c1, rfl, hr1, hc1, _⟩ := ho.form
  have D := Lib.hid (sum_vec a1 (lackL l m) _ c1 w1 rfl hr1 hc1 HV.out)
  have HB := Lib.hid hbl
  clear ho hbl hr1 hc1
  generalize (lackL l m).sum = s at *
  generalize (lackL l m).length = n at *
  go_wp2_with fail
  refine (D.out).mono ?_
  rintro e w' ⟨rfl, rfl⟩
  go_wp2
  go_ret2
  exact ⟨rfl, HB.out⟩

def QuietB (w : World) (b : Bool) (e : Ending) (w' : World) : Prop := e = .returned (.bool b) ∧ ∃ n, w' = w.drewN n
set_option maxHeartbeats 1000000 in
theorem refCovers_any (a b : Option Addr) (l m : List Int) (na ca nb cb : Nat) (w : World) (ha : RowK .i64 w a l) (hb : RowK .i64 w b m) (hna : na = l.length) (hnb : nb = m.length) (h : pairB l m = true) : Calls Tryd.prog 29 #[.slice a na ca, .slice b nb cb] w (QuietB w (coversB l m)) := by
  have mixed : Tryd.prog.follows .mixedOrders = true := by kernel_rfl
  obtain ⟨hlm, hl1, hl16⟩ := pairB_len h
  have HC := Lib.hid (coversB_iff h)
  have HA := Lib.hid ha
  have HB := Lib.hid hb
  have HNA := Lib.hid hna
  have hnn : nb = na := by omega
  have hn16 : na ≤ 16 := by omega
  subst hnn
  have HLM := Lib.hid hlm
  clear ha hb hna hnb h hlm hl1 hl16
  generalize coversB l m = bb at *
  go_enter Tryd.func29, Tryd.ntmps29
  go_wp2
  go_loopg [5] nb (fun g1 v wr => ∃ k n : Nat, v = .int .i64 k ∧ k ≤ nb ∧ nb - k ≤ g1 ∧ Hid (wr = w.drewN n ∧ ∀ j, j < k → m.getD j 0 ≤ l.getD j 0))
  case atStart => exact ⟨0, 0, rfl, Nat.zero_le _, by omega, rfl, fun j hj => by omega⟩
  case round =>
    obtain ⟨k, n, rfl, hk, hg, HW⟩ := hrel
    by_cases hlt : k < nb
    · obtain ⟨b1, o1, rfl, hc1⟩ := HA.out k (by have := HNA.out; omega)
      obtain ⟨b2, o2, rfl, hc2⟩ := HB.out k (by have := HNA.out; have := HLM.out; omega)
      have hw := HW.out.1
      subst hw
      have hd1 : (w.drewN n).cell? ⟨b1, o1 + k, none⟩ = some (.int .i64 (l.getD k 0)) := hc1
      have hd2 : (w.drewN n).cell? ⟨b2, o2 + k, none⟩ = some (.int .i64 (m.getD k 0)) := hc2
      have hltz : (k : Int) < (nb : Int) := by omega
      by_cases hz : l.getD k 0 < m.getD k 0
      · have HE : Hid (bb = false) := by
          show _ = false
          rw [← Bool.not_eq_true, HC.out]
          intro h
          have := h k (by have := HNA.out; omega)
          omega
        have ht : decide (l.getD k 0 < m.getD k 0) = true := decide_eq_true hz
        generalize l.getD k 0 = x at *
        generalize m.getD k 0 = y at *
        clear HW
        go_wp2_with fail
        go_quiet (fail)
        go_wp2
        go_ret
        exact ⟨ret_bool HE.out.symm, n + nq, by rw [World.drewN_drewN]⟩
      · have HE : Hid (∀ j, j < k + 1 → m.getD j 0 ≤ l.getD j 0) := fun j hj => by
          by_cases e : j = k
          · subst e; omega
          · exact HW.out.2 j (by omega)
        have ht : decide (l.getD k 0 < m.getD k 0) = false := decide_eq_false hz
        generalize l.getD k 0 = x at *
        generalize m.getD k 0 = y at *
        clear HW
        go_wp2_with fail
        go_quiet (fail)
        go_wp2
        go_roundg (nb - (k + 1))
        case measure => omega
        case rel => exact ⟨k + 1, _, by go_num, by omega, by omega, rfl, HE.out⟩
    · have hltz : ¬ (k : Int) < (nb : Int) := by omega
      have HE : Hid (bb = true) := by
        show _ = true
        rw [HC.out]
        intro i hi
        exact HW.out.2 i (by have := HNA.out; omega)
      go_wp2
      go_ret
      exact ⟨ret_bool HE.out.symm, n, HW.out.1⟩
end Go.Proofs.YtdpopdlifcjdeaaDoor.Hv
