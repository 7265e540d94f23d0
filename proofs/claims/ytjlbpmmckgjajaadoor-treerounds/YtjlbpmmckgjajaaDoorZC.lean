/- Joined: H1 H2 H5 H7. -/
import Derived.Test.YtjlbpmmckgjajaaDoorZA
import Derived.Deep.DrawnRows
import Derived.Deep.CutRange

/- Vectors: which rows are one; the small functions, of the program and of the page. -/
namespace Go.Proofs.YtjlbpmmckgjajaaDoor.Hv
open Go.RowKit Go.Lib
set_option linter.unusedVariables false

/-- how many operations of one replica may be known -/
def tmB (z : Int) : Bool := decide (0 ≤ z ∧ z ≤ 1099511627776)
/-- a vector -/
def vecB (l : List Int) : Bool := l.all tmB && decide (1 ≤ l.length ∧ l.length ≤ 16)
def pairB (l m : List Int) : Bool := vecB l && vecB m && decide (l.length = m.length)
/-- whether something is refused -/
def errC (b : Bool) : Int := if b then 0 else 1
theorem errC_t {b : Bool} (h : b = true) : errC b = 0 := by rw [h]; rfl
theorem errC_f {b : Bool} (h : b = false) : errC b = 1 := by rw [h]; rfl

theorem getD_in {l : List Int} {k : Nat} (h : k < l.length) : l.getD k 0 ∈ l := by
  rw [List.getD_eq_getElem?_getD, List.getElem?_eq_getElem h]
  exact List.getElem_mem h
theorem vecB_iff (l : List Int) : vecB l = true ↔ (∀ i, i < l.length → 0 ≤ l.getD i 0 ∧ l.getD i 0 ≤ 1099511627776) ∧ 1 ≤ l.length ∧ l.length ≤ 16 := by
  unfold vecB
  simp only [Bool.and_eq_true, decide_eq_true_eq, List.all_eq_true, tmB]
  constructor
  · rintro ⟨h1, h2⟩
    exact ⟨fun i hi => h1 _ (getD_in hi), h2⟩
  · rintro ⟨h1, h2⟩
    refine ⟨fun z hz => ?_, h2⟩
    obtain ⟨i, hi, rfl⟩ := List.getElem_of_mem hz
    have := h1 i hi
    rw [List.getD_eq_getElem?_getD, List.getElem?_eq_getElem hi] at this
    exact this
theorem vecB_no {l : List Int} {k : Nat} (hk : k < l.length) (h : ¬ (0 ≤ l.getD k 0 ∧ l.getD k 0 ≤ 1099511627776)) : vecB l = false := by
  rw [← Bool.not_eq_true, vecB_iff]
  exact fun h' => h (h'.1 k hk)
theorem vecB_len {l : List Int} (h : vecB l = true) : 1 ≤ l.length ∧ l.length ≤ 16 := ((vecB_iff l).1 h).2
theorem vecB_at {l : List Int} (h : vecB l = true) {k : Nat} (hk : k < l.length) : 0 ≤ l.getD k 0 ∧ l.getD k 0 ≤ 1099511627776 := ((vecB_iff l).1 h).1 k hk
theorem pairB_iff (l m : List Int) : pairB l m = true ↔ vecB l = true ∧ vecB m = true ∧ l.length = m.length := by
  unfold pairB
  simp only [Bool.and_eq_true, decide_eq_true_eq, and_assoc]

set_option maxHeartbeats 400000 in
theorem refNum_any (z : Int) (w : World) : Calls Tryd.prog 77 #[.int .i64 z, .int .i64 1099511627776] w fun e w' => e = .returned (.bool (tmB z)) ∧ w = w' := by
  by_cases g1 : 0 ≤ z
  · have hd : decide (0 ≤ z) = true := decide_eq_true g1
    by_cases g2 : z ≤ 1099511627776
    · have HC : Hid (tmB z = true) := by show _ = true; simp [tmB]; omega
      have hd2 : decide (z ≤ 1099511627776) = true := decide_eq_true g2
      go_enter Tryd.func77, Tryd.ntmps77
      go_wp2
      go_ret
      exact ⟨ret_bool HC.out.symm, rfl⟩
    · have HC : Hid (tmB z = false) := by show _ = false; simp [tmB]; omega
      have hd2 : decide (z ≤ 1099511627776) = false := decide_eq_false g2
      go_enter Tryd.func77, Tryd.ntmps77
      go_wp2
      go_ret
      exact ⟨ret_bool HC.out.symm, rfl⟩
  · have HC : Hid (tmB z = false) := by show _ = false; simp [tmB]; omega
    have hd : decide (0 ≤ z) = false := decide_eq_false g1
    go_enter Tryd.func77, Tryd.ntmps77
    go_wp2
    go_ret
    exact ⟨ret_bool HC.out.symm, rfl⟩

set_option maxHeartbeats 1000000 in
theorem check_any (a : Option Addr) (l : List Int) (n c : Nat) (w : World) (hr : RowK .i64 w a l) (hn : n = l.length) (hl : l.length ≤ 140737488355328) :
    Calls Tryd.prog 85 #[.slice a n c] w fun e w' => e = .returned (.int .i64 (errC (vecB l))) ∧ w = w' := by
  have HR := Lib.hid hr
  have HN := Lib.hid hn
  clear hr
  by_cases h0 : n < 1
  · have t1 : decide ((n : Int) < 1) = true := decide_eq_true (by omega)
    have t2 : (n : Int) < 1 := by omega
    have HV : Hid (errC (vecB l) = 1) := errC_f (by rw [← Bool.not_eq_true, vecB_iff]; omega)
    clear HN hn
    go_enter Tryd.func85, Tryd.ntmps85
    go_wp2
    go_ret
    exact ⟨ret_int HV.out.symm, rfl⟩
  · have t1 : decide ((n : Int) < 1) = false := decide_eq_false (by omega)
    have t2 : ¬ (n : Int) < 1 := by omega
    by_cases h16 : 16 < n
    · have t3 : decide ((16 : Int) < (n : Int)) = true := decide_eq_true (by omega)
      have t4 : (16 : Int) < (n : Int) := by omega
      have HV : Hid (errC (vecB l) = 1) := errC_f (by rw [← Bool.not_eq_true, vecB_iff]; omega)
      clear HN hn
      go_enter Tryd.func85, Tryd.ntmps85
      go_wp2
      go_ret
      exact ⟨ret_int HV.out.symm, rfl⟩
    · have t3 : decide ((16 : Int) < (n : Int)) = false := decide_eq_false (by omega)
      have t4 : ¬ (16 : Int) < (n : Int) := by omega
      clear hn
      go_enter Tryd.func85, Tryd.ntmps85
      go_wp2
      go_loop [15] (fun i => ∃ k : Nat, k ≤ n ∧ i = .int .i64 k ∧ Hid (∀ j, j < k → 0 ≤ l.getD j 0 ∧ l.getD j 0 ≤ 1099511627776)) (fun i => n - (intOf i).toNat)
      case atStart => exact ⟨0, Nat.zero_le _, rfl, fun j hj => by omega⟩
      case round =>
        obtain ⟨k, hk, rfl, HO⟩ := hrel
        by_cases hlt : k < n
        · obtain ⟨b, off, rfl, hc⟩ := HR.out k (by have := HN.out; omega)
          have hltz : (k : Int) < (n : Int) := by omega
          by_cases hz0 : l.getD k 0 < 0
          · have HV : Hid (errC (vecB l) = 1) := errC_f (vecB_no (k := k) (by have := HN.out; omega) (by omega))
            generalize l.getD k 0 = z at *
            have t5 : decide (z < 0) = true := decide_eq_true hz0
            go_wp2
            go_ret
            exact ⟨ret_int HV.out.symm, rfl⟩
          · by_cases hz1 : 1099511627776 < l.getD k 0
            · have HV : Hid (errC (vecB l) = 1) := errC_f (vecB_no (k := k) (by have := HN.out; omega) (by omega))
              generalize l.getD k 0 = z at *
              have t5 : decide (z < 0) = false := decide_eq_false hz0
              have t6 : decide (1099511627776 < z) = true := decide_eq_true hz1
              go_wp2
              go_ret
              exact ⟨ret_int HV.out.symm, rfl⟩
            · have HO2 : Hid (∀ j, j < k + 1 → 0 ≤ l.getD j 0 ∧ l.getD j 0 ≤ 1099511627776) := fun j hj => by
                by_cases e : j = k
                · subst e; omega
                · exact HO.out j (by omega)
              clear HO
              generalize l.getD k 0 = z at *
              have t5 : decide (z < 0) = false := decide_eq_false hz0
              have t6 : decide (1099511627776 < z) = false := decide_eq_false hz1
              go_wp2
              go_round
              case rel => exact ⟨k + 1, by omega, by go_num, HO2⟩
              case measure => simp [intOf]; omega
        · have hltz : ¬ (k : Int) < (n : Int) := by omega
          have HV : Hid (errC (vecB l) = 0) := errC_t (by
            rw [vecB_iff]
            have := HN.out
            exact ⟨fun j hj => HO.out j (by omega), by omega, by omega⟩)
          clear HO
          go_wp2
          go_ret
          exact ⟨ret_int HV.out.symm, rfl⟩

set_option maxHeartbeats 1000000 in
theorem refVector_any (a : Option Addr) (l : List Int) (n c : Nat) (w : World) (hr : RowK .i64 w a l) (hn : n = l.length) (hl : l.length ≤ 140737488355328) :
    Calls Tryd.prog 60 #[.slice a n c] w fun e w' => e = .returned (.bool (vecB l)) ∧ w = w' := by
  have HR := Lib.hid hr
  have HN := Lib.hid hn
  have hnl : n ≤ 140737488355328 := by omega
  clear hr hn
  go_enter Tryd.func60, Tryd.ntmps60
  go_wp2
  go_loop [3] (fun i => ∃ k : Nat, k ≤ n ∧ i = .int .i64 k ∧ Hid (∀ j, j < k → 0 ≤ l.getD j 0 ∧ l.getD j 0 ≤ 1099511627776)) (fun i => n - (intOf i).toNat)
  case atStart => exact ⟨0, Nat.zero_le _, rfl, fun j hj => by omega⟩
  case round =>
    obtain ⟨k, hk, rfl, HO⟩ := hrel
    by_cases hlt : k < n
    · obtain ⟨b, off, rfl, hc⟩ := HR.out k (by have := HN.out; omega)
      have hltz : (k : Int) < (n : Int) := by omega
      have HK := Lib.hid (fun W => refNum_any (l.getD k 0) W)
      cases hb : tmB (l.getD k 0)
      · have HV : Hid (vecB l = false) := vecB_no (k := k) (by have := HN.out; omega) (by simp only [tmB, decide_eq_false_iff_not] at hb; exact hb)
        rw [hb] at HK
        clear hb
        generalize l.getD k 0 = z at *
        go_wp2_with fail
        refine (HK.out _).mono ?_
        rintro e w' ⟨rfl, rfl⟩
        go_wp2
        go_ret
        exact ⟨ret_bool HV.out.symm, rfl⟩
      · have HO2 : Hid (∀ j, j < k + 1 → 0 ≤ l.getD j 0 ∧ l.getD j 0 ≤ 1099511627776) := fun j hj => by
          by_cases e : j = k
          · subst e; simpa [tmB] using hb
          · exact HO.out j (by omega)
        rw [hb] at HK
        clear hb HO
        generalize l.getD k 0 = z at *
        go_wp2_with fail
        refine (HK.out _).mono ?_
        rintro e w' ⟨rfl, rfl⟩
        go_wp2
        go_round
        case rel => exact ⟨k + 1, by omega, by go_num, HO2⟩
        case measure => simp [intOf]; omega
    · have hltz : ¬ (k : Int) < (n : Int) := by omega
      by_cases h1 : 1 ≤ n
      · have t1 : decide ((1 : Int) ≤ (n : Int)) = true := decide_eq_true (by omega)
        have t2 : (1 : Int) ≤ (n : Int) := by omega
        by_cases h16 : n ≤ 16
        · have t3 : decide ((n : Int) ≤ 16) = true := decide_eq_true (by omega)
          have t4 : (n : Int) ≤ 16 := by omega
          have HV : Hid (vecB l = true) := by
            show _ = true
            rw [vecB_iff]
            have := HN.out
            exact ⟨fun j hj => HO.out j (by omega), by omega, by omega⟩
          clear HO
          go_wp2
          go_ret
          exact ⟨ret_bool HV.out.symm, rfl⟩
        · have t3 : decide ((n : Int) ≤ 16) = false := decide_eq_false (by omega)
          have t4 : ¬ (n : Int) ≤ 16 := by omega
          have HV : Hid (vecB l = false) := by show _ = false; rw [← Bool.not_eq_true, vecB_iff]; have := HN.out; omega
          clear HO
          go_wp2
          go_ret
          exact ⟨ret_bool HV.out.symm, rfl⟩
      · have t1 : decide ((1 : Int) ≤ (n : Int)) = false := decide_eq_false (by omega)
        have t2 : ¬ (1 : Int) ≤ (n : Int) := by omega
        have HV : Hid (vecB l = false) := by show _ = false; rw [← Bool.not_eq_true, vecB_iff]; have := HN.out; omega
        clear HO
        go_wp2
        go_ret
        exact ⟨ret_bool HV.out.symm, rfl⟩
end Go.Proofs.YtjlbpmmckgjajaaDoor.Hv

/- Two vectors: whether they go together; the larger one, how far behind; the sum of a row. -/
namespace Go.Proofs.YtjlbpmmckgjajaaDoor.Hv
open Go.RowKit Go.Lib
set_option linter.unusedVariables false

theorem check_yes (a : Option Addr) (l : List Int) (n c : Nat) (w : World) (hr : RowK .i64 w a l) (hn : n = l.length) (hl : l.length ≤ 140737488355328) (h : vecB l = true) : Calls Tryd.prog 85 #[.slice a n c] w fun e w' => e = .returned (.int .i64 0) ∧ w = w' := by
  have := check_any a l n c w hr hn hl
  rw [errC_t h] at this
  exact this
theorem check_no (a : Option Addr) (l : List Int) (n c : Nat) (w : World) (hr : RowK .i64 w a l) (hn : n = l.length) (hl : l.length ≤ 140737488355328) (h : vecB l = false) : Calls Tryd.prog 85 #[.slice a n c] w fun e w' => e = .returned (.int .i64 1) ∧ w = w' := by
  have := check_any a l n c w hr hn hl
  rw [errC_f h] at this
  exact this
theorem refVector_is (a : Option Addr) (l : List Int) (n c : Nat) (w : World) (hr : RowK .i64 w a l) (hn : n = l.length) (hl : l.length ≤ 140737488355328) {b : Bool} (h : vecB l = b) : Calls Tryd.prog 60 #[.slice a n c] w fun e w' => e = .returned (.bool b) ∧ w = w' := by
  subst h
  exact refVector_any a l n c w hr hn hl

theorem max_int (x y : Int) (ts : Array TypeId) (t : TypeId) (w : World) : (Builtin.max_ ts t #[.int .i64 x, .int .i64 y]).run Tryd.prog w = .ok (.int .i64 (max x y)) w := by
  change (Builtin.max2 (.int .i64 x) (.int .i64 y) >>= fun v => pure v).run Tryd.prog w = _
  simp only [Builtin.max2]
  by_cases h : x < y
  · rw [if_pos h, Int.max_eq_right (by omega)]; rfl
  · rw [if_neg h, Int.max_eq_left (by omega)]; rfl

end Go.Proofs.YtjlbpmmckgjajaaDoor.Hv

/- Join, Lacks, Covers, Count; the page's Covers; mathematics of them. -/
namespace Go.Proofs.YtjlbpmmckgjajaaDoor.Hv
open Go.RowKit Go.Lib
set_option linter.unusedVariables false

theorem vec_mem {l : List Int} (h : vecB l = true) : ∀ z ∈ l, 0 ≤ z ∧ z ≤ 1099511627776 := by
  unfold vecB at h
  simp only [Bool.and_eq_true, List.all_eq_true, tmB, decide_eq_true_eq] at h
  exact h.1
def ErrPost (w : World) (e : Ending) (w' : World) : Prop := e = .returned (.tuple #[.slice none 0 0, .int .i64 1]) ∧ w = w'
end Go.Proofs.YtjlbpmmckgjajaaDoor.Hv

/- The bytes of a vector, and back. -/
namespace Go.Proofs.YtjlbpmmckgjajaaDoor.Hv
open Go.RowKit Go.Lib
set_option linter.unusedVariables false

theorem vec_num {l : List Int} (h : vecB l = true) : ∀ z ∈ l, numB z = true := fun z hz => by
  have := vec_mem h z hz
  simp [numB]
  omega
theorem vec_numsOK {l : List Int} (h : vecB l = true) : numsOK l = true := by
  unfold numsOK
  have := vecB_len h
  rw [List.all_eq_true.2 (vec_num h), decide_eq_true (by omega)]
  rfl
theorem encV_len {l : List Int} (h : vecB l = true) : (encL l).length ≤ 153 := by
  have h1 := encs_len l (vec_num h)
  have h2 := vecB_len h
  have h3 := enc_len9 (n := l.length) (by omega)
  unfold encL
  rw [List.length_append]
  omega
theorem tkL_len (bs : List Int) : ∀ (c p : Nat) (acc : List Int), (tkL bs c p acc).1.length ≤ acc.length + c := by
  intro c
  induction c with
  | zero => intro p acc; simp [tkL]
  | succ c ih =>
    intro p acc
    rw [tkL]
    split
    · simp
    · have := ih (p + (tkN (bs.drop p)).2.1) (acc ++ [(tkN (bs.drop p)).1])
      rw [List.length_append] at this
      simp only [List.length_cons, List.length_nil] at this
      omega
theorem tkNs_len (bs : List Int) : (tkNs bs).1.length ≤ 1024 := by
  unfold tkNs
  split
  · simp
  · split
    · simp
    · have := tkL_len bs (tkN bs).1.toNat (tkN bs).2.1 []
      simp only [List.length_nil] at this
      omega
/-- the vector that bytes begin with, how many bytes, the error -/
def tkV (bs : List Int) : List Int × Nat × Int :=
  if (tkNs bs).2.2 ≠ 0 then ([], 0, (tkNs bs).2.2) else if vecB (tkNs bs).1 then ((tkNs bs).1, (tkNs bs).2.1, 0) else ([], 0, 1)
theorem tkV_err {bs : List Int} (h : (tkNs bs).2.2 ≠ 0) : tkV bs = ([], 0, (tkNs bs).2.2) := by unfold tkV; rw [if_pos h]
theorem tkV_no {bs : List Int} (h : (tkNs bs).2.2 = 0) (h2 : vecB (tkNs bs).1 = false) : tkV bs = ([], 0, 1) := by unfold tkV; rw [if_neg (by simp [h]), h2]; rfl
theorem tkV_yes {bs : List Int} (h : (tkNs bs).2.2 = 0) (h2 : vecB (tkNs bs).1 = true) : tkV bs = ((tkNs bs).1, (tkNs bs).2.1, 0) := by unfold tkV; rw [if_neg (by simp [h]), h2]; rfl
theorem tkV_enc {l : List Int} (h : vecB l = true) (x : List Int) : tkV (encL l ++ x) = (l, (encL l).length, 0) := by
  have e := tkNs_enc l x (vec_num h) (by have := vecB_len h; omega)
  rw [tkV_yes (by rw [e]) (by rw [e]; exact h), e]
theorem tkV_len (bs : List Int) : (tkV bs).1.length ≤ 1024 := by
  unfold tkV
  split
  · simp
  · split
    · exact tkNs_len bs
    · simp

def TakeIs (ls : List Int) (k : Nat) (x : Int) (w : World) (e : Ending) (w' : World) : Prop := ∃ v, e = .returned (.tuple #[v, .int .i64 (k : Int), .int .i64 x]) ∧ OwnK .i64 3 w' w.heap.size v ls ∧ Below w.heap.size w w'
end Go.Proofs.YtjlbpmmckgjajaaDoor.Hv
