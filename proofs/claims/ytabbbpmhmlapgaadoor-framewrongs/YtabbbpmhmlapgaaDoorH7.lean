/- The bytes of a vector, and back. -/
import Derived.Test.YtabbbpmhmlapgaaDoorH5
namespace Go.Proofs.YtabbbpmhmlapgaaDoor.Hv
open Go.RowKit Go.Lib
set_option linter.unusedVariables false

theorem vec_num {l : List Int} (h : vecB l = true) : ∀ z ∈ l, numB z = true := fun z hz => by
  have := vec_mem h z hz
  simp [numB]
  omega
theorem vec_numsOK {l : List Int} (h : vecB l = true) : numsOK l = true := by
  unfold numsOK
  have := vecB_len h
  rw [List.all_eq_true.2 (vec_num h), decide_eq_true (by omega)]
  rfl
theorem encV_len {l : List Int} (h : vecB l = true) : (encL l).length ≤ 153 := by
  have h1 := encs_len l (vec_num h)
  have h2 := vecB_len h
  have h3 := enc_len9 (n := l.length) (by omega)
  unfold encL
  rw [List.length_append]
  omega
theorem tkL_len (bs : List Int) : ∀ (c p : Nat) (acc : List Int), (tkL bs c p acc).1.length ≤ acc.length + c := by
  intro c
  induction c with
  | zero => intro p acc; simp [tkL]
  | succ c ih =>
    intro p acc
    rw [tkL]
    split
    · simp
    · have := ih (p + (tkN (bs.drop p)).2.1) (acc ++ [(tkN (bs.drop p)).1])
      rw [List.length_append] at this
      simp only [List.length_cons, List.length_nil] at this
      omega
theorem tkNs_len (bs : List Int) : (tkNs bs).1.length ≤ 1024 := by
  unfold tkNs
  split
  · simp
  · split
    · simp
    · have := tkL_len bs (tkN bs).1.toNat (tkN bs).2.1 []
      simp only [List.length_nil] at this
      omega
/-- the vector that bytes begin with, how many bytes, the error -/
def tkV (bs : List Int) : List Int × Nat × Int :=
  if (tkNs bs).2.2 ≠ 0 then ([], 0, (tkNs bs).2.2) else if vecB (tkNs bs).1 then ((tkNs bs).1, (tkNs bs).2.1, 0) else ([], 0, 1)
theorem tkV_err {bs : List Int} (h : (tkNs bs).2.2 ≠ 0) : tkV bs = ([], 0, (tkNs bs).2.2) := by unfold tkV; rw [if_pos h]
theorem tkV_no {bs : List Int} (h : (tkNs bs).2.2 = 0) (h2 : vecB (tkNs bs).1 = false) : tkV bs = ([], 0, 1) := by unfold tkV; rw [if_neg (by simp [h]), h2]; rfl
theorem tkV_yes {bs : List Int} (h : (tkNs bs).2.2 = 0) (h2 : vecB (tkNs bs).1 = true) : tkV bs = ((tkNs bs).1, (tkNs bs).2.1, 0) := by unfold tkV; rw [if_neg (by simp [h]), h2]; rfl
theorem tkV_enc {l : List Int} (h : vecB l = true) (x : List Int) : tkV (encL l ++ x) = (l, (encL l).length, 0) := by
  have e := tkNs_enc l x (vec_num h) (by have := vecB_len h; omega)
  rw [tkV_yes (by rw [e]) (by rw [e]; exact h), e]
theorem tkV_len (bs : List Int) : (tkV bs).1.length ≤ 1024 := by
  unfold tkV
  split
  · simp
  · split
    · exact tkNs_len bs
    · simp

set_option maxHeartbeats 400000 in
theorem bytes_no (a : Option Addr) (l : List Int) (n c : Nat) (w : World) (hr : RowK .i64 w a l) (hn : n = l.length) (hl : l.length ≤ 140737488355328) (h : vecB l = false) : Calls Tryd.prog 37 #[.slice a n c] w (ErrPost w) := by
  have C := Lib.hid (check_no a l n c w hr hn hl h)
  clear hr hn h
  go_enter Tryd.func37, Tryd.ntmps37
  go_wp2_with fail
  refine (C.out).mono ?_
  rintro e w' ⟨rfl, rfl⟩
  go_wp2
  go_ret2
  exact ⟨rfl, rfl⟩
set_option maxHeartbeats 400000 in
theorem bytes_yes (a : Option Addr) (l : List Int) (n c : Nat) (w : World) (hr : RowK .i64 w a l) (hn : n = l.length) (h : vecB l = true) : Calls Tryd.prog 37 #[.slice a n c] w (BytesPost w (encL l)) := by
  have C := Lib.hid (check_yes a l n c w hr hn (by have := vecB_len h; omega) h)
  have D : Hid (Calls Tryd.prog 54 #[.slice a n c] w (BytesPost w (encL l))) := by
    have := nums_any a l c w hr (by have := vecB_len h; omega)
    rw [← hn] at this
    exact this.mono fun e w' hp => by unfold NumsPost at hp; rw [vec_numsOK h] at hp; exact hp
  clear hr hn h
  go_enter Tryd.func37, Tryd.ntmps37
  go_wp2_with fail
  refine (C.out).mono ?_
  rintro e w' ⟨rfl, rfl⟩
  go_wp2_with fail
  refine (D.out).mono ?_
  rintro e w1 ⟨v, rfl, ho, hb⟩
  have HO := Lib.hid ho
  have HB := Lib.hid hb
  clear ho hb
  go_wp2
  go_ret2
  exact ⟨v, rfl, HO.out, HB.out⟩

def TakeIs (ls : List Int) (k : Nat) (x : Int) (w : World) (e : Ending) (w' : World) : Prop := ∃ v, e = .returned (.tuple #[v, .int .i64 (k : Int), .int .i64 x]) ∧ OwnK .i64 3 w' w.heap.size v ls ∧ Below w.heap.size w w'
theorem takeNums_is (a : Option Addr) (bs : List Int) (n cap : Nat) (w : World) (hn : n = bs.length) (hr : RowK .u8 w a bs) (hb : IsB bs) (hcap : bs.length ≤ cap) (hlen : bs.length ≤ 140737488355328) {x1 : List Int} {x2 : Nat} {x3 : Int} (h : tkNs bs = (x1, x2, x3)) : Calls Tryd.prog 58 #[.slice a n cap] w (TakeIs x1 x2 x3 w) := by
  subst hn
  refine (takeNums_any a bs cap w hr hb hcap hlen).mono ?_
  rintro e w' ⟨v, rfl, ho, hbl⟩
  rw [h] at ho ⊢
  exact ⟨v, rfl, ho, hbl⟩
set_option maxHeartbeats 1000000 in
theorem take_is (a : Option Addr) (bs : List Int) (n cap : Nat) (w : World) (hn : n = bs.length) (hr : RowK .u8 w a bs) (hb : IsB bs) (hcap : bs.length ≤ cap) (hlen : bs.length ≤ 140737488355328) {x1 : List Int} {x2 : Nat} {x3 : Int} (h : tkV bs = (x1, x2, x3)) : Calls Tryd.prog 48 #[.slice a n cap] w (TakeIs x1 x2 x3 w) := by
  obtain ⟨⟨y1, y2, y3⟩, hR⟩ : ∃ R, tkNs bs = R := ⟨_, rfl⟩
  have C := Lib.hid (takeNums_is a bs n cap w hn hr hb hcap hlen hR)
  have HL : Hid (y1.length ≤ 1024) := by have := tkNs_len bs; rw [hR] at this; exact this
  by_cases he : y3 = 0
  · cases hv : vecB y1
    · rw [tkV_no (by rw [hR]; exact he) (by rw [hR]; exact hv)] at h
      simp only [Prod.mk.injEq] at h
      obtain ⟨rfl, rfl, rfl⟩ := h
      subst he
      clear hn hr hb hcap hlen hR
      go_enter Tryd.func48, Tryd.ntmps48
      go_wp2_with fail
      refine (C.out).mono ?_
      rintro e w1 ⟨v, rfl, ho, hbl⟩
      obtain ⟨a1, c1, rfl, hr1, hc1, _⟩ := ho.form
      obtain ⟨n1, hn1⟩ : ∃ k, k = y1.length := ⟨_, rfl⟩
      rw [← hn1]
      have D := Lib.hid (check_no a1 y1 n1 c1 w1 hr1 hn1 (by have := HL.out; omega) hv)
      have HB := Lib.hid hbl
      clear ho hbl hr1 hn1 hc1
      go_wp2_with fail
      refine (D.out).mono ?_
      rintro e w' ⟨rfl, rfl⟩
      go_wp2
      go_ret3
      exact ⟨_, rfl, OwnK.nil _ _ _ _, HB.out⟩
    · rw [tkV_yes (by rw [hR]; exact he) (by rw [hR]; exact hv), hR] at h
      simp only [Prod.mk.injEq] at h
      obtain ⟨rfl, rfl, rfl⟩ := h
      subst he
      clear hn hr hb hcap hlen hR
      go_enter Tryd.func48, Tryd.ntmps48
      go_wp2_with fail
      refine (C.out).mono ?_
      rintro e w1 ⟨v, rfl, ho, hbl⟩
      have HO := Lib.hid ho
      obtain ⟨a1, c1, rfl, hr1, hc1, _⟩ := ho.form
      obtain ⟨n1, hn1⟩ : ∃ k, k = y1.length := ⟨_, rfl⟩
      rw [← hn1] at HO ⊢
      have D := Lib.hid (check_yes a1 y1 n1 c1 w1 hr1 hn1 (by have := HL.out; omega) hv)
      have HB := Lib.hid hbl
      clear ho hbl hr1 hn1 hc1
      go_wp2_with fail
      refine (D.out).mono ?_
      rintro e w' ⟨rfl, rfl⟩
      go_wp2
      go_ret3
      exact ⟨_, rfl, HO.out, HB.out⟩
  · rw [tkV_err (by rw [hR]; exact he), hR] at h
    simp only [Prod.mk.injEq] at h
    obtain ⟨rfl, rfl, rfl⟩ := h
    have hez : (y3 == 0) = false := beq_eq_false_iff_ne.2 he
    have hey : (y3 != 0) = true := by simp [he]
    clear hn hr hb hcap hlen hR
    go_enter Tryd.func48, Tryd.ntmps48
    go_wp2_with fail
    refine (C.out).mono ?_
    rintro e w1 ⟨v, rfl, ho, hbl⟩
    have HB := Lib.hid hbl
    clear ho hbl
    go_wp2
    go_ret3
    exact ⟨_, rfl, OwnK.nil _ _ _ _, HB.out⟩

end Go.Proofs.YtabbbpmhmlapgaaDoor.Hv
