/- The key between two, as the program tells it, and as the page does. -/
import Derived.Test.YtobnecjkanaofaaK2
namespace Go.Proofs.Ytobnecjkanaofaa
open Go.RowKit Go.Lib
set_option linter.unusedVariables false

def betE (a b : ByteArray) : Int := if mayB (strN a) (strN b) = true then (if (mid (strN a) (strN b)).length ≤ 64 then 0 else 5) else 1
def betS (a b : ByteArray) : ByteArray := if mayB (strN a) (strN b) = true ∧ (mid (strN a) (strN b)).length ≤ 64 then strOfNums (mid (strN a) (strN b)) else ⟨#[]⟩
theorem may_sizes {a b : ByteArray} (h : mayB (strN a) (strN b) = true) : a.size ≤ 64 ∧ b.size ≤ 64 := by
  obtain ⟨h1, h2, _⟩ := mayB_parts h
  rw [← strN_len, ← strN_len]
  exact ⟨limB_len h1, limB_len h2⟩
def BetPost (a b : ByteArray) (w : World) (e : Ending) (w' : World) : Prop := e = .returned (.tuple #[.string (betS a b), .int .i64 (betE a b)]) ∧ Below w.heap.size w w'

set_option maxHeartbeats 1000000 in
theorem between_any (a b : ByteArray) (w : World) : Calls Try.prog 13 #[.string a, .string b] w (BetPost a b w) := by
  have HM := Lib.hid (fun W => limits_any a b W)
  cases hm : mayB (strN a) (strN b) with
  | false =>
    have HE : Hid (BetPost a b w (.returned (.tuple #[.string ⟨#[]⟩, .int .i64 1])) w) := ⟨by simp [betS, betE, hm], Below.refl _ _⟩
    rw [hm] at HM
    clear hm
    go_enter Try.func13, Try.ntmps13
    go_wp2_with fail
    refine (HM.out _).mono ?_
    rintro e w1 ⟨rfl, rfl⟩
    go_wp2
    go_ret2
    exact HE.out
  | true =>
    have hsz := may_sizes hm
    have HC := Lib.hid (middle_any a b w (by omega))
    obtain ⟨k, hk⟩ : ∃ k, k = (mid (strN a) (strN b)).length := ⟨_, rfl⟩
    by_cases hl : k ≤ 64
    · have HE : Hid (∀ w', Below w.heap.size w w' → BetPost a b w (.returned (.tuple #[.string (strOfNums (mid (strN a) (strN b))), .int .i64 0])) w') := fun w' h => ⟨by simp [betS, betE, hm, ← hk, hl], h⟩
      have hz : ¬ (64 : Int) < (k : Int) := by omega
      have HK := Lib.hid hk
      rw [hm] at HM
      clear hm hk
      go_enter Try.func13, Try.ntmps13
      go_wp2_with fail
      refine (HM.out _).mono ?_
      rintro e w1 ⟨rfl, rfl⟩
      go_wp2_with fail
      refine (HC.out).mono ?_
      rintro e w1 ⟨v1, rfl, ho, hb⟩
      obtain ⟨a1, c1, rfl, hr1, hc1, _⟩ := ho.form
      rw [← HK.out]
      have hst := to_str w1 a1 _ k c1 HK.out hr1
      have HB := Lib.hid (HE.out w1 hb)
      clear ho hb hr1 hc1 HK HE HC HM
      generalize strOfNums (mid (strN a) (strN b)) = st at *
      go_wp2
      go_ret2
      exact HB.out
    · have HE : Hid (∀ w', Below w.heap.size w w' → BetPost a b w (.returned (.tuple #[.string ⟨#[]⟩, .int .i64 5])) w') := fun w' h => ⟨by simp [betS, betE, hm, ← hk, hl], h⟩
      have hz : (64 : Int) < (k : Int) := by omega
      have HK := Lib.hid hk
      rw [hm] at HM
      clear hm hk
      go_enter Try.func13, Try.ntmps13
      go_wp2_with fail
      refine (HM.out _).mono ?_
      rintro e w1 ⟨rfl, rfl⟩
      go_wp2_with fail
      refine (HC.out).mono ?_
      rintro e w1 ⟨v1, rfl, ho, hb⟩
      obtain ⟨a1, c1, rfl, hr1, hc1, _⟩ := ho.form
      rw [← HK.out]
      have HB := Lib.hid (HE.out w1 hb)
      clear ho hb hr1 hc1 HK HE HC HM
      go_wp2
      go_ret2
      exact HB.out

def RefPost (a b : ByteArray) (w : World) (e : Ending) (w' : World) : Prop := e = .returned (.tuple #[.string (betS a b), .bool (decide ((mid (strN a) (strN b)).length ≤ 64))]) ∧ Below w.heap.size w w'
structure RefI (a b : ByteArray) (w : World) (left : Bool) (b' : List Int) (v : Value) (i : Nat) (cur : List Int) (wr : World) : Prop where
  own : OwnK .u8 5 wr w.heap.size v cur
  len : cur.length = i
  all : cur ++ mid ((strN a).drop i) b' = mid (strN a) (strN b)
  bel : Below w.heap.size w wr
  yes : left = true → b' = []
  no : left = false → b' = (strN b).drop i ∧ endB b' = true ∧ ltB ((strN a).drop i) b' = true

theorem ref_last {a b : ByteArray} {w wr w' : World} {left : Bool} {b' cur : List Int} {v v' : Value} {i : Nat} {z x y : Int} (hm : mayB (strN a) (strN b) = true) (h : RefI a b w left b' v i cur wr) (hi : i < 64) (hx : x = ((strN a).drop i).headD 0) (hy : y = b'.headD 256) (hc : x + 2 ≤ y) (hz : z = x + (y - x) / 2)
    (hg : Grew .u8 5 w.heap.size wr v cur [z] v' w') : ∃ ad n cap, v' = .slice ad n cap ∧ (convert 42 9 (.slice ad n cap)).run Try.prog w' = .ok (.string (betS a b)) w' ∧ RefPost a b w (.returned (.tuple #[.string (betS a b), .bool true])) w' := by
  have ha := h.all
  subst hx hy
  rw [mid_yes hc, ← hz] at ha
  have hl : (mid (strN a) (strN b)).length ≤ 64 := by rw [← ha, List.length_append, h.len, List.length_singleton]; omega
  have hs : betS a b = strOfNums (mid (strN a) (strN b)) := by rw [betS, if_pos ⟨hm, hl⟩]
  have ho := hg.own
  rw [ha] at ho
  obtain ⟨ad, cap, rfl, hr, _⟩ := ho.form
  refine ⟨ad, _, cap, rfl, ?_, ?_, hg.bel _ _ h.bel (Nat.le_refl _) h.bel.size⟩
  · rw [hs]; exact to_str w' ad _ _ cap rfl hr
  · rw [decide_eq_true hl]
theorem ref_next {a b : ByteArray} {w wr w' : World} {left left' : Bool} {b' cur : List Int} {v v' : Value} {i : Nat} {z x y : Int} (h : RefI a b w left b' v i cur wr) (hx : x = ((strN a).drop i).headD 0) (hy : y = b'.headD 256) (hc : ¬ x + 2 ≤ y) (hz : z = x) (hl' : left' = (left || decide (y = x + 1)))
    (hg : Grew .u8 5 w.heap.size wr v cur [z] v' w') : ∃ b2 cur2, RefI a b w left' b2 v' (i + 1) cur2 w' := by
  have ha := h.all
  subst hx hy
  rw [mid_no hc, ← hz, List.tail_drop] at ha
  refine ⟨usedB z (b'.headD 256) b'.tail, cur ++ [z], hg.own, by simp [h.len], by rw [hz, ← ha, hz]; simp, hg.bel _ _ h.bel (Nat.le_refl _) h.bel.size, ?_, ?_⟩
  · intro hl
    rw [hl] at hl'
    rcases Bool.or_eq_true_iff.1 hl'.symm with h1 | h1
    · rw [h.yes h1]; exact usedB_nil _ _
    · rw [usedB_yes (by rw [hz]; exact of_decide_eq_true h1)]
  · intro hl
    rw [hl] at hl'
    obtain ⟨h1, h2⟩ := Bool.or_eq_false_iff.1 hl'.symm
    have h2 := of_decide_eq_false h2
    obtain ⟨e1, e2, e3⟩ := h.no h1
    rw [usedB_no (by rw [hz]; exact h2)]
    cases b' with
    | nil => simp [endB] at e2
    | cons y s =>
      simp only [List.headD_cons] at hc h2 ⊢
      have es : s = (strN b).drop (i + 1) := by rw [← List.tail_drop, ← e1]; rfl
      refine ⟨es, ?_⟩
      rw [List.tail_cons, ← List.tail_drop]
      revert hc h2 e3
      cases hd : (strN a).drop i with
      | nil =>
        intro hc h2 e3
        simp only [List.headD_nil] at hc h2
        have hB : 0 ≤ y := ((show IsB (y :: s) from e1 ▸ (strN_isB b).drop i).cons.1).1
        have hy0 : y = 0 := by omega
        subst hy0
        have hs : s ≠ [] := by rintro rfl; simp [endB] at e2
        rw [endB_cons hs] at e2
        exact ⟨e2, ltB_empty hs⟩
      | cons x r =>
        intro hc h2 e3
        simp only [List.headD_cons] at hc h2
        simp only [ltB, Bool.or_eq_true, Bool.and_eq_true, decide_eq_true_eq] at e3
        obtain ⟨exy, hrs⟩ := e3.resolve_left (by omega)
        have hs : s ≠ [] := by rintro rfl; rw [ltB_nil] at hrs; cases hrs
        rw [endB_cons hs] at e2
        exact ⟨e2, hrs⟩
theorem ref_full {a b : ByteArray} {w wr : World} {left : Bool} {b' cur : List Int} {v : Value} {i : Nat} (h : RefI a b w left b' v i cur wr) (hi : 64 ≤ i) : RefPost a b w (.returned (.tuple #[.string ⟨#[]⟩, .bool false])) wr := by
  have hl : ¬ (mid (strN a) (strN b)).length ≤ 64 := by
    rw [← h.all, List.length_append, h.len]
    have := (mid_len_le _ ((strN a).drop i) b' (Nat.le_refl _)).2
    omega
  refine ⟨?_, h.bel⟩
  rw [decide_eq_false hl, betS, if_neg (fun h => hl h.2)]

set_option maxHeartbeats 4000000 in
set_option maxRecDepth 100000 in
theorem refBetween_any (a b : ByteArray) (w : World) (hm : mayB (strN a) (strN b) = true) : Calls Try.prog 12 #[.string a, .string b] w (RefPost a b w) := by
  have HM := Lib.hid hm
  have hsz := may_sizes hm
  obtain ⟨lb, hlb⟩ : ∃ lb, lb = decide (strN b = []) := ⟨_, rfl⟩
  have hle : b.toList.isEmpty = lb := by
    by_cases h : strN b = []
    · rw [hlb, decide_eq_true h]; exact (emp_yes h).1
    · rw [hlb, decide_eq_false h]; exact (emp_no h).1
  have HS : Hid (RefI a b w lb (strN b) (.slice none 0 0) 0 [] w) := by
    refine ⟨OwnK.nil _ _ _ _, rfl, rfl, Below.refl _ _, fun h => ?_, fun h => ?_⟩
    · rw [hlb] at h; exact of_decide_eq_true h
    · rw [hlb] at h
      have h2 := (mayB_parts hm).2.2.resolve_left (of_decide_eq_false h)
      exact ⟨rfl, h2.1, h2.2⟩
  clear hm hlb
  go_enter Try.func12, Try.ntmps12
  go_wp2
  clear hle
  go_loopg [6, 7, 8] 64 (fun g1 vk vl vi wr => ∃ (i : Nat) (left : Bool), vl = .bool left ∧ vi = .int .i64 i ∧ i ≤ 64 ∧ 64 - i ≤ g1 ∧ Hid (∃ b' cur, RefI a b w left b' vk i cur wr))
  case atStart => exact ⟨0, lb, rfl, rfl, by omega, by omega, ⟨_, _, HS.out⟩⟩
  case round =>
    obtain ⟨i, left, rfl, rfl, hi, hg1, HI⟩ := hrel
    clear HS
    by_cases hi64 : i < 64
    · have hiz : (i : Int) < 64 := by omega
      obtain ⟨b', cur, hI⟩ := HI.out
      have HJ := Lib.hid hI
      have HW := Lib.hid hI.own
      have hwb := hI.bel.size
      have hlen : cur.length + 1 ≤ 140737488355328 := by rw [hI.len]; omega
      clear HI
      by_cases hia : i < a.size
      · have hax : (i : Int) < (a.size : Int) := by omega
        obtain ⟨x, hx⟩ : ∃ x, x = (strN a).getD i 0 := ⟨_, rfl⟩
        have hxb := getD_isB0 (strN_isB a) i
        have hxa := at_strN a i hia 0
        rw [← hx] at hxb hxa
        have HX := Lib.hid (hx.trans (headD_drop (strN a) i 0).symm)
        clear hx
        cases left with
        | true =>
          have HY : Hid (256 = b'.headD 256) := by show _ = _; rw [HJ.out.yes rfl]; rfl
          by_cases hc : x ≤ 254
          · obtain ⟨q, hq⟩ : ∃ q, q = (256 - x) / 2 := ⟨_, rfl⟩
            have hqt : (256 - x).tdiv 2 = q := by rw [Int.tdiv_eq_ediv_of_nonneg (by omega), hq]
            have hqb : 1 ≤ q ∧ x + q ≤ 255 := by omega
            have hcc : x + 2 ≤ 256 := by omega
            have HP := Lib.hid (show ∀ v2 w3 z, z = x + q → Grew .u8 5 w.heap.size wr u6 cur [z] v2 w3 → _ from fun v2 w3 z hz h => ref_last (x := x) (y := 256) HM.out HJ.out hi64 HX.out HY.out (by omega) (by omega) h)
            clear hq
            go_wp2_with (at_builtin
                         refine wpB_one rfl _ _ rfl w.heap.size wr u6 cur _ rfl HW.out rfl hlen hwb ?_
                         intro v1 w2 hp1
                         obtain ⟨ad, n, cap, rfl, hst, hpost⟩ := HP.out v1 w2 _ (by first | rfl | omega) hp1
                         have HQ := Lib.hid hpost
                         clear hp1 hpost HP HJ HW)
            go_ret2
            exact HQ.out
          · obtain rfl : x = 255 := by omega
            have HP := Lib.hid (show ∀ v2 w3 z, z = 255 → Grew .u8 5 w.heap.size wr u6 cur [z] v2 w3 → _ from fun v2 w3 z hz h => ref_next (x := 255) (y := 256) (left' := true) HJ.out HX.out HY.out (by omega) hz (by simp <;> omega) h)
            go_wp2_with (at_builtin
                         refine wpB_one rfl _ _ rfl w.heap.size wr u6 cur _ rfl HW.out rfl hlen hwb ?_
                         intro v1 w2 hp1
                         obtain ⟨b2, cur2, hn2⟩ := HP.out v1 w2 _ (by first | rfl | omega) hp1
                         have HQ := Lib.hid hn2
                         clear hp1 hn2 HP HJ HW)
            go_roundg (64 - (i + 1))
            case measure => omega
            case rel => exact ⟨i + 1, true, by first | rfl | simp, by go_num, by omega, by omega, ⟨b2, cur2, HQ.out⟩⟩
        | false =>
          have hbs : i < b.size := by
            obtain ⟨e1, e2, _⟩ := HJ.out.no rfl
            have := endB_ne e2
            rw [e1] at this
            have h2 := List.length_pos_iff.2 this
            rw [List.length_drop, strN_len] at h2
            omega
          have hbx : (i : Int) < (b.size : Int) := by omega
          obtain ⟨y, hy⟩ : ∃ y, y = (strN b).getD i 256 := ⟨_, rfl⟩
          have hyb := (strN_isB b).getD (k := i) (by rw [strN_len]; exact hbs)
          have hya := at_strN b i hbs 0
          rw [show (strN b).getD i 0 = y from ((at_strN b i hbs 0).symm.trans (at_strN b i hbs 256)).trans hy.symm] at hyb hya
          have HY : Hid (y = b'.headD 256) := by show _ = _; rw [(HJ.out.no rfl).1, headD_drop]; exact hy
          clear hy
          by_cases hc : x + 2 ≤ y
          · obtain ⟨q, hq⟩ : ∃ q, q = (y - x) / 2 := ⟨_, rfl⟩
            have hqt : (y - x).tdiv 2 = q := by rw [Int.tdiv_eq_ediv_of_nonneg (by omega), hq]
            have hqb : 1 ≤ q ∧ x + q ≤ 255 := by omega
            have HP := Lib.hid (show ∀ v2 w3 z, z = x + q → Grew .u8 5 w.heap.size wr u6 cur [z] v2 w3 → _ from fun v2 w3 z hz h => ref_last (x := x) (y := y) HM.out HJ.out hi64 HX.out HY.out (by omega) (by omega) h)
            clear hq
            go_wp2_with (at_builtin
                         refine wpB_one rfl _ _ rfl w.heap.size wr u6 cur _ rfl HW.out rfl hlen hwb ?_
                         intro v1 w2 hp1
                         obtain ⟨ad, n, cap, rfl, hst, hpost⟩ := HP.out v1 w2 _ (by first | rfl | omega) hp1
                         have HQ := Lib.hid hpost
                         clear hp1 hpost HP HJ HW)
            go_ret2
            exact HQ.out
          · by_cases hj : y = x + 1
            · subst hj
              have HP := Lib.hid (show ∀ v2 w3 z, z = x → Grew .u8 5 w.heap.size wr u6 cur [z] v2 w3 → _ from fun v2 w3 z hz h => ref_next (x := x) (y := (x + 1)) (left' := true) HJ.out HX.out HY.out (by omega) hz (by simp <;> omega) h)
              go_wp2_with (at_builtin
                           refine wpB_one rfl _ _ rfl w.heap.size wr u6 cur _ rfl HW.out rfl hlen hwb ?_
                           intro v1 w2 hp1
                           obtain ⟨b2, cur2, hn2⟩ := HP.out v1 w2 _ (by first | rfl | omega) hp1
                           have HQ := Lib.hid hn2
                           clear hp1 hn2 HP HJ HW)
              go_roundg (64 - (i + 1))
              case measure => omega
              case rel => exact ⟨i + 1, true, by first | rfl | simp, by go_num, by omega, by omega, ⟨b2, cur2, HQ.out⟩⟩
            · have hjb : (y == x + 1) = false := by simpa using hj
              have HP := Lib.hid (show ∀ v2 w3 z, z = x → Grew .u8 5 w.heap.size wr u6 cur [z] v2 w3 → _ from fun v2 w3 z hz h => ref_next (x := x) (y := y) (left' := false) HJ.out HX.out HY.out (by omega) hz (by simp <;> omega) h)
              go_wp2_with (at_builtin
                           refine wpB_one rfl _ _ rfl w.heap.size wr u6 cur _ rfl HW.out rfl hlen hwb ?_
                           intro v1 w2 hp1
                           obtain ⟨b2, cur2, hn2⟩ := HP.out v1 w2 _ (by first | rfl | omega) hp1
                           have HQ := Lib.hid hn2
                           clear hp1 hn2 HP HJ HW)
              go_roundg (64 - (i + 1))
              case measure => omega
              case rel => exact ⟨i + 1, false, by first | rfl | simp, by go_num, by omega, by omega, ⟨b2, cur2, HQ.out⟩⟩
      · have hax : ¬ (i : Int) < (a.size : Int) := by omega
        have HX : Hid (0 = ((strN a).drop i).headD 0) := by show _ = _; rw [headD_drop, far_strN a i hia 0]
        cases left with
        | true =>
          have HY : Hid (256 = b'.headD 256) := by show _ = _; rw [HJ.out.yes rfl]; rfl
          have HP := Lib.hid (show ∀ v2 w3 z, z = 128 → Grew .u8 5 w.heap.size wr u6 cur [z] v2 w3 → _ from fun v2 w3 z hz h => ref_last (x := 0) (y := 256) HM.out HJ.out hi64 HX.out HY.out (by omega) (by omega) h)
          go_wp2_with (at_builtin
                       refine wpB_one rfl _ _ rfl w.heap.size wr u6 cur _ rfl HW.out rfl hlen hwb ?_
                       intro v1 w2 hp1
                       obtain ⟨ad, n, cap, rfl, hst, hpost⟩ := HP.out v1 w2 _ (by first | rfl | omega) hp1
                       have HQ := Lib.hid hpost
                       clear hp1 hpost HP HJ HW)
          go_ret2
          exact HQ.out
        | false =>
          have hbs : i < b.size := by
            obtain ⟨e1, e2, _⟩ := HJ.out.no rfl
            have := endB_ne e2
            rw [e1] at this
            have h2 := List.length_pos_iff.2 this
            rw [List.length_drop, strN_len] at h2
            omega
          have hbx : (i : Int) < (b.size : Int) := by omega
          obtain ⟨y, hy⟩ : ∃ y, y = (strN b).getD i 256 := ⟨_, rfl⟩
          have hyb := (strN_isB b).getD (k := i) (by rw [strN_len]; exact hbs)
          have hya := at_strN b i hbs 0
          rw [show (strN b).getD i 0 = y from ((at_strN b i hbs 0).symm.trans (at_strN b i hbs 256)).trans hy.symm] at hyb hya
          have HY : Hid (y = b'.headD 256) := by show _ = _; rw [(HJ.out.no rfl).1, headD_drop]; exact hy
          clear hy
          by_cases hc : 2 ≤ y
          · obtain ⟨q, hq⟩ : ∃ q, q = y / 2 := ⟨_, rfl⟩
            have hqt : y.tdiv 2 = q := by rw [Int.tdiv_eq_ediv_of_nonneg (by omega), hq]
            have hqb : 1 ≤ q ∧ q ≤ 255 := by omega
            have HP := Lib.hid (show ∀ v2 w3 z, z = q → Grew .u8 5 w.heap.size wr u6 cur [z] v2 w3 → _ from fun v2 w3 z hz h => ref_last (x := 0) (y := y) HM.out HJ.out hi64 HX.out HY.out (by omega) (by omega) h)
            clear hq
            go_wp2_with (at_builtin
                         refine wpB_one rfl _ _ rfl w.heap.size wr u6 cur _ rfl HW.out rfl hlen hwb ?_
                         intro v1 w2 hp1
                         obtain ⟨ad, n, cap, rfl, hst, hpost⟩ := HP.out v1 w2 _ (by first | rfl | omega) hp1
                         have HQ := Lib.hid hpost
                         clear hp1 hpost HP HJ HW)
            go_ret2
            exact HQ.out
          · by_cases hj : y = 1
            · subst hj
              have HP := Lib.hid (show ∀ v2 w3 z, z = 0 → Grew .u8 5 w.heap.size wr u6 cur [z] v2 w3 → _ from fun v2 w3 z hz h => ref_next (x := 0) (y := 1) (left' := true) HJ.out HX.out HY.out (by omega) hz (by simp <;> omega) h)
              go_wp2_with (at_builtin
                           refine wpB_one rfl _ _ rfl w.heap.size wr u6 cur _ rfl HW.out rfl hlen hwb ?_
                           intro v1 w2 hp1
                           obtain ⟨b2, cur2, hn2⟩ := HP.out v1 w2 _ (by first | rfl | omega) hp1
                           have HQ := Lib.hid hn2
                           clear hp1 hn2 HP HJ HW)
              go_roundg (64 - (i + 1))
              case measure => omega
              case rel => exact ⟨i + 1, true, by first | rfl | simp, by go_num, by omega, by omega, ⟨b2, cur2, HQ.out⟩⟩
            · obtain rfl : y = 0 := by omega
              have HP := Lib.hid (show ∀ v2 w3 z, z = 0 → Grew .u8 5 w.heap.size wr u6 cur [z] v2 w3 → _ from fun v2 w3 z hz h => ref_next (x := 0) (y := 0) (left' := false) HJ.out HX.out HY.out (by omega) hz (by simp <;> omega) h)
              go_wp2_with (at_builtin
                           refine wpB_one rfl _ _ rfl w.heap.size wr u6 cur _ rfl HW.out rfl hlen hwb ?_
                           intro v1 w2 hp1
                           obtain ⟨b2, cur2, hn2⟩ := HP.out v1 w2 _ (by first | rfl | omega) hp1
                           have HQ := Lib.hid hn2
                           clear hp1 hn2 HP HJ HW)
              go_roundg (64 - (i + 1))
              case measure => omega
              case rel => exact ⟨i + 1, false, by first | rfl | simp, by go_num, by omega, by omega, ⟨b2, cur2, HQ.out⟩⟩
    · have hiz : ¬ (i : Int) < 64 := by omega
      obtain ⟨b', cur, hI⟩ := HI.out
      have HF := Lib.hid (ref_full hI (by omega))
      clear hI HI
      go_wp2
      go_ret2
      exact HF.out
end Go.Proofs.Ytobnecjkanaofaa
