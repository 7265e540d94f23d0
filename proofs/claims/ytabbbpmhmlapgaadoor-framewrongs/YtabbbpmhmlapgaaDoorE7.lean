/- Rows of numbers out of bytes. -/
import Derived.Test.YtabbbpmhmlapgaaDoorE6
namespace Go.Proofs.YtabbbpmhmlapgaaDoor
open Go.RowKit Go.Lib
set_option linter.unusedVariables false

def ListPost (bs : List Int) (w : World) (e : Ending) (w' : World) : Prop := ∃ v, e = .returned (.tuple #[v, .int .i64 ((tkNs bs).2.1 : Int), .int .i64 (tkNs bs).2.2]) ∧ OwnK .i64 3 w' w.heap.size v (tkNs bs).1 ∧ Below w.heap.size w w'
theorem listPost_err' {bs : List Int} {w w' : World} {x : Int} (h : tkNs bs = ([], 0, x)) (hb : Below w.heap.size w w') : ListPost bs w (.returned (.tuple #[.slice none 0 0, .int .i64 0, .int .i64 x])) w' :=
  ⟨.slice none 0 0, by rw [h]; rfl, by rw [h]; exact OwnK.nil _ _ _ _, hb⟩
theorem listPost_err {bs : List Int} {w : World} {x : Int} (h : tkNs bs = ([], 0, x)) : ListPost bs w (.returned (.tuple #[.slice none 0 0, .int .i64 0, .int .i64 x])) w := listPost_err' h (Below.refl _ _)
theorem listPost_ok {bs ls : List Int} {w w' : World} {p : Nat} {v : Value} (h : tkNs bs = (ls, p, 0)) (ho : OwnK .i64 3 w' w.heap.size v ls) (hb : Below w.heap.size w w') : ListPost bs w (.returned (.tuple #[v, .int .i64 (p : Int), .int .i64 0])) w' :=
  ⟨v, by rw [h], by rw [h]; exact ho, hb⟩

set_option maxHeartbeats 4000000 in
set_option maxRecDepth 100000 in
theorem takeNums_any (a : Option Addr) (bs : List Int) (cap : Nat) (w : World) (hr : RowK .u8 w a bs) (hb : IsB bs) (hcap : bs.length ≤ cap) (hlen : bs.length ≤ 140737488355328) :
    Calls Tryd.prog 58 #[.slice a bs.length cap] w (ListPost bs w) := by
  have H := Lib.hid (takeCount_any a bs cap 1024 w hr hb)
  have HR := Lib.hid hr
  have HB := Lib.hid hb
  by_cases he : (tkN bs).2.2 = 0
  · obtain ⟨b1, b2, b3, b4, _⟩ := tkN_back hb he
    by_cases hm : 1024 < (tkN bs).1
    · have HT : Hid (ListPost bs w (.returned (.tuple #[.slice none 0 0, .int .i64 0, .int .i64 1])) w) := listPost_err (by unfold tkNs; rw [if_neg (by simp [he]), if_pos hm])
      have HE : Hid (tkC bs 1024 = (0, 0, 1)) := by show tkC bs 1024 = _; unfold tkC; rw [if_neg (by simp [he]), if_pos hm]
      rw [HE.out] at H
      clear HE
      clear hr hb he b3 b4
      generalize (tkN bs).1 = x at *
      go_enter Tryd.func58, Tryd.ntmps58
      go_wp2_with fail
      refine (H.out).mono ?_
      rintro e w' ⟨rfl, rfl⟩
      go_wp2
      go_ret3
      exact HT.out
    · have HE : Hid (tkC bs 1024 = tkN bs) := by show tkC bs 1024 = _; unfold tkC; rw [if_neg (by simp [he]), if_neg hm]
      rw [HE.out, he] at H
      clear HE
      obtain ⟨n, hn⟩ : ∃ n : Nat, (tkN bs).1 = (n : Int) := ⟨(tkN bs).1.toNat, by omega⟩
      obtain ⟨k, hk⟩ : ∃ k : Nat, (tkN bs).2.1 = k := ⟨_, rfl⟩
      have HTS : Hid (tkL bs n k [] = tkNs bs) := by show _ = _; unfold tkNs; rw [if_neg (by simp [he]), if_neg hm, hn, hk, Int.toNat_natCast]
      rw [hn, hk] at H
      rw [hn] at hm b1 b2
      rw [hk] at b3 b4
      clear hn hk he hr hb b2
      go_enter Tryd.func58, Tryd.ntmps58
      go_wp2_with fail
      refine (H.out).mono ?_
      rintro e w' ⟨rfl, rfl⟩
      go_wp2
      go_loopg [2, 6, 20] n (fun g1 vl vp vi wr => ∃ (c p : Nat) (z : Int) (ls : List Int), vi = .int .i64 c ∧ vp = .int .i64 z ∧ z = (p : Int) ∧ c ≤ n ∧ n - c ≤ g1 ∧ p ≤ bs.length ∧ Hid (OwnK .i64 3 wr w.heap.size vl ls ∧ ls.length = c ∧ Below w.heap.size w wr ∧ tkL bs (n - c) p ls = tkNs bs))
      case atStart => exact ⟨0, k, _, [], rfl, rfl, rfl, Nat.zero_le _, by omega, b4, ⟨OwnK.nil _ _ _ _, rfl, Below.refl _ _, HTS.out⟩⟩
      case round =>
        obtain ⟨c, p, z, ls, rfl, rfl, rfl, hcn, hg1, hp, HI⟩ := hrel
        have hsz := HI.out.2.2.1.size
        by_cases hlt : c < n
        · have hltz : (c : Int) < (n : Int) := by omega
          obtain ⟨r, hr1⟩ : ∃ r, n - c = r + 1 := ⟨n - c - 1, by omega⟩
          have hsl := slice_l wr a bs.length cap p (p : Int) rfl hp
          have HRW : Hid (RowK .u8 wr a bs) := HR.out.below HI.out.2.2.1 (Nat.le_refl _)
          have H2 := Lib.hid (takeNum_any (partA a p cap) (bs.drop p) (cap - p) wr (HRW.out.rest p cap hcap) (HB.out.drop p))
          rw [List.length_drop] at H2
          unfold TakePost at H2
          have hT := HI.out.2.2.2
          rw [hr1, tkL] at hT
          obtain ⟨k1, k2, k3⟩ := tkN_k (bs.drop p) (HB.out.drop p)
          rw [List.length_drop] at k1
          have HLL := Lib.hid HI.out.2.1
          by_cases he2 : (tkN (bs.drop p)).2.2 = 0
          · rw [if_neg (by simp [he2])] at hT
            rw [he2] at H2
            generalize (tkN (bs.drop p)).1 = x at *
            generalize (tkN (bs.drop p)).2.1 = q at *
            have HT := Lib.hid hT
            clear hT he2
            go_wp2_with (first
              | (go_at_call 51
                 refine (H2.out).mono ?_
                 rintro e w' ⟨rfl, rfl⟩)
              | (at_builtin
                 refine wpI_one rfl _ _ rfl w.heap.size wr u2 ls x rfl HI.out.1 rfl (by have := HLL.out; omega) (by omega) ?_
                 intro v3 w3 hp3
                 have HI2 : Hid (OwnK .i64 3 w3 w.heap.size v3 (ls ++ [x]) ∧ (ls ++ [x]).length = c + 1 ∧ Below w.heap.size w w3 ∧ tkL bs (n - (c + 1)) (p + q) (ls ++ [x]) = tkNs bs) := ⟨hp3.own, by rw [List.length_append, HLL.out]; rfl, hp3.bel _ _ HI.out.2.2.1 (Nat.le_refl _) (by omega), by rw [show n - (c + 1) = r by omega]; exact HT.out⟩
                 clear hp3))
            go_roundg (n - (c + 1))
            case measure => omega
            case rel => exact ⟨c + 1, p + q, _, ls ++ [x], by go_num, rfl, by omega, by omega, by omega, by omega, HI2⟩
          · rw [if_pos he2] at hT
            have HE : Hid (ListPost bs w (.returned (.tuple #[.slice none 0 0, .int .i64 0, .int .i64 (tkN (bs.drop p)).2.2])) wr) := listPost_err' hT.symm HI.out.2.2.1
            clear hT
            generalize (tkN (bs.drop p)).2.2 = x at *
            generalize (tkN (bs.drop p)).1 = x1 at *
            generalize (tkN (bs.drop p)).2.1 = q at *
            go_wp2_with fail
            refine (H2.out).mono ?_
            rintro e w' ⟨rfl, rfl⟩
            go_wp2
            go_ret3
            exact HE.out
        · have hltz : ¬ (c : Int) < (n : Int) := by omega
          have HE : Hid (ListPost bs w (.returned (.tuple #[u2, .int .i64 (p : Int), .int .i64 0])) wr) := by
            have h := HI.out
            have h2 := h.2.2.2
            rw [show n - c = 0 by omega, tkL] at h2
            exact listPost_ok h2.symm h.1 h.2.2.1
          go_wp2
          go_ret3
          exact HE.out
  · have HT : Hid (ListPost bs w (.returned (.tuple #[.slice none 0 0, .int .i64 0, .int .i64 (tkN bs).2.2])) w) := listPost_err (by unfold tkNs; rw [if_pos he])
    have HE : Hid (tkC bs 1024 = (0, 0, (tkN bs).2.2)) := by show tkC bs 1024 = _; unfold tkC; rw [if_pos he]
    rw [HE.out] at H
    clear HE
    clear hr hb
    generalize (tkN bs).2.2 = x at *
    go_enter Tryd.func58, Tryd.ntmps58
    go_wp2_with fail
    refine (H.out).mono ?_
    rintro e w' ⟨rfl, rfl⟩
    go_wp2
    go_ret3
    exact HT.out

end Go.Proofs.YtabbbpmhmlapgaaDoor
