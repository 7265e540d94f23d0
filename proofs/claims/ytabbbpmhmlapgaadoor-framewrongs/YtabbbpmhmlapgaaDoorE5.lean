/- How many follow; texts. -/
import Derived.Test.YtabbbpmhmlapgaaDoorE4
namespace Go.Proofs.YtabbbpmhmlapgaaDoor
open Go.RowKit Go.Lib
set_option linter.unusedVariables false

/-- the number that says how many follow, at most so many -/
def tkC (bs : List Int) (m : Int) : Int × Nat × Int := if (tkN bs).2.2 ≠ 0 then (0, 0, (tkN bs).2.2) else if m < (tkN bs).1 then (0, 0, 1) else tkN bs

set_option maxHeartbeats 2000000 in
set_option maxRecDepth 100000 in
theorem takeCount_any (a : Option Addr) (bs : List Int) (cap : Nat) (m : Int) (w : World) (hr : RowK .u8 w a bs) (hb : IsB bs) :
    Calls Tryd.prog 59 #[.slice a bs.length cap, .int .i64 m] w fun e w' => e = .returned (.tuple #[.int .i64 (tkC bs m).1, .int .i64 ((tkC bs m).2.1 : Int), .int .i64 (tkC bs m).2.2]) ∧ w = w' := by
  have H := Lib.hid (takeNum_any a bs cap w hr hb)
  clear hr hb
  by_cases he : (tkN bs).2.2 = 0
  · by_cases hm : m < (tkN bs).1
    · have HE : Hid (tkC bs m = (0, 0, 1)) := by show tkC bs m = _; unfold tkC; rw [if_neg (by simp [he]), if_pos hm]
      go_enter Tryd.func59, Tryd.ntmps59
      go_wp2_with fail
      refine (H.out).mono ?_
      rintro e w' ⟨rfl, rfl⟩
      go_wp2
      go_ret3
      exact ⟨by rw [HE.out]; rfl, rfl⟩
    · have HE : Hid (tkC bs m = tkN bs) := by show tkC bs m = _; unfold tkC; rw [if_neg (by simp [he]), if_neg hm]
      have HZ := Lib.hid he
      go_enter Tryd.func59, Tryd.ntmps59
      go_wp2_with fail
      refine (H.out).mono ?_
      rintro e w' ⟨rfl, rfl⟩
      go_wp2
      go_ret3
      exact ⟨by rw [HE.out, HZ.out]; rfl, rfl⟩
  · have HE : Hid (tkC bs m = (0, 0, (tkN bs).2.2)) := by show tkC bs m = _; unfold tkC; rw [if_pos he]
    go_enter Tryd.func59, Tryd.ntmps59
    go_wp2_with fail
    refine (H.out).mono ?_
    rintro e w' ⟨rfl, rfl⟩
    go_wp2
    go_ret3
    exact ⟨by rw [HE.out]; rfl, rfl⟩

def TextPost (bs : List Int) (w : World) (e : Ending) (w' : World) : Prop := e = .returned (.tuple #[.string (tkS bs).1, .int .i64 ((tkS bs).2.1 : Int), .int .i64 (tkS bs).2.2]) ∧ w = w'

set_option maxHeartbeats 2000000 in
set_option maxRecDepth 100000 in
theorem takeText_any (a : Option Addr) (bs : List Int) (cap : Nat) (w : World) (hr : RowK .u8 w a bs) (hb : IsB bs) (hcap : bs.length ≤ cap) (hlen : bs.length ≤ 140737488355328) :
    Calls Tryd.prog 50 #[.slice a bs.length cap] w (TextPost bs w) := by
  have H := Lib.hid (takeCount_any a bs cap 65536 w hr hb)
  by_cases he : (tkN bs).2.2 = 0
  · obtain ⟨b1, b2, b3, b4, _⟩ := tkN_back hb he
    by_cases hm : 65536 < (tkN bs).1
    · have HE : Hid (tkC bs 65536 = (0, 0, 1)) := by show tkC bs 65536 = _; unfold tkC; rw [if_neg (by simp [he]), if_pos hm]
      have HT : Hid (tkS bs = (⟨#[]⟩, 0, 1)) := by show tkS bs = _; unfold tkS; rw [if_neg (by simp [he]), if_pos hm]
      clear hr hb hm he b1 b2 b3 b4
      rw [HE.out] at H
      clear HE
      go_enter Tryd.func50, Tryd.ntmps50
      go_wp2_with fail
      refine (H.out).mono ?_
      rintro e w' ⟨rfl, rfl⟩
      go_wp2
      go_ret3
      exact ⟨by rw [HT.out]; rfl, rfl⟩
    · have HE : Hid (tkC bs 65536 = tkN bs) := by show tkC bs 65536 = _; unfold tkC; rw [if_neg (by simp [he]), if_neg hm]
      rw [HE.out, he] at H
      clear HE
      obtain ⟨n, hn⟩ : ∃ n : Nat, (tkN bs).1 = (n : Int) := ⟨(tkN bs).1.toNat, by omega⟩
      obtain ⟨k, hk⟩ : ∃ k : Nat, (tkN bs).2.1 = k := ⟨_, rfl⟩
      have hTS : tkS bs = if (bs.length : Int) - (k : Int) < (n : Int) then (⟨#[]⟩, 0, 7) else (strOfNums ((bs.drop k).take n), k + n, 0) := by
        unfold tkS; rw [if_neg (by simp [he]), if_neg hm, hn, hk, Int.toNat_natCast]
      rw [hn, hk] at H
      rw [hn] at hm b1 b2
      rw [hk] at b3 b4
      clear hn hk he
      by_cases hs : (bs.length : Int) - (k : Int) < (n : Int)
      · have HT : Hid (tkS bs = (⟨#[]⟩, 0, 7)) := by show tkS bs = _; rw [hTS, if_pos hs]
        clear hr hb hTS
        go_enter Tryd.func50, Tryd.ntmps50
        go_wp2_with fail
        refine (H.out).mono ?_
        rintro e w' ⟨rfl, rfl⟩
        go_wp2
        go_ret3
        exact ⟨by rw [HT.out]; rfl, rfl⟩
      · have HT : Hid (tkS bs = (strOfNums ((bs.drop k).take n), k + n, 0)) := by show tkS bs = _; rw [hTS, if_neg hs]
        have hsl := slice_lh w a bs.length cap k (k + n) (k : Int) ((k : Int) + (n : Int)) rfl (by omega) (by omega) (by omega)
        rw [show k + n - k = n by omega] at hsl
        have hcv := to_str w (partA a k cap) ((bs.drop k).take n) n (cap - k) (by rw [List.length_take, List.length_drop]; omega) (hr.part k n cap hcap)
        clear hr hb hTS
        generalize strOfNums ((bs.drop k).take n) = S at *
        go_enter Tryd.func50, Tryd.ntmps50
        go_wp2_with fail
        refine (H.out).mono ?_
        rintro e w' ⟨rfl, rfl⟩
        go_wp2
        go_ret3
        exact ⟨by rw [HT.out]; simp, rfl⟩
  · have HE : Hid (tkC bs 65536 = (0, 0, (tkN bs).2.2)) := by show tkC bs 65536 = _; unfold tkC; rw [if_pos he]
    have HT : Hid (tkS bs = (⟨#[]⟩, 0, (tkN bs).2.2)) := by show tkS bs = _; unfold tkS; rw [if_pos he]
    clear hr hb
    rw [HE.out] at H
    clear HE
    generalize (tkN bs).2.2 = x at *
    go_enter Tryd.func50, Tryd.ntmps50
    go_wp2_with fail
    refine (H.out).mono ?_
    rintro e w' ⟨rfl, rfl⟩
    go_wp2
    go_ret3
    exact ⟨by rw [HT.out]; rfl, rfl⟩

end Go.Proofs.YtabbbpmhmlapgaaDoor
