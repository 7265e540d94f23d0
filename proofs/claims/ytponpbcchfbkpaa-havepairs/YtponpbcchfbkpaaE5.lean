/- How many follow; texts. -/
import Derived.Test.YtponpbcchfbkpaaE4
namespace Go.Proofs.Ytponpbcchfbkpaa
open Go.RowKit Go.Lib
set_option linter.unusedVariables false

/-- the number that says how many follow, at most so many -/
def tkC (bs : List Int) (m : Int) : Int × Nat × Int := if (tkN bs).2.2 ≠ 0 then (0, 0, (tkN bs).2.2) else if m < (tkN bs).1 then (0, 0, 1) else tkN bs

set_option maxHeartbeats 2000000 in
theorem takeCount_any (a : Option Addr) (bs : List Int) (cap : Nat) (m : Int) (w : World) (hr : RowK .u8 w a bs) (hb : IsB bs) :
    Calls Try.prog 36 #[.slice a bs.length cap, .int .i64 m] w fun e w' => e = .returned (.tuple #[.int .i64 (tkC bs m).1, .int .i64 ((tkC bs m).2.1 : Int), .int .i64 (tkC bs m).2.2]) ∧ w = w' := by
  have H := Lib.hid (takeNum_any a bs cap w hr hb)
  clear hr hb
  by_cases he : (tkN bs).2.2 = 0
  · by_cases hm : m < (tkN bs).1
    · have HE : Hid (tkC bs m = (0, 0, 1)) := by show tkC bs m = _; unfold tkC; rw [if_neg (by simp [he]), if_pos hm]
      go_enter Try.func36, Try.ntmps36
      go_wp2_with fail
      refine (H.out).mono ?_
      rintro e w' ⟨rfl, rfl⟩
      go_wp2
      go_ret3
      exact ⟨by rw [HE.out]; rfl, rfl⟩
    · have HE : Hid (tkC bs m = tkN bs) := by show tkC bs m = _; unfold tkC; rw [if_neg (by simp [he]), if_neg hm]
      have HZ := Lib.hid he
      go_enter Try.func36, Try.ntmps36
      go_wp2_with fail
      refine (H.out).mono ?_
      rintro e w' ⟨rfl, rfl⟩
      go_wp2
      go_ret3
      exact ⟨by rw [HE.out, HZ.out]; rfl, rfl⟩
  · have HE : Hid (tkC bs m = (0, 0, (tkN bs).2.2)) := by show tkC bs m = _; unfold tkC; rw [if_pos he]
    go_enter Try.func36, Try.ntmps36
    go_wp2_with fail
    refine (H.out).mono ?_
    rintro e w' ⟨rfl, rfl⟩
    go_wp2
    go_ret3
    exact ⟨by rw [HE.out]; rfl, rfl⟩

def TextPost (bs : List Int) (w : World) (e : Ending) (w' : World) : Prop := e = .returned (.tuple #[.string (tkS bs).1, .int .i64 ((tkS bs).2.1 : Int), .int .i64 (tkS bs).2.2]) ∧ w = w'

end Go.Proofs.Ytponpbcchfbkpaa
