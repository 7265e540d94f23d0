/- The walks of the laws of one property each. -/
import Derived.Test.YtahimngohnghaabDoorQ1
namespace Go.Proofs.YtahimngohnghaabDoor
open Go.RowKit Go.Lib
set_option linter.unusedVariables false

set_option maxHeartbeats 400000 in
theorem propGrows_walk (a : Option Addr) (n cap : Nat) (w : World) (ht : Tab w) (h : AsksIs w a n) : Calls Tryd.prog 3 #[.slice a n cap] w (BoolPost w true) := by
  have C : Hid (Calls Tryd.prog 13 #[.slice a n cap, .int .i64 9] w (BoolPost w true)) := one_walk a n cap 9 (by omega) w ht h
  clear h ht
  go_enter Tryd.func3, Tryd.ntmps3
  go_wp2_with fail
  refine (C.out).mono ?_
  rintro e w1 ⟨rfl, hb⟩
  have HB := Lib.hid hb
  clear hb
  go_wp2
  go_ret
  exact ⟨rfl, HB.out⟩

set_option maxHeartbeats 400000 in
theorem propShrinks_walk (a : Option Addr) (n cap : Nat) (w : World) (ht : Tab w) (h : AsksIs w a n) : Calls Tryd.prog 4 #[.slice a n cap] w (BoolPost w true) := by
  have C : Hid (Calls Tryd.prog 13 #[.slice a n cap, .int .i64 10] w (BoolPost w true)) := one_walk a n cap 10 (by omega) w ht h
  clear h ht
  go_enter Tryd.func4, Tryd.ntmps4
  go_wp2_with fail
  refine (C.out).mono ?_
  rintro e w1 ⟨rfl, hb⟩
  have HB := Lib.hid hb
  clear hb
  go_wp2
  go_ret
  exact ⟨rfl, HB.out⟩

set_option maxHeartbeats 400000 in
theorem propBases_walk (a : Option Addr) (n cap : Nat) (w : World) (ht : Tab w) (h : AsksIs w a n) : Calls Tryd.prog 5 #[.slice a n cap] w (BoolPost w true) := by
  have C : Hid (Calls Tryd.prog 13 #[.slice a n cap, .int .i64 11] w (BoolPost w true)) := one_walk a n cap 11 (by omega) w ht h
  clear h ht
  go_enter Tryd.func5, Tryd.ntmps5
  go_wp2_with fail
  refine (C.out).mono ?_
  rintro e w1 ⟨rfl, hb⟩
  have HB := Lib.hid hb
  clear hb
  go_wp2
  go_ret
  exact ⟨rfl, HB.out⟩

set_option maxHeartbeats 400000 in
theorem propMargins_walk (a : Option Addr) (n cap : Nat) (w : World) (ht : Tab w) (h : AsksIs w a n) : Calls Tryd.prog 6 #[.slice a n cap] w (BoolPost w true) := by
  have C : Hid (Calls Tryd.prog 13 #[.slice a n cap, .int .i64 12] w (BoolPost w true)) := one_walk a n cap 12 (by omega) w ht h
  clear h ht
  go_enter Tryd.func6, Tryd.ntmps6
  go_wp2_with fail
  refine (C.out).mono ?_
  rintro e w1 ⟨rfl, hb⟩
  have HB := Lib.hid hb
  clear hb
  go_wp2
  go_ret
  exact ⟨rfl, HB.out⟩

set_option maxHeartbeats 400000 in
theorem propPads_walk (a : Option Addr) (n cap : Nat) (w : World) (ht : Tab w) (h : AsksIs w a n) : Calls Tryd.prog 7 #[.slice a n cap] w (BoolPost w true) := by
  have C : Hid (Calls Tryd.prog 13 #[.slice a n cap, .int .i64 13] w (BoolPost w true)) := one_walk a n cap 13 (by omega) w ht h
  clear h ht
  go_enter Tryd.func7, Tryd.ntmps7
  go_wp2_with fail
  refine (C.out).mono ?_
  rintro e w1 ⟨rfl, hb⟩
  have HB := Lib.hid hb
  clear hb
  go_wp2
  go_ret
  exact ⟨rfl, HB.out⟩

set_option maxHeartbeats 400000 in
theorem propGaps_walk (a : Option Addr) (n cap : Nat) (w : World) (ht : Tab w) (h : AsksIs w a n) : Calls Tryd.prog 8 #[.slice a n cap] w (BoolPost w true) := by
  have C : Hid (Calls Tryd.prog 13 #[.slice a n cap, .int .i64 14] w (BoolPost w true)) := one_walk a n cap 14 (by omega) w ht h
  clear h ht
  go_enter Tryd.func8, Tryd.ntmps8
  go_wp2_with fail
  refine (C.out).mono ?_
  rintro e w1 ⟨rfl, hb⟩
  have HB := Lib.hid hb
  clear hb
  go_wp2
  go_ret
  exact ⟨rfl, HB.out⟩

set_option maxHeartbeats 400000 in
theorem propJusts_walk (a : Option Addr) (n cap : Nat) (w : World) (ht : Tab w) (h : AsksIs w a n) : Calls Tryd.prog 9 #[.slice a n cap] w (BoolPost w true) := by
  have C : Hid (Calls Tryd.prog 13 #[.slice a n cap, .int .i64 15] w (BoolPost w true)) := one_walk a n cap 15 (by omega) w ht h
  clear h ht
  go_enter Tryd.func9, Tryd.ntmps9
  go_wp2_with fail
  refine (C.out).mono ?_
  rintro e w1 ⟨rfl, hb⟩
  have HB := Lib.hid hb
  clear hb
  go_wp2
  go_ret
  exact ⟨rfl, HB.out⟩

set_option maxHeartbeats 400000 in
theorem propAligns_walk (a : Option Addr) (n cap : Nat) (w : World) (ht : Tab w) (h : AsksIs w a n) : Calls Tryd.prog 10 #[.slice a n cap] w (BoolPost w true) := by
  have C : Hid (Calls Tryd.prog 13 #[.slice a n cap, .int .i64 16] w (BoolPost w true)) := one_walk a n cap 16 (by omega) w ht h
  clear h ht
  go_enter Tryd.func10, Tryd.ntmps10
  go_wp2_with fail
  refine (C.out).mono ?_
  rintro e w1 ⟨rfl, hb⟩
  have HB := Lib.hid hb
  clear hb
  go_wp2
  go_ret
  exact ⟨rfl, HB.out⟩

set_option maxHeartbeats 400000 in
theorem propColors_walk (a : Option Addr) (n cap : Nat) (w : World) (ht : Tab w) (h : AsksIs w a n) : Calls Tryd.prog 11 #[.slice a n cap] w (BoolPost w true) := by
  have C : Hid (Calls Tryd.prog 13 #[.slice a n cap, .int .i64 17] w (BoolPost w true)) := one_walk a n cap 17 (by omega) w ht h
  clear h ht
  go_enter Tryd.func11, Tryd.ntmps11
  go_wp2_with fail
  refine (C.out).mono ?_
  rintro e w1 ⟨rfl, hb⟩
  have HB := Lib.hid hb
  clear hb
  go_wp2
  go_ret
  exact ⟨rfl, HB.out⟩

set_option maxHeartbeats 400000 in
theorem propFonts_walk (a : Option Addr) (n cap : Nat) (w : World) (ht : Tab w) (h : AsksIs w a n) : Calls Tryd.prog 12 #[.slice a n cap] w (BoolPost w true) := by
  have C : Hid (Calls Tryd.prog 13 #[.slice a n cap, .int .i64 18] w (BoolPost w true)) := one_walk a n cap 18 (by omega) w ht h
  clear h ht
  go_enter Tryd.func12, Tryd.ntmps12
  go_wp2_with fail
  refine (C.out).mono ?_
  rintro e w1 ⟨rfl, hb⟩
  have HB := Lib.hid hb
  clear hb
  go_wp2
  go_ret
  exact ⟨rfl, HB.out⟩
end Go.Proofs.YtahimngohnghaabDoor
