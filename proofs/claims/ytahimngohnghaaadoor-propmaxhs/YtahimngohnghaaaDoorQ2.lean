/- The walks of the laws of one property each. -/
import Derived.Test.YtahimngohnghaaaDoorQ1
namespace Go.Proofs.YtahimngohnghaaaDoor
open Go.RowKit Go.Lib
set_option linter.unusedVariables false

set_option maxHeartbeats 400000 in
theorem propDisplays_walk (a : Option Addr) (n cap : Nat) (w : World) (ht : Tab w) (h : AsksIs w a n) : Calls Tryd.prog 6 #[.slice a n cap] w (BoolPost w true) := by
  have C : Hid (Calls Tryd.prog 30 #[.slice a n cap, .int .i64 0] w (BoolPost w true)) := one_walk a n cap 0 (by omega) w ht h
  clear h ht
  go_enter Tryd.func6, Tryd.ntmps6
  go_wp2_with fail
  refine (C.out).mono ?_
  rintro e w1 ⟨rfl, hb⟩
  have HB := Lib.hid hb
  clear hb
  go_wp2
  go_ret
  exact ⟨rfl, HB.out⟩

set_option maxHeartbeats 400000 in
theorem propDirects_walk (a : Option Addr) (n cap : Nat) (w : World) (ht : Tab w) (h : AsksIs w a n) : Calls Tryd.prog 7 #[.slice a n cap] w (BoolPost w true) := by
  have C : Hid (Calls Tryd.prog 30 #[.slice a n cap, .int .i64 1] w (BoolPost w true)) := one_walk a n cap 1 (by omega) w ht h
  clear h ht
  go_enter Tryd.func7, Tryd.ntmps7
  go_wp2_with fail
  refine (C.out).mono ?_
  rintro e w1 ⟨rfl, hb⟩
  have HB := Lib.hid hb
  clear hb
  go_wp2
  go_ret
  exact ⟨rfl, HB.out⟩

set_option maxHeartbeats 400000 in
theorem propWraps_walk (a : Option Addr) (n cap : Nat) (w : World) (ht : Tab w) (h : AsksIs w a n) : Calls Tryd.prog 8 #[.slice a n cap] w (BoolPost w true) := by
  have C : Hid (Calls Tryd.prog 30 #[.slice a n cap, .int .i64 2] w (BoolPost w true)) := one_walk a n cap 2 (by omega) w ht h
  clear h ht
  go_enter Tryd.func8, Tryd.ntmps8
  go_wp2_with fail
  refine (C.out).mono ?_
  rintro e w1 ⟨rfl, hb⟩
  have HB := Lib.hid hb
  clear hb
  go_wp2
  go_ret
  exact ⟨rfl, HB.out⟩

set_option maxHeartbeats 400000 in
theorem propWidths_walk (a : Option Addr) (n cap : Nat) (w : World) (ht : Tab w) (h : AsksIs w a n) : Calls Tryd.prog 9 #[.slice a n cap] w (BoolPost w true) := by
  have C : Hid (Calls Tryd.prog 30 #[.slice a n cap, .int .i64 3] w (BoolPost w true)) := one_walk a n cap 3 (by omega) w ht h
  clear h ht
  go_enter Tryd.func9, Tryd.ntmps9
  go_wp2_with fail
  refine (C.out).mono ?_
  rintro e w1 ⟨rfl, hb⟩
  have HB := Lib.hid hb
  clear hb
  go_wp2
  go_ret
  exact ⟨rfl, HB.out⟩

set_option maxHeartbeats 400000 in
theorem propHeights_walk (a : Option Addr) (n cap : Nat) (w : World) (ht : Tab w) (h : AsksIs w a n) : Calls Tryd.prog 10 #[.slice a n cap] w (BoolPost w true) := by
  have C : Hid (Calls Tryd.prog 30 #[.slice a n cap, .int .i64 4] w (BoolPost w true)) := one_walk a n cap 4 (by omega) w ht h
  clear h ht
  go_enter Tryd.func10, Tryd.ntmps10
  go_wp2_with fail
  refine (C.out).mono ?_
  rintro e w1 ⟨rfl, hb⟩
  have HB := Lib.hid hb
  clear hb
  go_wp2
  go_ret
  exact ⟨rfl, HB.out⟩

set_option maxHeartbeats 400000 in
theorem propMinWs_walk (a : Option Addr) (n cap : Nat) (w : World) (ht : Tab w) (h : AsksIs w a n) : Calls Tryd.prog 11 #[.slice a n cap] w (BoolPost w true) := by
  have C : Hid (Calls Tryd.prog 30 #[.slice a n cap, .int .i64 5] w (BoolPost w true)) := one_walk a n cap 5 (by omega) w ht h
  clear h ht
  go_enter Tryd.func11, Tryd.ntmps11
  go_wp2_with fail
  refine (C.out).mono ?_
  rintro e w1 ⟨rfl, hb⟩
  have HB := Lib.hid hb
  clear hb
  go_wp2
  go_ret
  exact ⟨rfl, HB.out⟩

set_option maxHeartbeats 400000 in
theorem propMaxWs_walk (a : Option Addr) (n cap : Nat) (w : World) (ht : Tab w) (h : AsksIs w a n) : Calls Tryd.prog 12 #[.slice a n cap] w (BoolPost w true) := by
  have C : Hid (Calls Tryd.prog 30 #[.slice a n cap, .int .i64 6] w (BoolPost w true)) := one_walk a n cap 6 (by omega) w ht h
  clear h ht
  go_enter Tryd.func12, Tryd.ntmps12
  go_wp2_with fail
  refine (C.out).mono ?_
  rintro e w1 ⟨rfl, hb⟩
  have HB := Lib.hid hb
  clear hb
  go_wp2
  go_ret
  exact ⟨rfl, HB.out⟩

set_option maxHeartbeats 400000 in
theorem propMinHs_walk (a : Option Addr) (n cap : Nat) (w : World) (ht : Tab w) (h : AsksIs w a n) : Calls Tryd.prog 13 #[.slice a n cap] w (BoolPost w true) := by
  have C : Hid (Calls Tryd.prog 30 #[.slice a n cap, .int .i64 7] w (BoolPost w true)) := one_walk a n cap 7 (by omega) w ht h
  clear h ht
  go_enter Tryd.func13, Tryd.ntmps13
  go_wp2_with fail
  refine (C.out).mono ?_
  rintro e w1 ⟨rfl, hb⟩
  have HB := Lib.hid hb
  clear hb
  go_wp2
  go_ret
  exact ⟨rfl, HB.out⟩

set_option maxHeartbeats 400000 in
theorem propMaxHs_walk (a : Option Addr) (n cap : Nat) (w : World) (ht : Tab w) (h : AsksIs w a n) : Calls Tryd.prog 14 #[.slice a n cap] w (BoolPost w true) := by
  have C : Hid (Calls Tryd.prog 30 #[.slice a n cap, .int .i64 8] w (BoolPost w true)) := one_walk a n cap 8 (by omega) w ht h
  clear h ht
  go_enter Tryd.func14, Tryd.ntmps14
  go_wp2_with fail
  refine (C.out).mono ?_
  rintro e w1 ⟨rfl, hb⟩
  have HB := Lib.hid hb
  clear hb
  go_wp2
  go_ret
  exact ⟨rfl, HB.out⟩
end Go.Proofs.YtahimngohnghaaaDoor
