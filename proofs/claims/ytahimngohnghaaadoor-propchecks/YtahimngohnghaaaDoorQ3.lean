/- The walk of PropChecks. -/
import Derived.Test.YtahimngohnghaaaDoorQ1
namespace Go.Proofs.YtahimngohnghaaaDoor
open Go.RowKit Go.Lib
set_option linter.unusedVariables false

set_option maxHeartbeats 8000000 in
set_option maxRecDepth 100000 in
theorem propChecks_walk (a : Option Addr) (n cap : Nat) (w : World) (ht : Tab w) (h : AsksIs w a n) :
    Calls Tryd.prog 3 #[.slice a n cap] w (BoolPost w true) := by
  have mixed : Tryd.prog.follows .mixedOrders = true := by kernel_rfl
  have HA := Lib.hid h
  have HT0 := Lib.hid ht
  clear h ht
  go_enter Tryd.func3, Tryd.ntmps3
  go_wp2
  go_loopg [3] 30 (fun g1 v wr => ∃ i : Nat, v = .int .i64 i ∧ i ≤ 30 ∧ 30 - i ≤ g1 ∧ Hid (Below w.heap.size w wr))
  case atStart => exact ⟨0, rfl, by omega, by omega, Below.refl _ _⟩
  case round =>
    obtain ⟨i, rfl, hi30, hg1, HB⟩ := hrel
    have HT := Lib.hid (HT0.out.below HB.out HT0.out.lt)
    have HW := Lib.hid (wakes_any wr HT.out)
    by_cases hin : i < n
    · have hinz : decide ((i : Int) < (n : Int)) = true := decide_eq_true (by omega)
      have hiny : (i : Int) < (n : Int) := by omega
      by_cases hi : i < 30
      · have hiz : decide ((i : Int) < 30) = true := decide_eq_true (by omega)
        have hiy : (i : Int) < 30 := by omega
        clear HW
        obtain ⟨b, off, t, v, ax, xs, cx, rfl, hask, hrow⟩ := HA.out i hin
        obtain ⟨q0, q1, q2⟩ := hask.below HB.out hask.lt
        clear hask hrow
        generalize xs.length = nx at q2
        have HQ : Hid (AskAt (wr.alloc (.cells #[.int .i64 t, .int .i64 v, .slice ax nx cx] 27)) wr.heap.size 0 t v ax nx cx ∧ Below w.heap.size w (wr.alloc (.cells #[.int .i64 t, .int .i64 v, .slice ax nx cx] 27)) ∧ Tab (wr.alloc (.cells #[.int .i64 t, .int .i64 v, .slice ax nx cx] 27))) :=
          ⟨⟨by simp, by simp, by simp⟩, HB.out.alloc HB.out.size _, HT.out.alloc _⟩
        clear HB HT
        go_wp2_with fail
        clear q0 q1 q2
        generalize wr.alloc (.cells #[.int .i64 t, .int .i64 v, .slice ax nx cx] 27) = w2 at *
        generalize wr.heap.size = gp at *
        have HCK := Lib.hid (fun W (h : Tab W) => check_any t v W h)
        have HRC := Lib.hid (fun W => refCheck_any t v W)
        have HNX := Lib.hid (fun W => num_any (errP t v) W)
        generalize errP t v = x at *
        have hxx : (x != x) = false := by simp
        obtain ⟨p0, p1, p2⟩ := HQ.out.1
        have p0' : w2.cell? ⟨gp, 0, none⟩ = some (.int .i64 t) := p0
        go_quiet (first | (go_at_call 16; exact quiet_left (HCK.out _ (HQ.out.2.2.drewN _))) | (go_at_call 15; exact quiet_left (HNX.out _)) | (go_at_call 17; exact quiet_left (HRC.out _)))
        replace HQ : Hid (AskAt (w2.drewN nq) gp 0 t v ax nx cx ∧ Below w.heap.size w (w2.drewN nq) ∧ Tab (w2.drewN nq)) := ⟨HQ.out.1.drewN _, below_drewN HQ.out.2.1 _, HQ.out.2.2.drewN _⟩
        clear p0 p1 p2 p0' HCK HRC HNX
        generalize w2.drewN nq = w3 at *
        have p0 : w3.cell? ⟨gp, 0, none⟩ = some (.int .i64 t) := HQ.out.1.c0
        have CN := Lib.hid (fun W => refNum_any t W)
        have CD := Lib.hid (fun W (h : Tab W) => default_any t W h)
        have CG := Lib.hid (fun W (h : Tab W) => goes_any t W h)
        have CRD := Lib.hid (fun W => refDefault_any t W)
        have CRG := Lib.hid (fun W => refGoes_any t W)
        have HN0 := Lib.hid (fun W => num_any 0 W)
        have HN3 := Lib.hid (fun W => num_any 3 W)
        cases hb : propB t
        · rw [hb] at CN
          rw [usZ_no hb, errN_no hb] at CD
          rw [inZ_no hb, errN_no hb] at CG
          clear hb hxx CRD CRG HN0
          go_wp2_with fail
          refine (CN.out _).mono ?_
          rintro e w1 ⟨rfl, rfl⟩
          go_wp2_with fail
          refine (CD.out _ HQ.out.2.2).mono ?_
          rintro e w1 ⟨rfl, rfl⟩
          go_wp2_with fail
          refine (CG.out _ HQ.out.2.2).mono ?_
          rintro e w1 ⟨rfl, rfl⟩
          go_wp2_with fail
          refine (HN3.out _).mono ?_
          rintro e w1 ⟨rfl, rfl⟩
          go_wp2_with fail
          refine (HN3.out _).mono ?_
          rintro e w1 ⟨rfl, rfl⟩
          go_wp2_with fail
          refine (HN3.out _).mono ?_
          rintro e w1 ⟨rfl, rfl⟩
          go_wp2_with fail
          refine (HN3.out _).mono ?_
          rintro e w1 ⟨rfl, rfl⟩
          go_wp2
          go_roundg (30 - (i + 1))
          case measure => omega
          case rel => exact ⟨i + 1, by go_num, by omega, by omega, HQ.out.2.1⟩
        · rw [hb] at CN
          rw [errN_yes hb] at CD CG
          clear hb hxx HN3
          generalize usZ t = us at *
          generalize inZ t = inh at *
          have huu : (us != us) = false := by simp
          have hii : (inh != inh) = false := by simp
          go_wp2_with fail
          refine (CN.out _).mono ?_
          rintro e w1 ⟨rfl, rfl⟩
          go_wp2_with fail
          refine (CD.out _ HQ.out.2.2).mono ?_
          rintro e w1 ⟨rfl, rfl⟩
          go_wp2_with fail
          refine (CG.out _ HQ.out.2.2).mono ?_
          rintro e w1 ⟨rfl, rfl⟩
          go_wp2_with fail
          refine (HN0.out _).mono ?_
          rintro e w1 ⟨rfl, rfl⟩
          go_wp2_with fail
          refine (HN0.out _).mono ?_
          rintro e w1 ⟨rfl, rfl⟩
          go_wp2_with fail
          refine (CRD.out _).mono ?_
          rintro e w1 ⟨rfl, rfl⟩
          go_wp2_with fail
          refine (CRG.out _).mono ?_
          rintro e w1 ⟨rfl, rfl⟩
          go_wp2
          go_roundg (30 - (i + 1))
          case measure => omega
          case rel => exact ⟨i + 1, by go_num, by omega, by omega, HQ.out.2.1⟩
      · have hiz : decide ((i : Int) < 30) = false := decide_eq_false (by omega)
        have hiy : ¬ (i : Int) < 30 := by omega
        go_wp2_with fail
        refine (HW.out).mono ?_
        rintro e w1 ⟨rfl, rfl⟩
        go_wp2
        go_ret
        exact ⟨rfl, HB.out⟩
    · have hinz : decide ((i : Int) < (n : Int)) = false := decide_eq_false (by omega)
      have hiny : ¬ (i : Int) < (n : Int) := by omega
      go_wp2_with fail
      refine (HW.out).mono ?_
      rintro e w1 ⟨rfl, rfl⟩
      go_wp2
      go_ret
      exact ⟨rfl, HB.out⟩
end Go.Proofs.YtahimngohnghaaaDoor
