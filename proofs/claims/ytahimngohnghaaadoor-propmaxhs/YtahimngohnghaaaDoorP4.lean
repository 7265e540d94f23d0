/- All, of the page. -/
import Derived.Test.YtahimngohnghaaaDoorP3
namespace Go.Proofs.YtahimngohnghaaaDoor
open Go.RowKit Go.Lib
set_option linter.unusedVariables false

def RefAllPost (zs : List Int) (w : World) (e : Ending) (w' : World) : Prop := e = .returned (.bool (allB zs)) ∧ Below w.heap.size w w'
set_option maxHeartbeats 2000000 in
set_option maxRecDepth 100000 in
theorem refAll_any (a : Option Addr) (zs : List Int) (n c : Nat) (w : World) (hn : n = zs.length) (hl : n ≤ 140737488355328) (hr : RowK .i64 w a zs) :
    Calls Tryd.prog 25 #[.agg #[.slice a n c]] w (RefAllPost zs w) := by
  have HB : Hid (BelS w (w.alloc (.cells #[.slice a n c] 25))) := (Below.refl _ _).alloc (Nat.le_refl _) _
  by_cases h19 : n = 19
  · subst h19
    have HR := Lib.hid (hr.alloc (.cells #[.slice a 19 c] 25))
    have HN := Lib.hid hn
    have hbx : (w.alloc (.cells #[.slice a 19 c] 25)).cell? ⟨w.heap.size, 0, none⟩ = some (.slice a 19 c) := by simp
    clear hr hn hl
    go_enter Tryd.func25, Tryd.ntmps25
    go_wp2
    generalize w.alloc (.cells #[.slice a 19 c] 25) = W at *
    generalize hgg : w.heap.size = g at *
    clear hgg
    go_loopg [3] 19 (fun g1 v wr => ∃ k : Nat, v = .int .i64 k ∧ k ≤ 19 ∧ 19 - k ≤ g1 ∧ Hid ((∀ p : Nat, p < k → errP p (zs.getD p 0) = 0) ∧ wr = W))
    case atStart => exact ⟨0, rfl, by omega, by omega, ⟨fun p hp => by omega, rfl⟩⟩
    case round =>
      obtain ⟨k, rfl, hk, hg1, HI⟩ := hrel
      have hww := HI.out.2
      subst hww
      have HA := Lib.hid HI.out.1
      clear HI
      by_cases hlt : k < 19
      · have hkz : decide ((k : Int) < 19) = true := decide_eq_true (by omega)
        have hkp : (k : Int) < 19 := by omega
        obtain ⟨b, off, rfl, hc⟩ := HR.out k (by have := HN.out; omega)
        have HC := Lib.hid (refCheck_any (k : Int) (zs.getD k 0) wr)
        by_cases he : errP (k : Int) (zs.getD k 0) = 0
        · have HE := Lib.hid he
          rw [he] at HC
          clear he
          generalize zs.getD k 0 = z at hc HC
          go_wp2_with fail
          refine (HC.out).mono ?_
          rintro e w1 ⟨rfl, rfl⟩
          go_wp2
          go_roundg (19 - (k + 1))
          case measure => omega
          case rel =>
            exact ⟨k + 1, by go_num, by omega, by omega, ⟨fun p hp => by
              rcases Nat.lt_or_ge p k with h | h
              · exact HA.out p h
              · obtain rfl : p = k := by omega
                exact HE.out, rfl⟩⟩
        · have HF : Hid (allB zs = false) := allB_no (p := k) (by omega) he
          have hnb : (errP (k : Int) (zs.getD k 0) == 0) = false := by simpa using he
          generalize errP (k : Int) (zs.getD k 0) = x at HC he hnb
          generalize zs.getD k 0 = z at hc HC
          go_wp2_with fail
          refine (HC.out).mono ?_
          rintro e w1 ⟨rfl, rfl⟩
          go_wp2
          go_ret
          exact ⟨ret_bool HF.out.symm, HB.out⟩
      · have hkz : decide ((k : Int) < 19) = false := decide_eq_false (by omega)
        have hkp : ¬ (k : Int) < 19 := by omega
        have HF : Hid (allB zs = true) := (allB_iff zs).2 ⟨HN.out.symm, fun p hp => HA.out p (by omega)⟩
        go_wp2
        go_ret
        exact ⟨ret_bool HF.out.symm, HB.out⟩
  · have HF : Hid (allB zs = false) := allB_len (by omega)
    have hnz : ¬ (n : Int) = 19 := by omega
    clear hr hn
    go_enter Tryd.func25, Tryd.ntmps25
    go_wp2
    go_ret
    exact ⟨ret_bool HF.out.symm, HB.out⟩
end Go.Proofs.YtahimngohnghaaaDoor
