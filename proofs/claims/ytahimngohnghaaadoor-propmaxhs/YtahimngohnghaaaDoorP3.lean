/- All, of the program (goto) and of the page. -/
import Derived.Test.YtahimngohnghaaaDoorP2
namespace Go.Proofs.YtahimngohnghaaaDoor
open Go.RowKit Go.Lib
set_option linter.unusedVariables false

/-- whether something is refused -/
def errC (b : Bool) : Int := if b then 0 else 1
/-- a style's values -/
def allB (zs : List Int) : Bool := decide (zs.length = 19) && (List.range 19).all (fun p => errP p (zs.getD p 0) == 0)
theorem allB_iff (zs : List Int) : allB zs = true ↔ zs.length = 19 ∧ ∀ p : Nat, p < 19 → errP p (zs.getD p 0) = 0 := by
  simp only [allB, Bool.and_eq_true, decide_eq_true_eq, List.all_eq_true, List.mem_range, beq_iff_eq]
theorem allB_no {zs : List Int} {p : Nat} (hp : p < 19) (h : ¬ errP p (zs.getD p 0) = 0) : allB zs = false := by
  rw [← Bool.not_eq_true, allB_iff]
  exact fun h' => h (h'.2 p hp)
theorem allB_len {zs : List Int} (h : ¬ zs.length = 19) : allB zs = false := by
  rw [← Bool.not_eq_true, allB_iff]
  exact fun h' => h h'.1
def intV : Value → Nat
  | .int _ z => z.toNat
  | _ => 0
def AllJ (zs : List Int) (g : Nat) (W : World) (act : Act) (w' : World) : Prop :=
  ∃ (k : Nat) (u0 u2 u4 u5 u6 u7 u8 u9 u10 u11 u12 u13 u14 u15 u16 u17 u18 u19 : Value), act = { tmps := #[u0, .pointer (some ⟨g, 0, none⟩), u2, .int .i64 (k : Int), u4, u5, u6, u7, u8, u9, u10, u11, u12, u13, u14, u15, u16, u17, u18, u19], defers := [] } ∧ k < 19 ∧ (∀ p : Nat, p < k → errP p (zs.getD p 0) = 0) ∧ w' = W
def BelS (w w' : World) : Prop := Below w.heap.size w w'
def AllPost (zs : List Int) (w : World) (e : Ending) (w' : World) : Prop := e = .returned (.int .i64 (errC (allB zs))) ∧ Below w.heap.size w w'

set_option maxHeartbeats 2000000 in
set_option maxRecDepth 100000 in
theorem all_any (a : Option Addr) (zs : List Int) (n c : Nat) (w : World) (hn : n = zs.length) (hl : n ≤ 140737488355328) (hr : RowK .i64 w a zs) (ht : Tab w) :
    Calls Tryd.prog 24 #[.agg #[.slice a n c]] w (AllPost zs w) := by
  have HB : Hid (BelS w (w.alloc (.cells #[.slice a n c] 25))) := (Below.refl _ _).alloc (Nat.le_refl _) _
  by_cases h19 : n = 19
  · subst h19
    have HR := Lib.hid (hr.alloc (.cells #[.slice a 19 c] 25))
    have HT := Lib.hid (ht.alloc (.cells #[.slice a 19 c] 25))
    have HN := Lib.hid hn
    have hbx : (w.alloc (.cells #[.slice a 19 c] 25)).cell? ⟨w.heap.size, 0, none⟩ = some (.slice a 19 c) := by simp
    clear hr ht hn hl
    go_enter Tryd.func24, Tryd.ntmps24
    go_wp2
    generalize w.alloc (.cells #[.slice a 19 c] 25) = W at *
    generalize hgg : w.heap.size = g at *
    clear hgg
    refine wp_scope_jumps 0 (AllJ zs g W) (fun a' _ => 19 - intV (a'.tmps.getD 3 undef)) rfl ?_ ?_
    · obtain ⟨b, off, rfl, hc⟩ := HR.out 0 (by have := HN.out; omega)
      have hc1 : W.cell? ⟨b, off, none⟩ = some (.int .i64 (zs.getD 0 0)) := hc
      clear hc
      have HC := Lib.hid (check_any 0 (zs.getD 0 0) W HT.out)
      by_cases he : errP ((0 : Nat) : Int) (zs.getD 0 0) = 0
      · have HE := Lib.hid he
        rw [show errP 0 (zs.getD 0 0) = 0 from he] at HC
        clear he
        generalize zs.getD 0 0 = z at hc1 HC
        go_wp2_with fail
        go_step3
        go_wp2_with fail
        refine (HC.out).mono ?_
        rintro e w1 ⟨rfl, rfl⟩
        go_wp2_with fail
        go_step3
        exact ⟨rfl, 1, _, _, _, _, _, _, _, _, _, _, _, _, _, _, _, _, _, _, rfl, by omega, fun p hp => by obtain rfl : p = 0 := (by omega); exact HE.out, rfl⟩
      · have HF : Hid (errC (allB zs) = 1) := by
          show _ = _
          rw [allB_no (p := 0) (by omega) he]; rfl
        have hne : ¬ errP 0 (zs.getD 0 0) = 0 := he
        have hnb : (errP 0 (zs.getD 0 0) == 0) = false := by simpa using hne
        clear he
        generalize errP 0 (zs.getD 0 0) = x at HC hne hnb
        generalize zs.getD 0 0 = z at hc1 HC
        go_wp2_with fail
        go_step3
        go_wp2_with fail
        refine (HC.out).mono ?_
        rintro e w1 ⟨rfl, rfl⟩
        go_wp2
        simp only [Exit.jump]
        go_ret
        exact ⟨ret_int HF.out.symm, HB.out⟩
    · rintro a' w' ⟨k, u0, u2, u4, u5, u6, u7, u8, u9, u10, u11, u12, u13, u14, u15, u16, u17, u18, u19, rfl, hk, hA, hWW⟩
      subst hWW
      have HA := Lib.hid hA
      clear hA
      obtain ⟨b, off, rfl, hc⟩ := HR.out k (by have := HN.out; omega)
      have hc1 : w'.cell? ⟨b, off + k, none⟩ = some (.int .i64 (zs.getD k 0)) := hc
      clear hc
      have HC := Lib.hid (check_any (k : Int) (zs.getD k 0)  w' HT.out)
      by_cases he : errP (k : Int) (zs.getD k 0) = 0
      · have HE := Lib.hid he
        rw [he] at HC
        clear he
        by_cases hk1 : k + 1 < 19
        · have hkz : decide ((k : Int) + 1 < 19) = true := decide_eq_true (by omega)
          have hkp : (k : Int) + 1 < 19 := by omega
          generalize zs.getD k 0 = z at hc1 HC
          go_wp2_with fail
          refine (HC.out).mono ?_
          rintro e w1 ⟨rfl, rfl⟩
          go_wp2_with fail
          go_step3
          refine ⟨rfl, ⟨k + 1, _, _, _, _, _, _, _, _, _, _, _, _, _, _, _, _, _, _, by go_num, hk1, fun p hp => by
              rcases Nat.lt_or_ge p k with h | h
              · exact HA.out p h
              · obtain rfl : p = k := by omega
                exact HE.out, rfl⟩, ?_⟩
          simp [intV]
          omega
        · have hkz : decide ((k : Int) + 1 < 19) = false := decide_eq_false (by omega)
          have hkp : ¬ (k : Int) + 1 < 19 := by omega
          have HF : Hid (errC (allB zs) = 0) := by
            show _ = _
            rw [(allB_iff zs).2 ⟨HN.out.symm, fun p hp => by
              rcases Nat.lt_or_ge p k with h | h
              · exact HA.out p h
              · obtain rfl : p = k := by omega
                exact HE.out⟩]; rfl
          generalize zs.getD k 0 = z at hc1 HC
          go_wp2_with fail
          refine (HC.out).mono ?_
          rintro e w1 ⟨rfl, rfl⟩
          go_wp2
          simp only [Exit.jump]
          go_ret
          exact ⟨ret_int HF.out.symm, HB.out⟩
      · have HF : Hid (errC (allB zs) = 1) := by
          show _ = _
          rw [allB_no (p := k) (by omega) he]; rfl
        have hne : ¬ errP (k : Int) (zs.getD k 0) = 0 := he
        have hnb : (errP (k : Int) (zs.getD k 0) == 0) = false := by simpa using hne
        clear he
        generalize errP (k : Int) (zs.getD k 0) = x at HC hne hnb
        generalize zs.getD k 0 = z at hc1 HC
        go_wp2_with fail
        refine (HC.out).mono ?_
        rintro e w1 ⟨rfl, rfl⟩
        go_wp2
        simp only [Exit.jump]
        go_ret
        exact ⟨ret_int HF.out.symm, HB.out⟩
  · have HF : Hid (errC (allB zs) = 1) := by
      show _ = _
      rw [allB_len (by omega)]; rfl
    have hnz : ¬ (n : Int) = 19 := by omega
    clear hr hn ht
    go_enter Tryd.func24, Tryd.ntmps24
    go_wp2
    refine wp_scope_jumps 0 (fun _ _ => False) (fun _ _ => 0) rfl ?_ (fun _ _ h => h.elim)
    go_wp2
    simp only [Exit.jump]
    go_ret
    exact ⟨ret_int HF.out.symm, HB.out⟩
end Go.Proofs.YtahimngohnghaaaDoor
