/- The bytes of a number, put behind others. -/
import Derived.Test.YtabbbpmhmlapgaaDoorV2
namespace Go.Proofs.YtabbbpmhmlapgaaDoor
open Go.RowKit Go.Lib
set_option linter.unusedVariables false

def AppPost (base : Nat) (w : World) (zs : List Int) (e : Ending) (w' : World) : Prop := ∃ v', e = .returned v' ∧ OwnK .u8 5 w' base v' zs ∧ Below base w w'
def AppI (base : Nat) (w : World) (all : List Int) (v : Value) (m : Nat) (w' : World) : Prop := ∃ cur, OwnK .u8 5 w' base v cur ∧ cur ++ enc m = all ∧ Below base w w' ∧ base ≤ w'.heap.size
def AppJ (base : Nat) (w : World) (all : List Int) (a' : Act) (w' : World) : Prop :=
  ∃ (v : Value) (m : Nat) (z : Int) (u2 u3 u4 u5 u6 u7 u8 u9 u10 u11 u12 u13 u14 u15 u16 u17 u18 u19 u20 : Value), a' = { tmps := #[v, .int .i64 z, u2, u3, u4, u5, u6, u7, u8, u9, u10, u11, u12, u13, u14, u15, u16, u17, u18, u19, u20], defers := [] } ∧ z = (m : Int) ∧ m ≤ 4611686018427387904 ∧ AppI base w all v m w'

theorem app_last {base : Nat} {w w2 w' : World} {all cur : List Int} {v v' : Value} {m : Nat} {z : Int} (hm : m < 128) (hz : z = (m : Int)) (he : cur ++ enc m = all) (hb : Below base w w2) (hs : base ≤ w2.heap.size) (h : Grew .u8 5 base w2 v cur [z] v' w') : AppPost base w all (.returned v') w' := by
  refine ⟨v', rfl, ?_, h.bel base w hb (Nat.le_refl _) hs⟩
  have := h.own
  rw [hz, ← enc_small hm, he] at this
  exact this
theorem app_next {base : Nat} {w w2 w' : World} {all cur : List Int} {v v' : Value} {m : Nat} {z : Int} (hm : ¬ m < 128) (hz : z = ((m % 128 + 128 : Nat) : Int)) (he : cur ++ enc m = all) (hb : Below base w w2) (hs : base ≤ w2.heap.size) (h : Grew .u8 5 base w2 v cur [z] v' w') : AppI base w all v' (m / 128) w' := by
  refine ⟨cur ++ [z], h.own, ?_, h.bel base w hb (Nat.le_refl _) hs, Nat.le_trans hs h.size⟩
  rw [hz, ← he, enc_big hm, List.append_assoc]
  rfl
theorem app_len {all cur : List Int} {m k : Nat} (he : cur ++ enc m = all) (hl : all.length ≤ k) : cur.length + 1 ≤ k := by
  have h1 := enc_len m
  have h2 := congrArg List.length he
  rw [List.length_append] at h2
  omega

set_option maxHeartbeats 1000000 in
set_option maxRecDepth 100000 in
theorem appendNum_any (base : Nat) (v : Value) (zs : List Int) (n : Nat) (w : World) (hv : OwnK .u8 5 w base v zs) (hbase : base ≤ w.heap.size) (hn : n ≤ 4611686018427387904) (hl : (zs ++ enc n).length ≤ 140737488355328) :
    Calls Tryd.prog 53 #[v, .int .i64 (n : Int)] w (AppPost base w (zs ++ enc n)) := by
  have HI : Hid (AppI base w (zs ++ enc n) v n w) := ⟨zs, hv, rfl, Below.refl _ _, hbase⟩
  have HL := Lib.hid hl
  clear hv hl hbase
  generalize zs ++ enc n = all at *
  go_enter Tryd.func53, Tryd.ntmps53
  go_wp2
  refine wp_scope_jumps 0 (AppJ base w all) (fun a' _ => (intOf (a'.tmps.getD 1 undef)).toNat) rfl ?_ ?_
  · obtain ⟨cur, h1, h2, h3, h4⟩ := HI.out
    by_cases hm : n < 128
    · have hmz : (n : Int) < 128 := by omega
      have HP := Lib.hid (show ∀ v2 w3, Grew .u8 5 base w v cur [(n : Int)] v2 w3 → AppPost base w all (.returned v2) w3 from fun v2 w3 h => app_last hm rfl h2 h3 h4 h)
      go_wp2
      go_step3
      go_wp2_with (at_builtin
                   refine wpB_one rfl _ _ rfl base w v cur _ rfl h1 rfl (app_len h2 HL.out) h4 ?_
                   intro v1 w2 hp1
                   have HQ := Lib.hid (HP.out v1 w2 hp1)
                   clear hp1)
      simp only [Exit.jump]
      go_ret
      exact HQ.out
    · have hmz : ¬ (n : Int) < 128 := by omega
      have hmo : (((n : Nat) : Int)).tmod 128 = (n : Int) % 128 := Int.tmod_eq_emod_of_nonneg (by omega)
      have HP := Lib.hid (show ∀ v2 w3 z, z = (n : Int) % 128 + 128 → Grew .u8 5 base w v cur [z] v2 w3 → AppI base w all v2 (n / 128) w3 from fun v2 w3 z hz h => app_next hm (by omega) h2 h3 h4 h)
      go_wp2
      go_step3
      go_wp2_with (at_builtin
                   refine wpB_one rfl _ _ rfl base w v cur _ rfl h1 rfl (app_len h2 HL.out) h4 ?_
                   intro v1 w2 hp1
                   have HQ := Lib.hid (HP.out v1 w2 _ (by first | rfl | omega) hp1)
                   clear hp1)
      go_step3
      exact ⟨rfl, v1, n / 128, _, _, _, _, _, _, _, _, _, _, _, _, _, _, _, _, _, _, _, _, rfl, by omega, by omega, HQ.out⟩
  · rintro a' w' ⟨v, m, z, u2, u3, u4, u5, u6, u7, u8, u9, u10, u11, u12, u13, u14, u15, u16, u17, u18, u19, u20, rfl, rfl, hm62, hI⟩
    have HI := Lib.hid hI
    clear hI
    obtain ⟨cur, h1, h2, h3, h4⟩ := HI.out
    by_cases hm : m < 128
    · have hmz : (m : Int) < 128 := by omega
      have HP := Lib.hid (show ∀ v2 w3, Grew .u8 5 base w' v cur [(m : Int)] v2 w3 → AppPost base w all (.returned v2) w3 from fun v2 w3 h => app_last hm rfl h2 h3 h4 h)
      go_wp2_with (at_builtin
                   refine wpB_one rfl _ _ rfl base w' v cur _ rfl h1 rfl (app_len h2 HL.out) h4 ?_
                   intro v1 w2 hp1
                   have HQ := Lib.hid (HP.out v1 w2 hp1)
                   clear hp1)
      simp only [Exit.jump]
      go_ret
      exact HQ.out
    · have hmz : ¬ (m : Int) < 128 := by omega
      have hmo : (((m : Nat) : Int)).tmod 128 = (m : Int) % 128 := Int.tmod_eq_emod_of_nonneg (by omega)
      have HP := Lib.hid (show ∀ v2 w3 z, z = (m : Int) % 128 + 128 → Grew .u8 5 base w' v cur [z] v2 w3 → AppI base w all v2 (m / 128) w3 from fun v2 w3 z hz h => app_next hm (by omega) h2 h3 h4 h)
      go_wp2_with (at_builtin
                   refine wpB_one rfl _ _ rfl base w' v cur _ rfl h1 rfl (app_len h2 HL.out) h4 ?_
                   intro v1 w2 hp1
                   have HQ := Lib.hid (HP.out v1 w2 _ (by first | rfl | omega) hp1)
                   clear hp1)
      go_step3
      refine ⟨rfl, ⟨v1, m / 128, _, _, _, _, _, _, _, _, _, _, _, _, _, _, _, _, _, _, _, _, rfl, by omega, by omega, HQ.out⟩, ?_⟩
      simp [intOf]
      omega
end Go.Proofs.YtabbbpmhmlapgaaDoor
