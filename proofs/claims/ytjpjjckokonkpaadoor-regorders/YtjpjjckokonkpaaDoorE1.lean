/- The bytes of a number, put behind others. -/
import Derived.Test.YtjpjjckokonkpaaDoorV2
namespace Go.Proofs.YtjpjjckokonkpaaDoor
open Go.RowKit Go.Lib
set_option linter.unusedVariables false

def AppPost (base : Nat) (w : World) (zs : List Int) (e : Ending) (w' : World) : Prop := ∃ v', e = .returned v' ∧ OwnK .u8 5 w' base v' zs ∧ Below base w w'
def AppI (base : Nat) (w : World) (all : List Int) (v : Value) (m : Nat) (w' : World) : Prop := ∃ cur, OwnK .u8 5 w' base v cur ∧ cur ++ enc m = all ∧ Below base w w' ∧ base ≤ w'.heap.size
def AppJ (base : Nat) (w : World) (all : List Int) (a' : Act) (w' : World) : Prop :=
  ∃ (v : Value) (m : Nat) (z : Int) (u2 u3 u4 u5 u6 u7 u8 u9 u10 u11 u12 u13 u14 u15 u16 u17 u18 u19 u20 : Value), a' = { tmps := #[v, .int .i64 z, u2, u3, u4, u5, u6, u7, u8, u9, u10, u11, u12, u13, u14, u15, u16, u17, u18, u19, u20], defers := [] } ∧ z = (m : Int) ∧ m ≤ 4611686018427387904 ∧ AppI base w all v m w'

theorem app_last {base : Nat} {w w2 w' : World} {all cur : List Int} {v v' : Value} {m : Nat} {z : Int} (hm : m < 128) (hz : z = (m : Int)) (he : cur ++ enc m = all) (hb : Below base w w2) (hs : base ≤ w2.heap.size) (h : Grew .u8 5 base w2 v cur [z] v' w') : AppPost base w all (.returned v') w' := by
  refine ⟨v', rfl, ?_, h.bel base w hb (Nat.le_refl _) hs⟩
  have := h.own
  rw [hz, ← enc_small hm, he] at this
  exact this
theorem app_next {base : Nat} {w w2 w' : World} {all cur : List Int} {v v' : Value} {m : Nat} {z : Int} (hm : ¬ m < 128) (hz : z = ((m % 128 + 128 : Nat) : Int)) (he : cur ++ enc m = all) (hb : Below base w w2) (hs : base ≤ w2.heap.size) (h : Grew .u8 5 base w2 v cur [z] v' w') : AppI base w all v' (m / 128) w' := by
  refine ⟨cur ++ [z], h.own, ?_, h.bel base w hb (Nat.le_refl _) hs, Nat.le_trans hs h.size⟩
  rw [hz, ← he, enc_big hm, List.append_assoc]
  rfl
theorem app_len {all cur : List Int} {m k : Nat} (he : cur ++ enc m = all) (hl : all.length ≤ k) : cur.length + 1 ≤ k := by
  have h1 := enc_len m
  have h2 := congrArg List.length he
  rw [List.length_append] at h2
  omega

end Go.Proofs.YtjpjjckokonkpaaDoor
