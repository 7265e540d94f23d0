/- ShareScales: the parts it is made of. -/
import Derived.Test.YtekiknngiefkbaaX6
import Derived.Test.YtekiknngiefkbaaY1
namespace Go.Proofs.Ytekiknngiefkbaa
open Go.Shelf Go.RowKit Go.Lib Go.Sort Go.Proofs

def WinPost (n : Int) (w : World) (e : Ending) (w' : World) : Prop := ∃ r : Int, 0 ≤ r ∧ r < n ∧ e = .returned (.int .i64 r) ∧ w = w'

set_option maxHeartbeats 400000 in
theorem within_any (i n : Int) (w : World) (h0 : 0 < n) (h1 : n ≤ 1048576) : Calls Try.prog 14 #[.int .i64 i, .int .i64 n] w (WinPost n w) := by
  obtain ⟨u, hu⟩ : ∃ u, u = IntKind.u64.wrap i := ⟨_, rfl⟩
  have hb : 0 ≤ u ∧ u < 18446744073709551616 := by rw [hu, IntKind.wrap_u64]; omega
  obtain ⟨b0, b1⟩ := hb
  have e1 : IntKind.u64.wrap i = u := hu.symm
  have e2 : IntKind.u64.wrap n = n := by rw [IntKind.wrap_u64]; omega
  have r0 := Int.emod_nonneg u (show n ≠ 0 by omega)
  have r1 := Int.emod_lt_of_pos u h0
  have e3 : u.tmod n = u % n := Int.tmod_eq_emod_of_nonneg b0
  have HF : Hid (WinPost n w (.returned (.int .i64 (u % n))) w) := ⟨_, r0, r1, rfl, rfl⟩
  clear hu b1
  go_enter Try.func14, Try.ntmps14
  go_wp2
  go_ret
  exact HF.out

/-- a list of asks that came in, none too long to be copied -/
def AsksIsS (w : World) (a : Option Addr) (n : Nat) : Prop := ∀ i, i < n → ∃ b off t ai ws ci, a = some ⟨b, off, none⟩ ∧ AskAt w b (off + i * 2) t ai ws ci ∧ ws.length * 8 ≤ 140737488351232

/-- the row's weights brought within, up to k -/
def ScI (w : World) (v : Value) (n k : Nat) (ys : List Int) (wr : World) : Prop :=
  ys.length = n ∧ OwnI wr w.heap.size v ys ∧ (∀ j, j < k → 0 ≤ ys.getD j 0 ∧ ys.getD j 0 ≤ 999) ∧ Below w.heap.size w wr

theorem sum_ge (ys : List Int) (h : ∀ j, j < ys.length → 0 ≤ ys.getD j 0 ∧ ys.getD j 0 ≤ 999) : 0 ≤ ys.sum ∧ ys.sum ≤ (ys.length : Int) * 999 := by
  have := sum_take_bd ys 999 h ys.length (Nat.le_refl _)
  rw [sum_all] at this
  exact this

theorem may_sc {t : Int} {ys : List Int} (h0 : 0 ≤ t) (h1 : t < 1048576) (hn : 0 < ys.length) (hn1 : ys.length ≤ 100) (hw : ∀ j, j < ys.length → 0 ≤ ys.getD j 0 ∧ ys.getD j 0 ≤ 999) (hs : ys.sum ≠ 0) : May t ys :=
  ⟨h0, by omega, hn, by omega, fun i hi => by have := hw i hi; omega, by have := sum_ge ys hw; omega⟩
theorem may_sc5 {ys : List Int} (hn : 0 < ys.length) (hn1 : ys.length ≤ 100) (hw : ∀ j, j < ys.length → 0 ≤ ys.getD j 0 ∧ ys.getD j 0 ≤ 999) (hs : ys.sum ≠ 0) : May (ys.sum * 5) ys := by
  have hg := sum_ge ys hw
  refine ⟨by omega, ?_, hn, by omega, fun i hi => by have := hw i hi; omega, by omega⟩
  have : (ys.length : Int) ≤ 100 := by omega
  omega

/-- a row of which the first k are taken seven times -/
def sevenT (ys : List Int) (k : Nat) : List Int := (List.range ys.length).map fun i => if i < k then ys.getD i 0 * 7 else ys.getD i 0
theorem sevenT_len (ys : List Int) (k : Nat) : (sevenT ys k).length = ys.length := by simp [sevenT]
theorem sevenT_zero (ys : List Int) : sevenT ys 0 = ys := by
  unfold sevenT
  rw [range_map_congr _ _ (fun i => ys.getD i 0) (fun i _ => by rw [if_neg (by omega)])]
  exact list_range ys
theorem sevenT_all (ys : List Int) (k : Nat) (h : ys.length ≤ k) : sevenT ys k = times 7 ys := by
  apply list_ext_getD (by rw [sevenT_len, times_len])
  intro i hi
  rw [sevenT_len] at hi
  unfold sevenT
  rw [range_getD _ _ i hi, if_pos (by omega), times_get 7 ys i hi]
theorem sevenT_step (ys : List Int) (k : Nat) (hk : k < ys.length) : (sevenT ys k).getD k 0 = ys.getD k 0 ∧ (sevenT ys k).set k (ys.getD k 0 * 7) = sevenT ys (k + 1) := by
  refine ⟨by unfold sevenT; rw [range_getD _ _ k hk, if_neg (by omega)], ?_⟩
  apply list_ext_getD (by rw [List.length_set, sevenT_len, sevenT_len])
  intro i hi
  rw [List.length_set, sevenT_len] at hi
  rw [set_getD _ _ _ _ (by rw [sevenT_len]; exact hi)]
  unfold sevenT
  rw [range_getD _ _ i hi, range_getD _ _ i hi]
  by_cases e : k = i
  · subst e; rw [if_pos rfl, if_pos (by omega)]
  · rw [if_neg e]
    by_cases c : i < k
    · rw [if_pos c, if_pos (by omega)]
    · rw [if_neg c, if_neg (by omega)]
end Go.Proofs.Ytekiknngiefkbaa
