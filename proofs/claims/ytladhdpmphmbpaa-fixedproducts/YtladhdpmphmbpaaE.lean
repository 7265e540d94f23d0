/- The law's own list of numbers: 'all'. -/
import Derived.Test.YtladhdpmphmbpaaD
namespace Go.Proofs.Ytladhdpmphmbpaa
open Go.RowKit
set_option linter.unusedVariables false

/-- a slice's elements, in a world -/
def RowIs (w : World) (a : Option Addr) (zs : List Int) : Prop :=
  ∀ i, i < zs.length → ∃ b off, a = some ⟨b, off, none⟩ ∧ w.cell? ⟨b, off + i, none⟩ = some (.int .i64 (zs.getD i 0))

def ends : List Int := [0, 1, -1, 63, 64, -64, 1099511627776, -1099511627776, 1099511627777, -1099511627777]
def xsOf (zs : List Int) (k : Nat) : List Int := ends ++ zs.take k
theorem xsOf_length (zs : List Int) (k : Nat) (h : k ≤ zs.length) : (xsOf zs k).length = 10 + k := by
  unfold xsOf
  rw [List.length_append, List.length_take, show ends.length = 10 from rfl]
  omega
theorem xsOf_succ (zs : List Int) (k : Nat) (h : k < zs.length) : xsOf zs (k + 1) = xsOf zs k ++ [zs.getD k 0] := by
  unfold xsOf
  rw [List.take_succ_eq_append_getElem h, List.append_assoc]
  simp [List.getD, h]

def AllPost (w : World) (zs : List Int) (e : Ending) (w' : World) : Prop :=
  ∃ g cp k, k ≤ 12 ∧ k ≤ zs.length ∧ e = .returned (.slice (some ⟨g, 0, none⟩) (xsOf zs k).length cp) ∧ (∀ i, i < (xsOf zs k).length → w'.cell? ⟨g, i, none⟩ = some (.int .i64 ((xsOf zs k).getD i 0))) ∧ w.heap.size ≤ g ∧ g < w'.heap.size ∧ Below w.heap.size w w'

theorem Try.info3 : (Try.prog.info? 3).map (fun i => (i.zero, i.size, i.bytes)) = some (some (.int .i64 0), 1, 8) := by kernel_rfl

theorem allPost_of {w wr : World} {zs : List Int} {k : Nat} {v : Value} (hk : k ≤ zs.length) (hk12 : k ≤ 12) (hown : wr.ownsRow w.heap.size 3 1 v (10 + k) ((xsOf zs k).map (Value.int .i64))) (hb : Below w.heap.size w wr) : AllPost w zs (.returned v) wr := by
  have hl := xsOf_length zs k hk
  rcases hown.2 with ⟨_, h0⟩ | ⟨g, cap, cur, rfl, hg, hh, _⟩
  · omega
  · refine ⟨g, cap, k, hk12, hk, by rw [hl], ?_, hg, lt_of_block hh, hb⟩
    intro i hi
    rw [hown.cellAt i (by omega)]
    simp [List.getD, hi]

set_option maxHeartbeats 1000000 in
theorem all_any (a : Option Addr) (zs : List Int) (cap : Nat) (w : World) (hrow : RowIs w a zs) :
    Calls Try.prog 8 #[.slice a zs.length cap] w (AllPost w zs) := by
  have HR := Lib.hid hrow
  clear hrow
  obtain ⟨i0, hi, hz0, hz1, hz2⟩ := info_parts Try.info3
  go_enter Try.func8, Try.ntmps8
  go_wp2
  go_loopw [3, 4] (fun v i wr => ∃ k : Nat, k ≤ zs.length ∧ k ≤ 12 ∧ i = .int .i64 k ∧ wr.ownsRow w.heap.size 3 1 v (10 + k) ((xsOf zs k).map (Value.int .i64)) ∧ Below w.heap.size w wr) (fun _ i _ => 12 - (intOf i).toNat)
  case atStart => exact ⟨0, Nat.zero_le _, Nat.zero_le _, rfl, World.ownsRow_lit w _ 10 (Nat.le_refl _) (by decide) rfl, (Below.refl _ _).alloc (Nat.le_refl _) _⟩
  case round =>
    obtain ⟨k, hk, hk12, rfl, hown, hb⟩ := hrel
    by_cases hlt : k < zs.length
    · by_cases h12 : k < 12
      · obtain ⟨b, off, rfl, hc⟩ := HR.out k hlt
        have hbl := World.block_lt_of_cell? _ _ hc
        have hcx : wr.cell? ⟨b, off + k, none⟩ = some (.int .i64 (zs.getD k 0)) := (hb.cell (p := ⟨b, off + k, none⟩) hbl).trans hc
        have hx := xsOf_succ zs k hlt
        have hsz := hb.size
        generalize zs.getD k 0 = z at *
        have HX := Lib.hid hx
        clear hx hc
        go_wp2_with (at_builtin; refine wpList_append_own _ rfl _ _ 22 rfl w.heap.size 3 i0 (.int .i64 0) 1 8 Try.underlying22 hi hz0 hz1 hz2 rfl (by decide) _ _ _ rfl (hown.alloc _) ⟨wr.heap.size, 0, none⟩ 1 1 [.int .i64 z] rfl rfl ?c1 ?c2 ?c3 ?c4 ?c5 ?_)
        case c2 => rfl
        case c3 => unfold maxLen; omega
        case c4 => omega
        case c5 => omega
        intro v' w1 hown' hgrow _
        have hb' : Below w.heap.size w w1 := (hb.alloc (by omega) _).grown hgrow (by simp; omega) (fun g hg => (hown.lt g hg).1)
        have hown2 : w1.ownsRow w.heap.size 3 1 v' (10 + (k + 1)) ((xsOf zs (k + 1)).map (Value.int .i64)) := by
          rw [HX.out, List.map_append]; exact hown'
        clear hown' hgrow hown hcx
        go_wp2
        go_roundw
        case rel => exact ⟨k + 1, by omega, by omega, by go_num, hown2, hb'⟩
        case measure => simp [intOf]; omega
      · go_wp2
        go_ret
        exact allPost_of hk hk12 hown hb
    · go_wp2
      go_ret
      exact allPost_of hk hk12 hown hb

end Go.Proofs.Ytladhdpmphmbpaa
