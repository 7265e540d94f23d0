/- The laws' small functions: the same row? a copy; written over; too much; awake. -/
import Derived.Test.YtknfpildkiekcaaDoorE7
namespace Go.Proofs.YtknfpildkiekcaaDoor
open Go.RowKit Go.Lib
set_option linter.unusedVariables false

def EqPost (w : World) (e : Ending) (w' : World) : Prop := e = .returned (.bool true) ∧ ∃ n, w' = w.drewN n

set_option maxHeartbeats 400000 in
theorem eqB_yes (a b : Option Addr) (zs : List Int) (n1 n2 c1 c2 : Nat) (w : World) (ha : RowK .u8 w a zs) (hb : RowK .u8 w b zs) (h1 : n1 = zs.length) (h2 : n2 = zs.length) (hl : zs.length ≤ 140737488355328) :
    Calls Tryd.prog 17 #[.slice a n1 c1, .slice b n2 c2] w (EqPost w) := by
  have mixed : Tryd.prog.follows .mixedOrders = true := by kernel_rfl
  subst h1 h2
  have HA := Lib.hid ha
  have HB := Lib.hid hb
  clear ha hb
  go_enter Tryd.func17, Tryd.ntmps17
  go_wp2
  go_loopg [5] zs.length (fun g1 v wr => ∃ k n : Nat, v = .int .i64 k ∧ k ≤ zs.length ∧ zs.length - k ≤ g1 ∧ Hid (wr = w.drewN n))
  case atStart => exact ⟨0, 0, rfl, Nat.zero_le _, by omega, rfl⟩
  case round =>
    obtain ⟨k, n, rfl, hk, hg, HW⟩ := hrel
    by_cases hlt : k < zs.length
    · obtain ⟨b1, o1, rfl, hc1⟩ := HA.out k hlt
      obtain ⟨b2, o2, rfl, hc2⟩ := HB.out k hlt
      have hw := HW.out
      subst hw
      have hd1 : (w.drewN n).cell? ⟨b1, o1 + k, none⟩ = some (.int .u8 (zs.getD k 0)) := hc1
      have hd2 : (w.drewN n).cell? ⟨b2, o2 + k, none⟩ = some (.int .u8 (zs.getD k 0)) := hc2
      have hltz : (k : Int) < (zs.length : Int) := by omega
      generalize zs.getD k 0 = z at *
      have hzz : (z != z) = false := by simp
      go_wp2_with fail
      go_quiet (fail)
      go_wp2
      go_roundg (zs.length - (k + 1))
      case measure => omega
      case rel => exact ⟨k + 1, _, by go_num, by omega, by omega, rfl⟩
    · have hltz : ¬ (k : Int) < (zs.length : Int) := by omega
      go_wp2
      go_ret
      exact ⟨rfl, n, HW.out⟩

set_option maxHeartbeats 400000 in
theorem eqI_yes (a b : Option Addr) (zs : List Int) (n1 n2 c1 c2 : Nat) (w : World) (ha : RowK .i64 w a zs) (hb : RowK .i64 w b zs) (h1 : n1 = zs.length) (h2 : n2 = zs.length) (hl : zs.length ≤ 140737488355328) :
    Calls Tryd.prog 44 #[.slice a n1 c1, .slice b n2 c2] w (EqPost w) := by
  have mixed : Tryd.prog.follows .mixedOrders = true := by kernel_rfl
  subst h1 h2
  have HA := Lib.hid ha
  have HB := Lib.hid hb
  clear ha hb
  go_enter Tryd.func44, Tryd.ntmps44
  go_wp2
  go_loopg [5] zs.length (fun g1 v wr => ∃ k n : Nat, v = .int .i64 k ∧ k ≤ zs.length ∧ zs.length - k ≤ g1 ∧ Hid (wr = w.drewN n))
  case atStart => exact ⟨0, 0, rfl, Nat.zero_le _, by omega, rfl⟩
  case round =>
    obtain ⟨k, n, rfl, hk, hg, HW⟩ := hrel
    by_cases hlt : k < zs.length
    · obtain ⟨b1, o1, rfl, hc1⟩ := HA.out k hlt
      obtain ⟨b2, o2, rfl, hc2⟩ := HB.out k hlt
      have hw := HW.out
      subst hw
      have hd1 : (w.drewN n).cell? ⟨b1, o1 + k, none⟩ = some (.int .i64 (zs.getD k 0)) := hc1
      have hd2 : (w.drewN n).cell? ⟨b2, o2 + k, none⟩ = some (.int .i64 (zs.getD k 0)) := hc2
      have hltz : (k : Int) < (zs.length : Int) := by omega
      generalize zs.getD k 0 = z at *
      have hzz : (z != z) = false := by simp
      go_wp2_with fail
      go_quiet (fail)
      go_wp2
      go_roundg (zs.length - (k + 1))
      case measure => omega
      case rel => exact ⟨k + 1, _, by go_num, by omega, by omega, rfl⟩
    · have hltz : ¬ (k : Int) < (zs.length : Int) := by omega
      go_wp2
      go_ret
      exact ⟨rfl, n, HW.out⟩

set_option maxHeartbeats 400000 in
theorem copyB_any (a : Option Addr) (zs : List Int) (n c : Nat) (w : World) (ha : RowK .u8 w a zs) (hn : n = zs.length) (hl : zs.length ≤ 140737488355328) :
    Calls Tryd.prog 20 #[.slice a n c] w (AppPost w.heap.size w zs) := by
  subst hn
  have HA := Lib.hid ha
  clear ha
  go_enter Tryd.func20, Tryd.ntmps20
  go_wp2
  go_loopg [3, 4] zs.length (fun g1 v i wr => ∃ k : Nat, i = .int .i64 k ∧ k ≤ zs.length ∧ zs.length - k ≤ g1 ∧ Hid (OwnK .u8 5 wr w.heap.size v (zs.take k) ∧ Below w.heap.size w wr))
  case atStart => exact ⟨0, rfl, Nat.zero_le _, by omega, ⟨OwnK.nil _ _ _ _, Below.refl _ _⟩⟩
  case round =>
    obtain ⟨k, rfl, hk, hg, HI⟩ := hrel
    by_cases hlt : k < zs.length
    · obtain ⟨b1, o1, rfl, hc1⟩ := HA.out k hlt
      have hbl := World.block_lt_of_cell? _ _ hc1
      have hsz := HI.out.2.size
      have hd1 : wr.cell? ⟨b1, o1 + k, none⟩ = some (.int .u8 (zs.getD k 0)) := (HI.out.2.cell (p := ⟨b1, o1 + k, none⟩) hbl).trans hc1
      have hltz : (k : Int) < (zs.length : Int) := by omega
      have HT := Lib.hid (take_getD zs k hlt)
      clear hc1 hbl
      generalize zs.getD k 0 = z at *
      go_wp2_with (at_builtin
                   refine wpB_one rfl _ _ rfl w.heap.size wr u3 (zs.take k) z rfl HI.out.1 rfl (by rw [List.length_take]; omega) (by omega) ?_
                   intro v1 w2 hp1
                   have HI2 : Hid (OwnK .u8 5 w2 w.heap.size v1 (zs.take (k + 1)) ∧ Below w.heap.size w w2) := ⟨by rw [HT.out]; exact hp1.own, hp1.bel _ _ HI.out.2 (Nat.le_refl _) (by omega)⟩
                   clear hp1 HI HT hd1)
      go_roundg (zs.length - (k + 1))
      case measure => omega
      case rel => exact ⟨k + 1, by go_num, by omega, by omega, HI2⟩
    · have hltz : ¬ (k : Int) < (zs.length : Int) := by omega
      have HF : Hid (AppPost w.heap.size w zs (.returned u3) wr) := by
        have h1 := HI.out.1
        rw [List.take_of_length_le (by omega)] at h1
        exact ⟨u3, rfl, h1, HI.out.2⟩
      clear HI
      go_wp2
      go_ret
      exact HF.out

theorem OwnK.stored {kd : IntKind} {e : TypeId} {w : World} {base g cap n : Nat} {zs : List Int} (hn : zs.length = n) (h : OwnK kd e w base (.slice (some ⟨g, 0, none⟩) n cap) zs) (j : Nat) (z : Int) : OwnK kd e (w.setCell ⟨g, j, none⟩ (.int kd z)) base (.slice (some ⟨g, 0, none⟩) n cap) (zs.set j z) := by
  subst hn
  have h1 := (World.ownsRow.stored h j (.int kd z)).1
  unfold OwnK
  rw [List.length_set, List.map_set]
  exact h1
theorem OwnK.cellAt {kd : IntKind} {e : TypeId} {w : World} {base g cap n : Nat} {zs : List Int} (hn : zs.length = n) (h : OwnK kd e w base (.slice (some ⟨g, 0, none⟩) n cap) zs) (j : Nat) (hj : j < n) : w.cell? ⟨g, j, none⟩ = some (.int kd (zs.getD j 0)) ∧ w.frozen? ⟨g, j, none⟩ = false ∧ base ≤ g ∧ g < w.heap.size := by
  subst hn
  have h1 := World.ownsRow.cellAt h j (by omega)
  rw [List.getElem?_map, List.getElem?_eq_getElem hj] at h1
  refine ⟨?_, World.ownsRow.frozenAt h j, OwnK.lt h rfl⟩
  rw [h1, List.getD_eq_getElem?_getD, List.getElem?_eq_getElem hj]; rfl

def SpoilPost (w : World) (base : Nat) (e : Ending) (w' : World) : Prop := e = .returned (.tuple #[]) ∧ Below base w w'

set_option maxHeartbeats 400000 in
theorem spoil_any (v : Value) (base : Nat) (zs : List Int) (w : World) (hv : OwnK .i64 3 w base v zs) (hbase : base ≤ w.heap.size) (hl : zs.length ≤ 65536) :
    Calls Tryd.prog 50 #[v] w (SpoilPost w base) := by
  rcases hv.2 with ⟨rfl, h0⟩ | ⟨g, cap, cs, rfl, hg, hh, _⟩
  · have hz : zs = [] := List.eq_nil_of_length_eq_zero h0
    subst hz
    have HV := Lib.hid hv
    clear hv h0
    go_enter Tryd.func50, Tryd.ntmps50
    go_wp2
    refine wp_loop_rounds 1 ?_
    rw [rounds_succ]
    go_wp2_with (at_builtin
                 refine wpI_one rfl _ _ rfl base w (.slice none 0 0) [] 5 rfl HV.out rfl (by simp) hbase ?_
                 intro v1 w2 hp1
                 have HB := Lib.hid (hp1.bel base w (Below.refl _ _) (Nat.le_refl _) hbase)
                 clear hp1)
    go_end0
    exact ⟨rfl, HB.out⟩
  · have HV := Lib.hid hv
    clear hv hh
    obtain ⟨n, hn⟩ : ∃ n, n = zs.length := ⟨_, rfl⟩
    have HN := Lib.hid hn
    rw [← hn] at hl HV ⊢
    clear hn
    go_enter Tryd.func50, Tryd.ntmps50
    go_wp2
    go_loopg [2] n (fun g1 i wr => ∃ (k : Nat) (ys : List Int), i = .int .i64 k ∧ k ≤ n ∧ n - k ≤ g1 ∧ w.heap.size ≤ wr.heap.size ∧ Hid (ys.length = n ∧ OwnK .i64 3 wr base (.slice (some ⟨g, 0, none⟩) n cap) ys ∧ Below base w wr))
    case atStart => exact ⟨0, zs, rfl, Nat.zero_le _, by omega, Nat.le_refl _, ⟨HN.out.symm, HV.out, Below.refl _ _⟩⟩
    case round =>
      obtain ⟨k, ys, rfl, hk, hg1, hsz, HI⟩ := hrel
      by_cases hlt : k < n
      · have hltz : (k : Int) < (n : Int) := by omega
        obtain ⟨c1, f1, hb1, hb2⟩ := OwnK.cellAt HI.out.1 HI.out.2.1 k hlt
        have HI2 : Hid ((ys.set k (-99)).length = n ∧ OwnK .i64 3 (wr.setCell ⟨g, k, none⟩ (.int .i64 (-99))) base (.slice (some ⟨g, 0, none⟩) n cap) (ys.set k (-99)) ∧ Below base w (wr.setCell ⟨g, k, none⟩ (.int .i64 (-99)))) :=
          ⟨by rw [List.length_set]; exact HI.out.1, OwnK.stored HI.out.1 HI.out.2.1 k (-99), HI.out.2.2.setCell hb1 _⟩
        clear HI
        go_wp2
        go_roundg (n - (k + 1))
        case measure => omega
        case rel => exact ⟨k + 1, _, by go_num, by omega, by omega, by simpa using hsz, HI2⟩
      · have hltz : ¬ (k : Int) < (n : Int) := by omega
        have hys : ys.length ≤ 65536 := by have := HI.out.1; omega
        go_wp2_with (at_builtin
                     refine wpI_one rfl _ _ rfl base wr (.slice (some ⟨g, 0, none⟩) n cap) ys 5 rfl HI.out.2.1 rfl (by omega) (by omega) ?_
                     intro v1 w2 hp1
                     have HB := Lib.hid (hp1.bel base w HI.out.2.2 (Nat.le_refl _) (by omega))
                     clear hp1)
        go_end0
        exact ⟨rfl, HB.out⟩

/-- too much to be played? -/
def heavyB (s l x : Nat) : Bool := decide (65546 < s ∨ 2000 < l ∨ 3000 < x)
def BoolPost (w : World) (b : Bool) (e : Ending) (w' : World) : Prop := e = .returned (.bool b) ∧ Below w.heap.size w w'

end Go.Proofs.YtknfpildkiekcaaDoor
