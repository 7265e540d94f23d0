/- Joined: D4. -/
import Derived.Test.YtdpopdlifcjdeaaDoorYD3

/- Hold: known. -/
namespace Go.Proofs.YtdpopdlifcjdeaaDoor
open Go.RowKit Go.Lib
set_option linter.unusedVariables false

theorem eg55 : ∀ args w, (callFunc 55 args).run Tryd.prog w = .ok (.enter 55 args) w := enters_of Tryd.func55 (by kernel_rfl) rfl
theorem eg64 : ∀ args w, (callFunc 64 args).run Tryd.prog w = .ok (.enter 64 args) w := enters_of Tryd.func64 (by kernel_rfl) rfl
def knownB (v : List Int) (hs : List OpD) (o : OpD) : Bool := decide (o.2 ≤ atV v o) || hs.any (sameB · o)
set_option maxHeartbeats 2000000 in
theorem known_any (va : Option Addr) (v : List Int) (vn vc : Nat) (ha : Option Addr) (hs : List OpD) (n c : Nat) (x : OpD) (da : Option Addr) (dn dc : Nat) (w : World) (hv : RowK .i64 w va v) (hvn : vn = v.length) (hr : RowO w ha hs) (hn : n = hs.length) (hl : hs.length * 120 ≤ 140737488355328) (hf : fitsB v x = true) :
    Calls Tryd.prog 33 #[.slice va vn vc, .slice ha n c, valO x da dn dc] w (BoolPost w (knownB v hs x)) := by
  have mixed : Tryd.prog.follows .mixedOrders = true := by kernel_rfl
  have F := ok_facts (fits_iff.1 hf).2.1
  have hlt := fits_lt hf
  have HB := Lib.hid (box_bel w (objO x da dn dc))
  have HA := Lib.hid (OpX.new w x da dn dc)
  obtain ⟨rn, hrn⟩ : ∃ rn : Nat, x.1.r = rn := ⟨x.1.r.toNat, by have := F.r0; omega⟩
  have hrl : rn < vn := by omega
  have hrl2 : (rn : Int) < (vn : Int) := by omega
  have hcell := hv rn (by omega)
  obtain ⟨vb, vo, rfl, hc⟩ := hcell
  have hvb := World.block_lt_of_cell? _ _ hc
  have HZ : Hid (atV v x = v.getD rn 0) := by show _ = _; unfold atV; rw [hrn]; rfl
  have cv : (w.alloc (objO x da dn dc)).cell? ⟨vb, vo + rn, none⟩ = some (.int .i64 (v.getD rn 0)) := (HB.out.cell (p := ⟨vb, vo + rn, none⟩) hvb).trans hc
  have C := Lib.hid (fun W (hb : Below w.heap.size w W) (hx : OpX W w.heap.size 0 x da dn dc) => contains_any 55 (.pointer (some ⟨w.heap.size, 0, none⟩)) (sameB · x) eg55 ha hs n c W (hr.below hb) hn hl (fun W2 y da2 dc2 _ hb2 _ _ => known1_any y da2 y.1.ds.length dc2 w.heap.size x da dn dc W2 (hx.next hb2)))
  obtain ⟨d, hd⟩ : ∃ d, decide (x.2 ≤ v.getD rn 0) = d := ⟨_, rfl⟩
  obtain ⟨ab, hab⟩ : ∃ ab, hs.any (sameB · x) = ab := ⟨_, rfl⟩
  have HR : Hid (knownB v hs x = (d || ab)) := by show _ = _; unfold knownB; rw [HZ.out, hd, hab]
  rw [hab] at C
  rw [HR.out]
  have hc1 := HA.out.c1
  rw [hrn] at hc1
  clear hab HR HZ hlt hc hf hv hr F hn hvn hrn hl
  generalize v.getD rn 0 = z at *
  obtain ⟨c0, _, c2, c3, c4, c5, c6, c7, c8, c9, c10, c11⟩ := HA.out
  cases d
  · have x1 : St.RegrownTo (w.alloc (objO x da dn dc)) 54 #[.slice ha n c, .func (.func 55) #[] #[.pointer (some ⟨w.heap.size, 0, none⟩)]] (.bool ab) := regrown_at fun W' hb => C.out W' (HB.out.trans (hb.mono HB.out.size)) (HA.out.next hb)
    obtain ⟨g0, g1, g2, g3, g4, g5, g6, g7, g8, g9, g10, g11⟩ := HA.out.regrown
    have gv := cell_regrown cv
    have g1' := cell_regrown hc1
    clear c0 c2 c3 c4 c5 c6 c7 c8 c9 c10 c11 g1 hc1 cv C HA
    go_enter Tryd.func33, Tryd.ntmps33
    go_wp2_with fail
    refine wp_region_quiet_below (by assumption) (by kernel_rfl) ?_
    generalize w.alloc (objO x da dn dc) = W at *
    generalize hg : w.heap.size = g at x1 g0 g1' g2 g3 g4 g5 g6 g7 g8 g9 g10 g11 ⊢
    clear hg
    repeat (go_big_quiet_step ((first | (go_at_call 54; with_reducible exact x1 _ _))))
    refine wpQuiet_nil ?_
    intro _ hw'
    obtain ⟨⟨dq, osq⟩, hw''⟩ := hw'
    subst hw''
    go_wp2
    go_ret
    exact ⟨by rw [Bool.false_or]; rfl, HB.out.trans ((below_regrown _ dq osq).mono HB.out.size)⟩
  · go_enter Tryd.func33, Tryd.ntmps33
    go_wp2_with fail
    go_quiet (fail)
    go_wp2
    go_ret
    exact ⟨rfl, below_drewN HB.out _⟩
end Go.Proofs.YtdpopdlifcjdeaaDoor
