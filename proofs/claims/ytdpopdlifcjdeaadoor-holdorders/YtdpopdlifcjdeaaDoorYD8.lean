/- Joined: D8. -/
import Derived.Test.YtdpopdlifcjdeaaDoorYD7
import Derived.Test.YtdpopdlifcjdeaaDoorYH

/- Hold: those above. -/
namespace Go.Proofs.YtdpopdlifcjdeaaDoor
open Go.RowKit Go.Lib
set_option linter.unusedVariables false

/-- v does not count it -/
def newB (v : List Int) (x : OpD) : Bool := decide (atV v x < x.2)
def aboveL (v : List Int) (hs : List OpD) : List OpD := hs.filter (newB v)
theorem above_yes {v : List Int} {hs : List OpD} {k : Nat} {x : OpD} (h : hs[k]? = some x) (hp : newB v x = true) : aboveL v (hs.take (k + 1)) = aboveL v (hs.take k) ++ [x] := by
  unfold aboveL
  rw [take_more h, List.filter_append, List.filter_cons_of_pos hp, List.filter_nil]
theorem above_no {v : List Int} {hs : List OpD} {k : Nat} {x : OpD} (h : hs[k]? = some x) (hp : newB v x = false) : aboveL v (hs.take (k + 1)) = aboveL v (hs.take k) := by
  unfold aboveL
  rw [take_more h, List.filter_append, List.filter_cons_of_neg (by simp [hp]), List.filter_nil, List.append_nil]
theorem above_len (v : List Int) (hs : List OpD) : (aboveL v hs).length ≤ hs.length := List.length_filter_le _ _
set_option maxHeartbeats 4000000 in
set_option maxRecDepth 100000 in
theorem above_any (va : Option Addr) (v : List Int) (vn vc : Nat) (ha : Option Addr) (hs : List OpD) (n c : Nat) (w : World) (hv : RowK .i64 w va v) (hvn : vn = v.length) (hr : RowO w ha hs) (hn : n = hs.length) (hl : hs.length * 120 ≤ 140737488355328) (hx : ∀ x ∈ hs, x.ok = true ∧ x.1.ds.length = v.length) :
    Calls Tryd.prog 41 #[.slice va vn vc, .slice ha n c] w (CopyO (aboveL v hs) w) := by
  have mixed : Tryd.prog.follows .mixedOrders = true := by kernel_rfl
  have HA := Lib.hid hr
  have HN := Lib.hid hn
  have HV := Lib.hid hv
  have HVN := Lib.hid hvn
  have HL := Lib.hid hl
  have HX := Lib.hid hx
  have hnl : n * 120 ≤ 140737488355328 := by omega
  clear hr hn hv hvn hl hx
  go_enter Tryd.func41, Tryd.ntmps41
  go_wp2
  go_loopg [5, 7, 10] n (fun g1 s5 _ s10 wr => ∃ (k : Nat) (dl : List Value), s10 = .int .i64 k ∧ k ≤ n ∧ n - k ≤ g1 ∧ Hid (CpI w wr (aboveL v (hs.take k)) s5 dl))
  case atStart => exact ⟨0, [], rfl, Nat.zero_le _, by omega, ⟨by rw [List.take_zero]; exact OwnO.nil _ _, by rw [List.take_zero]; exact DepsO.nil _ _, Below.refl _ _⟩⟩
  case round =>
    obtain ⟨k, dl, rfl, hk, hg, HI⟩ := hrel
    by_cases hin : k < n
    · have hinz : (k : Int) < (n : Int) := by omega
      obtain ⟨x, hx⟩ : ∃ x, hs[k]? = some x := ⟨_, List.getElem?_eq_getElem (by rw [← HN.out]; exact hin)⟩
      obtain ⟨b, off, rfl, da, dc, hat, hrow, hdm⟩ := (HA.out.below HI.out.bel) k x hx
      obtain ⟨hok, hdv⟩ := HX.out x (List.mem_of_getElem? hx)
      have F := ok_facts hok
      have HBX := Lib.hid (box_bel wr (objO x da x.1.ds.length dc))
      have HBX2 := Lib.hid (HI.out.bel.trans (HBX.out.mono HI.out.bel.size))
      have HAX := Lib.hid (OpX.new wr x da x.1.ds.length dc)
      have C := Lib.hid (fun W (hb : RowK .i64 W da x.1.ds) => copied_any x da dc W hb hok)
      have HRW := Lib.hid hrow
      have HDM := Lib.hid hdm
      obtain ⟨rn, hrn⟩ : ∃ rn : Nat, x.1.r = rn := ⟨x.1.r.toNat, by have := F.r0; omega⟩
      have hrl : rn < vn := by have := HVN.out; have := F.rl; omega
      have hrl2 : (rn : Int) < (vn : Int) := by omega
      obtain ⟨vb, vo, rfl, hc⟩ := (HV.out.below HBX2.out (Nat.le_refl _)) rn (by have := HVN.out; omega)
      have HZ : Hid (newB v x = decide (v.getD rn 0 < x.2)) := by show _ = _; unfold newB atV; rw [hrn]; rfl
      have hc1 := HAX.out.c1
      rw [hrn] at hc1
      have HXK := Lib.hid hx
      have HTL : Hid ((aboveL v (hs.take k)).length ≤ k) := by have h1 := above_len v (hs.take k); rw [List.length_take] at h1; show _ ≤ _; omega
      obtain ⟨c0, c1, c2, c3, c4, c5, c6, c7, c8, c9, c10, c11⟩ := hat
      generalize hdn : x.1.ds.length = dn at *
      have HDN := Lib.hid hdn
      clear hrn hx hrow hdm hok hdv F hdn
      generalize v.getD rn 0 = z at *
      have hsz := HI.out.bel.size
      go_wp2_with fail
      generalize hW : wr.alloc (objO x da dn dc) = W at *
      have HW := Lib.hid hW
      clear hW c0 c1 c2 c3 c4 c5 c6 c7 c8 c9 c10 c11
      obtain ⟨c0, c1, c2, c3, c4, c5, c6, c7, c8, c9, c10, c11⟩ := HAX.out
      clear c1
      cases hd : decide (z < x.2)
      · have HP : Hid (aboveL v (hs.take (k + 1)) = aboveL v (hs.take k)) := above_no HXK.out (by rw [HZ.out, hd])
        go_quiet (fail)
        go_wp2_with fail
        go_roundg (n - (k + 1))
        case measure => omega
        case rel => exact ⟨k + 1, dl, by go_num, by omega, by omega, by show CpI _ _ _ _ _; rw [HP.out]; exact ⟨(HI.out.own.below (below_drewN HBX.out nq)), HI.out.dep.below (below_drewN HBX.out nq), below_drewN HBX2.out nq⟩⟩
      · have HP : Hid (aboveL v (hs.take (k + 1)) = aboveL v (hs.take k) ++ [x]) := above_yes HXK.out (by rw [HZ.out, hd])
        go_quiet (fail)
        have HBX3 := Lib.hid (below_drewN HBX.out nq)
        have HAX3 := Lib.hid (HAX.out.drewN nq)
        have HTM := Lib.hid HW.out
        clear hc1 hc c0 c2 c3 c4 c5 c6 c7 c8 c9 c10 c11
        generalize W.drewN nq = W2 at *
        obtain ⟨c0, c1, c2, c3, c4, c5, c6, c7, c8, c9, c10, c11⟩ := HAX3.out
        go_wp2_with fail
        refine (C.out _ (HRW.out.below HBX3.out (Nat.le_refl _))).mono ?_
        rintro e w3 ⟨da1, dc1, rfl, ho1, hb1⟩
        have HB3 := Lib.hid (HBX3.out.trans (hb1.mono HBX3.out.size))
        have HO1 := Lib.hid (ho1.mono HBX3.out.size)
        clear ho1 hb1 C c0 c1 c2 c3 c4 c5 c6 c7 c8 c9 c10 c11
        go_wp2_with (at_builtin
                     refine wpO_one rfl _ _ rfl w.heap.size w3 u5 (aboveL v (hs.take k)) dl x.1.t x.1.r x.2 da1 x.1.ds x.1.ds.length dc1 x.1.k x.1.nt x.1.nr x.1.pt x.1.pr x.1.s x.1.p x.1.v rfl (HI.out.own.below HB3.out) _ rfl rfl (by have := HTL.out; omega) (by have h2 := HB3.out.size; omega) ?_
                     intro v6 w6 hp6
                     have HQ := Lib.hid (HI.out.push (x := x) (by rw [HDN.out]; exact HDM.out) HB3.out HO1.out hp6)
                     rw [← HP.out] at HQ
                     clear hp6)
        go_roundg (n - (k + 1))
        case measure => omega
        case rel => exact ⟨k + 1, _, by go_num, by omega, by omega, HQ.out⟩
    · have hinz : ¬ (k : Int) < (n : Int) := by omega
      have HF : Hid (CpI w wr (aboveL v hs) u5 dl) := by
        have h := HI.out
        rw [List.take_of_length_le (by have := HN.out; omega)] at h
        exact h
      go_wp2
      go_ret
      exact ⟨_, dl, rfl, HF.out.own, HF.out.dep, HF.out.bel⟩
end Go.Proofs.YtdpopdlifcjdeaaDoor
