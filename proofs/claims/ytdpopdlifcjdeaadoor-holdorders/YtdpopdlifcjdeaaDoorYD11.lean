/- Joined: D11. -/
import Derived.Test.YtdpopdlifcjdeaaDoorYD10

/- Hold: what one operation sets free: goto. -/
namespace Go.Proofs.YtdpopdlifcjdeaaDoor
open Go.RowKit Go.Lib
set_option linter.unusedVariables false

def FreeJ (va : Option Addr) (vn vc : Nat) (ha : Option Addr) (n c : Nat) (o : OpD) (oa : Option Addr) (oc : Nat) (w : World) (g : Nat) (hs : List OpD) (fin : List Int × List OpD) (act : Act) (W : World) : Prop :=
  ∃ (gw cw : Nat) (v : List Int) (k : Nat) (ta : Option Addr) (tc : Nat) (tk : List OpD) (dl : List Value) (x : OpD) (da : Option Addr) (dc : Nat) (u3 u4 u8 u9 u10 u11 u12 u13 u14 u15 u16 u17 u18 u19 u20 u21 u22 u23 u24 u25 u26 u27 u28 u29 u30 u31 u32 u33 : Value), act = { tmps := #[.slice va vn vc, .slice ha n c, valO o oa o.1.ds.length oc, u3, u4, .pointer (some ⟨g, 0, none⟩), .pointer (some ⟨g + 1, 0, none⟩), .slice ta k tc, u8, u9, u10, u11, u12, u13, u14, u15, u16, u17, u18, u19, u20, u21, u22, u23, u24, u25, u26, u27, u28, u29, u30, u31, u32, u33], defers := [] } ∧ FrM hs fin v tk x ∧ FrS w W g gw cw vn v k ta tc tk dl x da dc
def FreePost (fin : List Int × List OpD) (w : World) (e : Ending) (w' : World) : Prop := ∃ gw cw n tv dl, e = .returned (.tuple #[.slice (some ⟨gw, 0, none⟩) n cw, tv]) ∧ n = fin.1.length ∧ OwnK .i64 3 w' w.heap.size (.slice (some ⟨gw, 0, none⟩) n cw) fin.1 ∧ OwnO w' w.heap.size tv fin.2 dl ∧ DepsO w' w.heap.size fin.2 dl ∧ (∀ d ∈ dl, d.ownBlock = none ∨ d.ownBlock ≠ some gw) ∧ Below w.heap.size w w'
theorem free_end {w W : World} {g gw cw vn : Nat} {v : List Int} {k : Nat} {ta : Option Addr} {tc : Nat} {tk : List OpD} {dl : List Value} {x : OpD} {da : Option Addr} {dc : Nat} {fin : List Int × List OpD} (h : FrS w W g gw cw vn v k ta tc tk dl x da dc) (hf : fin = (v, tk)) : FreePost fin w (.returned (.tuple #[.slice (some ⟨gw, 0, none⟩) vn cw, .slice ta k tc])) W := by
  subst hf
  have := h.hg
  exact ⟨gw, cw, vn, _, dl, rfl, h.len.symm, h.own.mono (by omega), h.tak.mono (by omega), h.dep.mono (by omega), h.apt, by rw [this]; exact h.bel⟩

theorem FrS.recel {w W : World} {g gw cw vn : Nat} {v : List Int} {k : Nat} {ta : Option Addr} {tc : Nat} {tk : List OpD} {dl : List Value} {x : OpD} {da : Option Addr} {dc : Nat} (h : FrS w W g gw cw vn v k ta tc tk dl x da dc) : FrS w (W.setCell ⟨g + 1, 0, none⟩ (.slice (some ⟨gw, 0, none⟩) vn cw)) g gw cw vn v k ta tc tk dl x da dc := by
  have h1 := h.lt
  refine ⟨h.hg, h.len, h.own.far (show g + 1 < g + 2 by omega) 0 _, h.box.other (by omega) _ _, ?_, h.row, h.kl, h.tak.far (show g + 1 < g + 2 by omega) 0 _, h.dep.far (show g + 1 < g + 2 by omega) 0 _, h.apt, h.bel.setCell (p := ⟨g + 1, 0, none⟩) (by show g ≤ g + 1; omega) _⟩
  exact h.cel.set 0 (.slice (some ⟨gw, 0, none⟩) vn cw)

set_option maxHeartbeats 8000000 in
set_option maxRecDepth 100000 in
theorem free_any (va : Option Addr) (v0 : List Int) (vn vc : Nat) (ha : Option Addr) (hs : List OpD) (n c : Nat) (o : OpD) (oa : Option Addr) (oc : Nat) (w : World) (ht : Pr.Tab w) (hv : RowK .i64 w va v0) (hvn : vn = v0.length) (hr : RowO w ha hs) (hn : n = hs.length) (hl : n ≤ 16) (hro : RowK .i64 w oa o.1.ds) (hfo : fitsB v0 o = true) (hfh : ∀ y ∈ hs, fitsB v0 y = true) :
    Calls Tryd.prog 42 #[.slice va vn vc, .slice ha n c, valO o oa o.1.ds.length oc] w (FreePost (freeG hs hs.length (setV v0 o) [o]) w) := by
  have mixed : Tryd.prog.follows .mixedOrders = true := by kernel_rfl
  obtain ⟨g, hg⟩ : ∃ g, w.heap.size = g := ⟨_, rfl⟩
  have HA := Lib.hid hr
  have HN := Lib.hid hn
  have HT := Lib.hid ht
  have hv1 := Hv.vecB_len (fits_iff.1 hfo).1
  have HM0 := Lib.hid (FrM.start hfo hfh)
  obtain ⟨fin, hfin⟩ : ∃ fin, freeG hs hs.length (setV v0 o) [o] = fin := ⟨_, rfl⟩
  rw [hfin] at HM0 ⊢
  have HG := Lib.hid hg
  have C := Lib.hid (clone_any va v0 vn vc ((w.alloc (objO o oa o.1.ds.length oc)).alloc (.cells #[.slice none 0 0] 22)) (hv.below (St.below2 w _ _) (Nat.le_refl _)) hvn hv1.1 (by omega))
  have HS0 := Lib.hid (fun w1 wv hb ho => FrS.start (w1 := w1) o oa oc v0 wv hg hv1.1 hro hb ho)
  have HVN := Lib.hid hvn
  have hC1 : ∀ w1, Below ((w.alloc (objO o oa o.1.ds.length oc)).alloc (.cells #[.slice none 0 0] 22)).heap.size ((w.alloc (objO o oa o.1.ds.length oc)).alloc (.cells #[.slice none 0 0] 22)) w1 → w1.cell? ⟨g + 1, 0, none⟩ = some (.slice none 0 0) ∧ w1.frozen? ⟨g + 1, 0, none⟩ = false := fun w1 hb => by
    have e : ((w.alloc (objO o oa o.1.ds.length oc)).alloc (.cells #[.slice none 0 0] 22)).heap.size = g + 2 := by simp [hg]
    rw [e] at hb
    refine ⟨(hb.cell (p := ⟨g + 1, 0, none⟩) (by show g + 1 < g + 2; omega)).trans (by rw [← hg]; simp), (hb.frozen (p := ⟨g + 1, 0, none⟩) (by show g + 1 < g + 2; omega)).trans ?_⟩
    exact World.frozen?_alloc_at (w := w.alloc (objO o oa o.1.ds.length oc)) _ _ _ _ (by rw [World.size_alloc, hg])
  have HC1 := Lib.hid hC1
  clear hr hn ht hv hvn hro hfo hfh hfin hv1 hC1
  go_enter Tryd.func42, Tryd.ntmps42
  go_wp2
  refine wp_scope_jumps 0 (FreeJ va vn vc ha n c o oa oc w g hs fin) (fun a' _ => n + 1 - Hv.lenOfS (a'.tmps.getD 7 undef)) rfl ?_ ?_
  · go_wp2_with fail
    refine (C.out).mono ?_
    rintro e w1 ⟨wv, rfl, ho, hb⟩
    obtain ⟨gw, cw, rfl, hs0⟩ := HS0.out w1 wv hb ho
    obtain ⟨e1, e2⟩ := HC1.out w1 hb
    have HS := Lib.hid hs0
    have HM := HM0
    clear ho hb HS0 HC1 C hs0 HM0
    rw [← HVN.out] at HS ⊢
    go_wp2_with fail
    go_step3
    clear e1 e2
    generalize w1.setCell ⟨g + 1, 0, none⟩ (.slice (some ⟨gw, 0, none⟩) vn cw) = W at *
    have hok := (fits_iff.1 HM.out.fx).2.1
    have F := ok_facts hok
    have hlt := fits_lt HM.out.fx
    have hlen := HS.out.len
    obtain ⟨rn, hrn⟩ : ∃ rn : Nat, o.1.r = rn := ⟨o.1.r.toNat, by have := F.r0; omega⟩
    have hrl : rn < vn := by omega
    have hrl2 : (rn : Int) < (vn : Int) := by omega
    obtain ⟨gc, gf, -, -⟩ := OwnK.cellAt HS.out.len HS.out.own rn hrl
    have HW : Hid (FrS w (W.setCell ⟨gw, rn, none⟩ (.int .i64 o.2)) g gw cw vn (setV v0 o) 0 none 0 ([] : List OpD) ([] : List Value) o oa oc) := by
      have h := HS.out.write
      rw [show o.1.r.toNat = rn by omega] at h
      exact h
    have bx1 : W.cell? ⟨g, 1, none⟩ = some (.int .i64 (rn : Int)) := by
      have h := HS.out.box.cell 1 _ rfl
      rw [hrn] at h
      exact h
    have bx2 : W.cell? ⟨g, 2, none⟩ = some (.int .i64 o.2) := HS.out.box.cell 2 _ rfl
    have cl0 : W.cell? ⟨g + 1, 0, none⟩ = some (.slice (some ⟨gw, 0, none⟩) vn cw) := HS.out.cel.cell 0 _ rfl
    have d0 : (W.setCell ⟨gw, rn, none⟩ (.int .i64 o.2)).cell? ⟨g, 0, none⟩ = some (.int .i64 o.1.t) := HW.out.box.cell 0 _ rfl
    have d1 : (W.setCell ⟨gw, rn, none⟩ (.int .i64 o.2)).cell? ⟨g, 1, none⟩ = some (.int .i64 o.1.r) := HW.out.box.cell 1 _ rfl
    have d2 : (W.setCell ⟨gw, rn, none⟩ (.int .i64 o.2)).cell? ⟨g, 2, none⟩ = some (.int .i64 o.2) := HW.out.box.cell 2 _ rfl
    have d3 : (W.setCell ⟨gw, rn, none⟩ (.int .i64 o.2)).cell? ⟨g, 3, none⟩ = some (.slice oa o.1.ds.length oc) := HW.out.box.cell 3 _ rfl
    have d4 : (W.setCell ⟨gw, rn, none⟩ (.int .i64 o.2)).cell? ⟨g, 4, none⟩ = some (.int .i64 o.1.k) := HW.out.box.cell 4 _ rfl
    have d5 : (W.setCell ⟨gw, rn, none⟩ (.int .i64 o.2)).cell? ⟨g, 5, none⟩ = some (.int .i64 o.1.nt) := HW.out.box.cell 5 _ rfl
    have d6 : (W.setCell ⟨gw, rn, none⟩ (.int .i64 o.2)).cell? ⟨g, 6, none⟩ = some (.int .i64 o.1.nr) := HW.out.box.cell 6 _ rfl
    have d7 : (W.setCell ⟨gw, rn, none⟩ (.int .i64 o.2)).cell? ⟨g, 7, none⟩ = some (.int .i64 o.1.pt) := HW.out.box.cell 7 _ rfl
    have d8 : (W.setCell ⟨gw, rn, none⟩ (.int .i64 o.2)).cell? ⟨g, 8, none⟩ = some (.int .i64 o.1.pr) := HW.out.box.cell 8 _ rfl
    have d9 : (W.setCell ⟨gw, rn, none⟩ (.int .i64 o.2)).cell? ⟨g, 9, none⟩ = some (.string o.1.s) := HW.out.box.cell 9 _ rfl
    have d10 : (W.setCell ⟨gw, rn, none⟩ (.int .i64 o.2)).cell? ⟨g, 10, none⟩ = some (.int .i64 o.1.p) := HW.out.box.cell 10 _ rfl
    have d11 : (W.setCell ⟨gw, rn, none⟩ (.int .i64 o.2)).cell? ⟨g, 11, none⟩ = some (.int .i64 o.1.v) := HW.out.box.cell 11 _ rfl
    have CP := Lib.hid (copied_any o oa oc (W.setCell ⟨gw, rn, none⟩ (.int .i64 o.2)) HW.out.rowW hok)
    have HDM : Hid (o.1.ds.length ≤ 17592186044416) := by have := ok_len hok; show _ ≤ _; omega
    have HKN : Hid (([] : List OpD).length ≤ 16) := by have h1 := HM.out.ct; have h2 := HN.out; show _ ≤ _; omega
    have IX : Hid (∀ W2 k2 ta2 tc2 tk2 dl2, FrS w W2 g gw cw vn (setV v0 o) k2 ta2 tc2 tk2 dl2 o oa oc → Calls Tryd.prog 63 #[.slice ha n c, .func (.func 64) #[] #[.pointer (some ⟨g + 1, 0, none⟩)]] W2 (IdxPost W2 hs (readyB (setV v0 o)))) := fun W2 k2 ta2 tc2 tk2 dl2 h2 => by
      have hbw : Below w.heap.size w W2 := by rw [HG.out]; exact h2.bel
      exact idx_any 64 _ (readyB (setV v0 o)) eg64 ha hs n c W2 (HA.out.below hbw) HN.out (by have := HN.out; omega) (fun W3 y da2 dc2 hy hb3 hrow hdm => free1_any (some ⟨gw, 0, none⟩) (setV v0 o) vn cw y da2 y.1.ds.length dc2 (g + 1) W3 (HT.out.below (hbw.trans (hb3.mono hbw.size)) HT.out.lt) ((h2.next hb3).cel.cell 0 _ rfl) (h2.next hb3).vec h2.len.symm hrow rfl (fits_set HM.out.fx (HM.out.fh y hy)))
    have hsz : g + 2 ≤ W.heap.size := by have := HS.out.lt; omega
    clear hok F hlt hlen hrn
    go_wp2_with fail
    refine (CP.out).mono ?_
    rintro e w2 ⟨da1, dc1, rfl, ho1, hb1⟩
    have HB1 := Lib.hid hb1
    have HO1 := Lib.hid ho1
    clear hb1 ho1 CP bx1 bx2 cl0 gc gf d0 d1 d2 d3 d4 d5 d6 d7 d8 d9 d10 d11
    go_wp2_with (at_builtin
                 refine wpO_one rfl _ _ rfl (g + 2) w2 (.slice none 0 0) ([] : List OpD) ([] : List Value) o.1.t o.1.r o.2 da1 o.1.ds o.1.ds.length dc1 o.1.k o.1.nt o.1.nr o.1.pt o.1.pr o.1.s o.1.p o.1.v rfl (HW.out.tak.below HB1.out) _ rfl rfl (by have := HKN.out; omega) (by have h1 := HB1.out.size; rw [World.size_setCell] at h1; omega) ?_
                 intro v6 w6 hp6
                 obtain ⟨ta2, tc2, rfl, hs2⟩ := FrS.push HW.out HB1.out HO1.out HDM.out hp6
                 have HS3 := Lib.hid hs2
                 clear hp6 hs2)
    refine (IX.out _ _ _ _ _ _ HS3.out).mono ?_
    rintro e w7 ⟨z, rfl, hz, hb7⟩
    have HS4 := Lib.hid (HS3.out.next hb7)
    clear hb7 IX
    rcases hz with ⟨rfl, hnone⟩ | ⟨k2, y, rfl, hk2, hsome⟩
    · have HE := Lib.hid (HM.out.done hnone)
      have z0 : w7.cell? ⟨g + 1, 0, none⟩ = some (.slice (some ⟨gw, 0, none⟩) vn cw) := HS4.out.cel.cell 0 _ rfl
      have zf : w7.frozen? ⟨g + 1, 0, none⟩ = false := HS4.out.cel.free 0 _ rfl
      have z1 : (w7.setCell ⟨g + 1, 0, none⟩ (.slice (some ⟨gw, 0, none⟩) vn cw)).cell? ⟨g + 1, 0, none⟩ = some (.slice (some ⟨gw, 0, none⟩) vn cw) := HS4.out.recel.cel.cell 0 _ rfl
      clear hnone
      go_wp2_with fail
      simp only [Exit.jump]
      refine bodyPost_ret (v := .tuple #[.slice (some ⟨gw, 0, none⟩) vn cw, .slice ta2 (0 + 1) tc2]) (by simp [results, Tryd.results42, go_sem, z1]) rfl ?_
      exact free_end HS4.out.recel HE.out
    · have HK2 := Lib.hid hk2
      have HM2 := Lib.hid (HM.out.next hsome)
      have hk2n : k2 < n := by have h1 := (List.getElem?_eq_some_iff.1 hk2).1; have h2 := HN.out; omega
      have hk2z : (k2 : Int) < (n : Int) := by omega
      have hk0 : (0 : Int) ≤ (k2 : Int) := by omega
      obtain ⟨b, off, rfl, da2, dc2, hat, hrow, hdm⟩ := HA.out k2 y hk2
      have HRW := Lib.hid hrow
      obtain ⟨c0, c1, c2, c3, c4, c5, c6, c7, c8, c9, c10, c11⟩ := hat.below HS4.out.bel (by have := hat.lt; have := HG.out; omega)
      have b0 := HS4.out.box.cell 0 _ rfl
      have f0 := HS4.out.box.free 0 _ rfl
      have b1 := HS4.out.box.cell 1 _ rfl
      have f1 := HS4.out.box.free 1 _ rfl
      have b2 := HS4.out.box.cell 2 _ rfl
      have f2 := HS4.out.box.free 2 _ rfl
      have b3 := HS4.out.box.cell 3 _ rfl
      have f3 := HS4.out.box.free 3 _ rfl
      have b4 := HS4.out.box.cell 4 _ rfl
      have f4 := HS4.out.box.free 4 _ rfl
      have b5 := HS4.out.box.cell 5 _ rfl
      have f5 := HS4.out.box.free 5 _ rfl
      have b6 := HS4.out.box.cell 6 _ rfl
      have f6 := HS4.out.box.free 6 _ rfl
      have b7 := HS4.out.box.cell 7 _ rfl
      have f7 := HS4.out.box.free 7 _ rfl
      have b8 := HS4.out.box.cell 8 _ rfl
      have f8 := HS4.out.box.free 8 _ rfl
      have b9 := HS4.out.box.cell 9 _ rfl
      have f9 := HS4.out.box.free 9 _ rfl
      have b10 := HS4.out.box.cell 10 _ rfl
      have f10 := HS4.out.box.free 10 _ rfl
      have b11 := HS4.out.box.cell 11 _ rfl
      have f11 := HS4.out.box.free 11 _ rfl
      have HS5 := Lib.hid (HS4.out.rebox (y := y) (da2 := da2) (dc2 := dc2) HRW.out)
      clear hk2 hsome hat hrow hdm
      go_wp2_with fail
      go_step3
      exact ⟨rfl, _, _, _, _, _, _, _, _, _, _, _, _, _, _, _, _, _, _, _, _, _, _, _, _, _, _, _, _, _, _, _, _, _, _, _, _, _, _, _, rfl, HM2.out.1, HS5.out⟩
  · rintro a' W ⟨gw, cw, v, k, ta, tc, tk, dl, x, da, dc, u3, u4, u8, u9, u10, u11, u12, u13, u14, u15, u16, u17, u18, u19, u20, u21, u22, u23, u24, u25, u26, u27, u28, u29, u30, u31, u32, u33, rfl, hM, hS⟩
    have HM := Lib.hid hM
    have HS := Lib.hid hS
    clear hM hS HM0 HS0 HC1 C
    have hok := (fits_iff.1 HM.out.fx).2.1
    have F := ok_facts hok
    have hlt := fits_lt HM.out.fx
    have hlen := HS.out.len
    obtain ⟨rn, hrn⟩ : ∃ rn : Nat, x.1.r = rn := ⟨x.1.r.toNat, by have := F.r0; omega⟩
    have hrl : rn < vn := by omega
    have hrl2 : (rn : Int) < (vn : Int) := by omega
    obtain ⟨gc, gf, -, -⟩ := OwnK.cellAt HS.out.len HS.out.own rn hrl
    have HW : Hid (FrS w (W.setCell ⟨gw, rn, none⟩ (.int .i64 x.2)) g gw cw vn (setV v x) k ta tc tk dl x da dc) := by
      have h := HS.out.write
      rw [show x.1.r.toNat = rn by omega] at h
      exact h
    have bx1 : W.cell? ⟨g, 1, none⟩ = some (.int .i64 (rn : Int)) := by
      have h := HS.out.box.cell 1 _ rfl
      rw [hrn] at h
      exact h
    have bx2 : W.cell? ⟨g, 2, none⟩ = some (.int .i64 x.2) := HS.out.box.cell 2 _ rfl
    have cl0 : W.cell? ⟨g + 1, 0, none⟩ = some (.slice (some ⟨gw, 0, none⟩) vn cw) := HS.out.cel.cell 0 _ rfl
    have d0 : (W.setCell ⟨gw, rn, none⟩ (.int .i64 x.2)).cell? ⟨g, 0, none⟩ = some (.int .i64 x.1.t) := HW.out.box.cell 0 _ rfl
    have d1 : (W.setCell ⟨gw, rn, none⟩ (.int .i64 x.2)).cell? ⟨g, 1, none⟩ = some (.int .i64 x.1.r) := HW.out.box.cell 1 _ rfl
    have d2 : (W.setCell ⟨gw, rn, none⟩ (.int .i64 x.2)).cell? ⟨g, 2, none⟩ = some (.int .i64 x.2) := HW.out.box.cell 2 _ rfl
    have d3 : (W.setCell ⟨gw, rn, none⟩ (.int .i64 x.2)).cell? ⟨g, 3, none⟩ = some (.slice da x.1.ds.length dc) := HW.out.box.cell 3 _ rfl
    have d4 : (W.setCell ⟨gw, rn, none⟩ (.int .i64 x.2)).cell? ⟨g, 4, none⟩ = some (.int .i64 x.1.k) := HW.out.box.cell 4 _ rfl
    have d5 : (W.setCell ⟨gw, rn, none⟩ (.int .i64 x.2)).cell? ⟨g, 5, none⟩ = some (.int .i64 x.1.nt) := HW.out.box.cell 5 _ rfl
    have d6 : (W.setCell ⟨gw, rn, none⟩ (.int .i64 x.2)).cell? ⟨g, 6, none⟩ = some (.int .i64 x.1.nr) := HW.out.box.cell 6 _ rfl
    have d7 : (W.setCell ⟨gw, rn, none⟩ (.int .i64 x.2)).cell? ⟨g, 7, none⟩ = some (.int .i64 x.1.pt) := HW.out.box.cell 7 _ rfl
    have d8 : (W.setCell ⟨gw, rn, none⟩ (.int .i64 x.2)).cell? ⟨g, 8, none⟩ = some (.int .i64 x.1.pr) := HW.out.box.cell 8 _ rfl
    have d9 : (W.setCell ⟨gw, rn, none⟩ (.int .i64 x.2)).cell? ⟨g, 9, none⟩ = some (.string x.1.s) := HW.out.box.cell 9 _ rfl
    have d10 : (W.setCell ⟨gw, rn, none⟩ (.int .i64 x.2)).cell? ⟨g, 10, none⟩ = some (.int .i64 x.1.p) := HW.out.box.cell 10 _ rfl
    have d11 : (W.setCell ⟨gw, rn, none⟩ (.int .i64 x.2)).cell? ⟨g, 11, none⟩ = some (.int .i64 x.1.v) := HW.out.box.cell 11 _ rfl
    have CP := Lib.hid (copied_any x da dc (W.setCell ⟨gw, rn, none⟩ (.int .i64 x.2)) HW.out.rowW hok)
    have HDM : Hid (x.1.ds.length ≤ 17592186044416) := by have := ok_len hok; show _ ≤ _; omega
    have HKN : Hid (tk.length ≤ 16) := by have h1 := HM.out.ct; have h2 := HN.out; show _ ≤ _; omega
    have IX : Hid (∀ W2 k2 ta2 tc2 tk2 dl2, FrS w W2 g gw cw vn (setV v x) k2 ta2 tc2 tk2 dl2 x da dc → Calls Tryd.prog 63 #[.slice ha n c, .func (.func 64) #[] #[.pointer (some ⟨g + 1, 0, none⟩)]] W2 (IdxPost W2 hs (readyB (setV v x)))) := fun W2 k2 ta2 tc2 tk2 dl2 h2 => by
      have hbw : Below w.heap.size w W2 := by rw [HG.out]; exact h2.bel
      exact idx_any 64 _ (readyB (setV v x)) eg64 ha hs n c W2 (HA.out.below hbw) HN.out (by have := HN.out; omega) (fun W3 y da2 dc2 hy hb3 hrow hdm => free1_any (some ⟨gw, 0, none⟩) (setV v x) vn cw y da2 y.1.ds.length dc2 (g + 1) W3 (HT.out.below (hbw.trans (hb3.mono hbw.size)) HT.out.lt) ((h2.next hb3).cel.cell 0 _ rfl) (h2.next hb3).vec h2.len.symm hrow rfl (fits_set HM.out.fx (HM.out.fh y hy)))
    have hsz : g + 2 ≤ W.heap.size := by have := HS.out.lt; omega
    clear hok F hlt hlen hrn
    go_wp2_with fail
    refine (CP.out).mono ?_
    rintro e w2 ⟨da1, dc1, rfl, ho1, hb1⟩
    have HB1 := Lib.hid hb1
    have HO1 := Lib.hid ho1
    clear hb1 ho1 CP bx1 bx2 cl0 gc gf d0 d1 d2 d3 d4 d5 d6 d7 d8 d9 d10 d11
    go_wp2_with (at_builtin
                 refine wpO_one rfl _ _ rfl (g + 2) w2 (.slice ta k tc) tk dl x.1.t x.1.r x.2 da1 x.1.ds x.1.ds.length dc1 x.1.k x.1.nt x.1.nr x.1.pt x.1.pr x.1.s x.1.p x.1.v rfl (HW.out.tak.below HB1.out) _ rfl rfl (by have := HKN.out; omega) (by have h1 := HB1.out.size; rw [World.size_setCell] at h1; omega) ?_
                 intro v6 w6 hp6
                 obtain ⟨ta2, tc2, rfl, hs2⟩ := FrS.push HW.out HB1.out HO1.out HDM.out hp6
                 have HS3 := Lib.hid hs2
                 clear hp6 hs2)
    refine (IX.out _ _ _ _ _ _ HS3.out).mono ?_
    rintro e w7 ⟨z, rfl, hz, hb7⟩
    have HS4 := Lib.hid (HS3.out.next hb7)
    clear hb7 IX
    rcases hz with ⟨rfl, hnone⟩ | ⟨k2, y, rfl, hk2, hsome⟩
    · have HE := Lib.hid (HM.out.done hnone)
      have z0 : w7.cell? ⟨g + 1, 0, none⟩ = some (.slice (some ⟨gw, 0, none⟩) vn cw) := HS4.out.cel.cell 0 _ rfl
      have zf : w7.frozen? ⟨g + 1, 0, none⟩ = false := HS4.out.cel.free 0 _ rfl
      have z1 : (w7.setCell ⟨g + 1, 0, none⟩ (.slice (some ⟨gw, 0, none⟩) vn cw)).cell? ⟨g + 1, 0, none⟩ = some (.slice (some ⟨gw, 0, none⟩) vn cw) := HS4.out.recel.cel.cell 0 _ rfl
      clear hnone
      go_wp2_with fail
      simp only [Exit.jump]
      refine bodyPost_ret (v := .tuple #[.slice (some ⟨gw, 0, none⟩) vn cw, .slice ta2 (k + 1) tc2]) (by simp [results, Tryd.results42, go_sem, z1]) rfl ?_
      exact free_end HS4.out.recel HE.out
    · have HK2 := Lib.hid hk2
      have HM2 := Lib.hid (HM.out.next hsome)
      have hk2n : k2 < n := by have h1 := (List.getElem?_eq_some_iff.1 hk2).1; have h2 := HN.out; omega
      have hk2z : (k2 : Int) < (n : Int) := by omega
      have hk0 : (0 : Int) ≤ (k2 : Int) := by omega
      obtain ⟨b, off, rfl, da2, dc2, hat, hrow, hdm⟩ := HA.out k2 y hk2
      have HRW := Lib.hid hrow
      obtain ⟨c0, c1, c2, c3, c4, c5, c6, c7, c8, c9, c10, c11⟩ := hat.below HS4.out.bel (by have := hat.lt; have := HG.out; omega)
      have b0 := HS4.out.box.cell 0 _ rfl
      have f0 := HS4.out.box.free 0 _ rfl
      have b1 := HS4.out.box.cell 1 _ rfl
      have f1 := HS4.out.box.free 1 _ rfl
      have b2 := HS4.out.box.cell 2 _ rfl
      have f2 := HS4.out.box.free 2 _ rfl
      have b3 := HS4.out.box.cell 3 _ rfl
      have f3 := HS4.out.box.free 3 _ rfl
      have b4 := HS4.out.box.cell 4 _ rfl
      have f4 := HS4.out.box.free 4 _ rfl
      have b5 := HS4.out.box.cell 5 _ rfl
      have f5 := HS4.out.box.free 5 _ rfl
      have b6 := HS4.out.box.cell 6 _ rfl
      have f6 := HS4.out.box.free 6 _ rfl
      have b7 := HS4.out.box.cell 7 _ rfl
      have f7 := HS4.out.box.free 7 _ rfl
      have b8 := HS4.out.box.cell 8 _ rfl
      have f8 := HS4.out.box.free 8 _ rfl
      have b9 := HS4.out.box.cell 9 _ rfl
      have f9 := HS4.out.box.free 9 _ rfl
      have b10 := HS4.out.box.cell 10 _ rfl
      have f10 := HS4.out.box.free 10 _ rfl
      have b11 := HS4.out.box.cell 11 _ rfl
      have f11 := HS4.out.box.free 11 _ rfl
      have HS5 := Lib.hid (HS4.out.rebox (y := y) (da2 := da2) (dc2 := dc2) HRW.out)
      clear hk2 hsome hat hrow hdm
      go_wp2_with fail
      go_step3
      refine ⟨rfl, ⟨_, _, _, _, _, _, _, _, _, _, _, _, _, _, _, _, _, _, _, _, _, _, _, _, _, _, _, _, _, _, _, _, _, _, _, _, _, _, _, rfl, HM2.out.1, HS5.out⟩, ?_⟩
      have h1 := HM2.out.2
      have h2 := HN.out
      have h3 := HS.out.kl
      simp [Hv.lenOfS]
      omega
end Go.Proofs.YtdpopdlifcjdeaaDoor
