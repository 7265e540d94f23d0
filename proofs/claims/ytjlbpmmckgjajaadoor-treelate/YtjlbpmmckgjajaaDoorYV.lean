/- Joined: TX8. -/
import Derived.Test.YtjlbpmmckgjajaaDoorYU
import Derived.BigRegion
import Derived.Deep.RegionHeld3
import Derived.Deep.CutRange
import Derived.BigQuiet

/- TreeLate's walk. -/
namespace Go.Proofs.YtjlbpmmckgjajaaDoor
open Go.RowKit Go.Lib Go.Maps
set_option linter.unusedVariables false

theorem late_at {zs : List OV} (h : zs.map (·.1) = madeL 3) {k : Nat} {z : OV} (hz : zs[k]? = some z) : late3[k]? = some z.1 := by
  rw [late3_made] at h
  rw [← h, List.getElem?_map, hz]
  rfl
theorem late_get0 : late3[0]? = some (mvO 1 pA (0, 0)) := rfl
theorem late_get1 : late3[1]? = some (mvO 2 pB (0, 0)) := rfl
theorem late_get2 : late3[2]? = some (mvO 3 pC (0, 0)) := rfl
theorem late_three {zs : List OV} (h : zs.map (·.1) = madeL 3) : ∃ z0 z1 z2, zs[0]? = some z0 ∧ zs[1]? = some z1 ∧ zs[2]? = some z2 ∧ z0.1 = mvO 1 pA (0, 0) ∧ z1.1 = mvO 2 pB (0, 0) ∧ z2.1 = mvO 3 pC (0, 0) := by
  have hl : zs.length = 3 := by
    have h := congrArg List.length h
    rw [List.length_map, madeL_len] at h
    exact h
  obtain ⟨z0, h0⟩ : ∃ z, zs[0]? = some z := ⟨_, List.getElem?_eq_getElem (by omega)⟩
  obtain ⟨z1, h1⟩ : ∃ z, zs[1]? = some z := ⟨_, List.getElem?_eq_getElem (by omega)⟩
  obtain ⟨z2, h2⟩ : ∃ z, zs[2]? = some z := ⟨_, List.getElem?_eq_getElem (by omega)⟩
  have a0 := late_at h h0
  have a1 := late_at h h1
  have a2 := late_at h h2
  rw [late_get0] at a0
  rw [late_get1] at a1
  rw [late_get2] at a2
  exact ⟨z0, z1, z2, h0, h1, h2, (Option.some.inj a0).symm, (Option.some.inj a1).symm, (Option.some.inj a2).symm⟩
/-- three places in boxes of their own -/
structure ThP (wr wc : World) (g8 g9 g10 : Nat) : Prop where
  bel : Below wr.heap.size wr wc
  a : PlAt wc g8 pA
  b : PlAt wc g9 pB
  c : PlAt wc g10 pC
theorem par_at {w : World} {na : Option Addr} {ns : List ND} (hr : RowF 5 ND.enc w na ns) {i : Nat} {x : ND} (hi : ns[i]? = some x) : ∃ b o, na = some ⟨b, o, none⟩ ∧ w.cell? ⟨b, o + i * 5 + 2, none⟩ = some (.int .i64 x.par.1) ∧ w.cell? ⟨b, o + i * 5 + 2 + 1, none⟩ = some (.int .i64 x.par.2) := by
  obtain ⟨b, o, e, h⟩ := hr i x hi
  exact ⟨b, o, e, h 2 _ rfl, h 3 _ rfl⟩
theorem idle_at {w : World} {ma : Option Addr} {zs : List EV} {es : List ED} (hr : RowM w ma zs) (he : entsY zs = es) {i : Nat} {b : Bool} (hi : (es[i]?).map (·.idle) = some b) : ∃ bM oM, ma = some ⟨bM, oM, none⟩ ∧ w.cell? ⟨bM, oM + i * 17 + 16, none⟩ = some (.bool b) := by
  rw [← he] at hi
  unfold entsY at hi
  rw [List.getElem?_map] at hi
  obtain ⟨z, hz⟩ : ∃ z, zs[i]? = some z := by
    rcases h : zs[i]? with _ | z
    · rw [h] at hi; cases hi
    · exact ⟨z, rfl⟩
  rw [hz] at hi
  simp only [Option.map_some, Option.some.injEq] at hi
  obtain ⟨b1, o1, e, h⟩ := hr.row i z hz
  refine ⟨b1, o1, e, ?_⟩
  have h1 := h 16 _ rfl
  rw [hi] at h1
  exact h1
structure Lt6 (w : World) (bN oN bM oM : Nat) : Prop where
  a0 : w.cell? ⟨bN, oN + 2, none⟩ = some (.int .i64 0)
  a1 : w.cell? ⟨bN, oN + 2 + 1, none⟩ = some (.int .i64 0)
  b0 : w.cell? ⟨bN, oN + 5 + 2, none⟩ = some (.int .i64 1)
  b1 : w.cell? ⟨bN, oN + 5 + 2 + 1, none⟩ = some (.int .i64 0)
  c0 : w.cell? ⟨bN, oN + 10 + 2, none⟩ = some (.int .i64 2)
  c1 : w.cell? ⟨bN, oN + 10 + 2 + 1, none⟩ = some (.int .i64 0)
  i4 : w.cell? ⟨bM, oM + 68 + 16, none⟩ = some (.bool true)
  i3 : w.cell? ⟨bM, oM + 51 + 16, none⟩ = some (.bool false)
theorem late_is6 {w : World} {B : Nat} {na : Option Addr} {nn nc : Nat} {ma : Option Addr} {mn mc : Nat} (h : TrO w B na nn nc ma mn mc late6) : nn = 3 ∧ mn = 6 ∧ ∃ bN oN bM oM, na = some ⟨bN, oN, none⟩ ∧ ma = some ⟨bM, oM, none⟩ ∧ Lt6 w bN oN bM oM := by
  obtain ⟨h1, h2, h3, zs, h4, h5⟩ := h.form
  rw [late_nd6] at h1 h3
  have e4 : ((entsG late6)[4]?).map (·.idle) = some true := by rw [← List.getElem?_map, late_en6]; rfl
  have e3 : ((entsG late6)[3]?).map (·.idle) = some false := by rw [← List.getElem?_map, late_en6]; rfl
  obtain ⟨b, o, rfl, p0, p1⟩ := par_at h3 (i := 0) rfl
  obtain ⟨b', o', e, q0, q1⟩ := par_at h3 (i := 1) rfl
  simp only [Option.some.injEq, Addr.mk.injEq] at e
  obtain ⟨rfl, rfl, _⟩ := e
  obtain ⟨b', o', e, r0, r1⟩ := par_at h3 (i := 2) rfl
  simp only [Option.some.injEq, Addr.mk.injEq] at e
  obtain ⟨rfl, rfl, _⟩ := e
  obtain ⟨bM, oM, rfl, s0⟩ := idle_at h4 h5 e4
  obtain ⟨b', o', e, s1⟩ := idle_at h4 h5 e3
  simp only [Option.some.injEq, Addr.mk.injEq] at e
  obtain ⟨rfl, rfl, _⟩ := e
  rw [Nat.zero_mul, Nat.add_zero] at p0 p1
  exact ⟨h1, h2, b, o, bM, oM, rfl, rfl, ⟨p0, p1, q0, q1, r0, r1, s0, s1⟩⟩
structure Lt7 (w : World) (bN oN bM oM : Nat) : Prop where
  a0 : w.cell? ⟨bN, oN + 2, none⟩ = some (.int .i64 3)
  a1 : w.cell? ⟨bN, oN + 2 + 1, none⟩ = some (.int .i64 0)
  b0 : w.cell? ⟨bN, oN + 5 + 2, none⟩ = some (.int .i64 1)
  b1 : w.cell? ⟨bN, oN + 5 + 2 + 1, none⟩ = some (.int .i64 0)
  c0 : w.cell? ⟨bN, oN + 10 + 2, none⟩ = some (.int .i64 0)
  c1 : w.cell? ⟨bN, oN + 10 + 2 + 1, none⟩ = some (.int .i64 0)
  i6 : w.cell? ⟨bM, oM + 102 + 16, none⟩ = some (.bool true)
theorem late_is7 {w : World} {B : Nat} {na : Option Addr} {nn nc : Nat} {ma : Option Addr} {mn mc : Nat} (h : TrO w B na nn nc ma mn mc late7) : nn = 3 ∧ mn = 7 ∧ ∃ bN oN bM oM, na = some ⟨bN, oN, none⟩ ∧ ma = some ⟨bM, oM, none⟩ ∧ Lt7 w bN oN bM oM := by
  obtain ⟨h1, h2, h3, zs, h4, h5⟩ := h.form
  rw [late_nd7] at h1 h3
  obtain ⟨b, o, rfl, p0, p1⟩ := par_at h3 (i := 0) rfl
  obtain ⟨b', o', e, q0, q1⟩ := par_at h3 (i := 1) rfl
  simp only [Option.some.injEq, Addr.mk.injEq] at e
  obtain ⟨rfl, rfl, _⟩ := e
  obtain ⟨b', o', e, r0, r1⟩ := par_at h3 (i := 2) rfl
  simp only [Option.some.injEq, Addr.mk.injEq] at e
  obtain ⟨rfl, rfl, _⟩ := e
  obtain ⟨bM, oM, rfl, s0⟩ := idle_at h4 h5 late_en7
  rw [Nat.zero_mul, Nat.add_zero] at p0 p1
  exact ⟨h1, h2, b, o, bM, oM, rfl, rfl, ⟨p0, p1, q0, q1, r0, r1, s0⟩⟩
theorem mv_dep {w : World} {o : OpD} {d : DV} {B : Nat} (hd : d.n = o.1.ds.length) (ho : OwnK .i64 3 w B (.slice d.a d.n d.c) o.1.ds) (hl : o.1.ds.length ≤ 17592186044416) : DepK w o d := by
  obtain ⟨a, c, e, hr, -⟩ := ho.form
  injection e with e1 e2 e3
  subst e1
  exact ⟨hd, hr, hl⟩
set_option maxHeartbeats 16000000 in
set_option maxRecDepth 100000 in
theorem treeLate_walk (na0 : Option Addr) (ns0 : List ND) (nn0 nc0 : Nat) (ma0 : Option Addr) (ys0 : List EV) (mn0 mc0 : Nat) (la : Option Addr) (ls : List OV) (ln lc : Nat) (ia : Option Addr) (is : List Pl) (im ic : Nat) (W : World) (ht : Pr.Tab W) (h : ScT W na0 ns0 nn0 nc0 ma0 ys0 mn0 mc0 la ls ln lc ia is im ic) :
    Calls Tryd.prog 5 #[valSc na0 nn0 nc0 ma0 mn0 mc0 la ln lc ia im ic] W (BoolPost W true) := by
  have mixed : Tryd.prog.follows .mixedOrders = true := by kernel_rfl
  have CM : Hid (∀ w, Calls Tryd.prog 17 #[.int .i64 3] w (MadePost w 3)) := fun w => made_any 3 (by decide) w
  have CV := Lib.hid (fun t a b c d w => move_any t a b c d w)
  have HN := Lib.hid (fun w => num16_any 0 w)
  have h1 := tree_build0
  have h2 := st_build0
  have HT := Lib.hid ht
  obtain ⟨W1, hW1⟩ : ∃ W1, W.alloc (.cells #[.slice na0 nn0 nc0, .slice ma0 mn0 mc0, .slice la ln lc, .slice ia im ic] 29) = W1 := ⟨_, rfl⟩
  have HB1 : Hid (Below W.heap.size W W1) := by show Below _ _ _; rw [← hW1]; exact box_bel W _
  have HS1 : Hid (W1.cell? ⟨W.heap.size, 2, none⟩ = some (.slice la ln lc)) := by show _ = _; rw [← hW1]; simp
  clear ht h
  go_enter Tryd.func5, Tryd.ntmps5
  go_wp2_with fail
  clear hW1
  refine (CM.out _).mono ?_
  rintro e w1 ⟨v1, zs, rfl, hv1, hz1, hb1⟩
  obtain ⟨la1, l1, lc1, rfl, hl1, hc1, hr1, hd1⟩ := hv1.form
  have hzl : zs.length = 3 := by
    have h := congrArg List.length hz1
    rw [List.length_map, madeL_len] at h
    exact h
  rw [hzl] at hl1
  subst hl1
  have HZL := Lib.hid hzl
  have HZ := Lib.hid hz1
  have HR := Lib.hid hr1
  have HD := Lib.hid hd1
  have HBW : Hid (Below W.heap.size W w1) := HB1.out.trans (hb1.mono HB1.out.size)
  have HS2 : Hid (w1.cell? ⟨W.heap.size, 2, none⟩ = some (.slice la ln lc)) := (hb1.cell (World.block_lt_of_cell? _ _ HS1.out)).trans HS1.out
  clear hv1 hz1 hb1 hr1 hd1 hzl CM
  go_wp2_with fail
  obtain ⟨w2, hw2⟩ : ∃ w2, w1.alloc zT = w2 := ⟨_, rfl⟩
  obtain ⟨g, hg⟩ : ∃ g, w1.heap.size = g := ⟨_, rfl⟩
  have HG := Lib.hid hg
  have HI0 : Hid (LtI w1 w2 g none 0 0 none 0 0 (late3.take 0)) := by
    show LtI _ _ _ _ _ _ _ _ _ _
    rw [← hw2, ← hg]
    exact ⟨box_bel w1 _, objT_new w1 none 0 0 none 0 0, TrO.nil _ _⟩
  rw [hw2, hg]
  clear hw2 hg
  go_loopg [5] 3 (fun gg s5 wr => ∃ (k : Nat) (na : Option Addr) (nn nc : Nat) (ma : Option Addr) (mn mc : Nat), s5 = .int .i64 k ∧ k ≤ 3 ∧ 3 - k ≤ gg ∧ Hid (LtI w1 wr g na nn nc ma mn mc (late3.take k)))
  case atStart => exact ⟨0, _, _, _, _, _, _, rfl, Nat.zero_le _, by omega, HI0⟩
  case round =>
    obtain ⟨k, na, nn, nc, ma, mn, mc, rfl, hk, hgk, HI⟩ := hrel
    clear HI0
    by_cases hin : k < 3
    · have hinz : (k : Int) < 3 := by omega
      obtain ⟨z, hz⟩ : ∃ z, zs[k]? = some z := ⟨_, List.getElem?_eq_getElem (by rw [HZL.out]; exact hin)⟩
      obtain ⟨b, off, rfl, hat⟩ := HR.out k z hz
      have hat2 : FAt OV.enc wr b (off + k * 12) z := hat.below HI.out.bl (by rw [← HG.out]; exact FAt.lt flatO hat)
      have hzk := late_at HZ.out hz
      have HCZ : Hid (∀ W', Below wr.heap.size wr W' → CellsAt W' b (off + k * 12) z.enc) := fun W' hb => FAt.below hat2 hb (FAt.lt flatO hat2)
      have CA : Hid (∀ W', Below wr.heap.size wr W' → Calls Tryd.prog 8 #[valT na nn nc ma mn mc, valOy z.1 z.2] W' (ApplyQ W' (late3.take (k + 1)))) := fun W' hb =>
        apply_to _ (late3.take k) z.1 z.2 W' k (HT.out.below (HBW.out.trans ((HI.out.bl.trans (hb.mono (Nat.le_of_lt HI.out.bk.lt))).mono (by rw [← HG.out]; exact HBW.out.size))) HT.out.lt) ((HI.out.tr.tri (by simp; omega)).next hb) (allM_take late_mv3 k) (ascS_take late_asc3 k) (late_mv3 z.1 (List.mem_of_getElem? hzk)) (((HD.out z (List.mem_of_getElem? hz)).below (by rw [HG.out]; exact HI.out.bl)).below hb) (by simp; omega) (hereS_take late_asc3 hzk) (posS_end late_asc3 hzk) (ins_end hzk)
      have HKE : Hid (∀ W', Below wr.heap.size wr W' → W'.cell? ⟨g, 0, none⟩ = some (.slice na nn nc) ∧ W'.cell? ⟨g, 0 + 1, none⟩ = some (.slice ma mn mc)) := fun W' hb => ⟨(HI.out.bk.next hb).cell 0 _ rfl, (HI.out.bk.next hb).cell 1 _ rfl⟩
      clear hat hat2 hz
      go_wp2_with fail
      go_cut [6, 7] from 19 to 35 (fun s6 s7 wc => ∃ (g6 : Nat) (na' : Option Addr) (nn' nc' : Nat) (ma' : Option Addr) (mn' mc' : Nat), s6 = .pointer (some ⟨g6, 0, none⟩) ∧ s7 = .int .i64 0 ∧ Hid (AR wr wc g6 na' nn' nc' ma' mn' mc' (late3.take (k + 1))))
      case first =>
        have hS : ∀ W', Below wr.heap.size wr W' → (fun W' => W'.cell? ⟨g, 0, none⟩ = some (.slice na nn nc) ∧ W'.cell? ⟨g, 0 + 1, none⟩ = some (.slice ma mn mc) ∧ W'.cell? ⟨b, off + k * 12, none⟩ = some (.int .i64 z.1.1.t) ∧ W'.cell? ⟨b, off + k * 12 + 1, none⟩ = some (.int .i64 z.1.1.r) ∧ W'.cell? ⟨b, off + k * 12 + 2, none⟩ = some (.int .i64 z.1.2) ∧ W'.cell? ⟨b, off + k * 12 + 3, none⟩ = some (.slice z.2.a z.2.n z.2.c) ∧ W'.cell? ⟨b, off + k * 12 + 4, none⟩ = some (.int .i64 z.1.1.k) ∧ W'.cell? ⟨b, off + k * 12 + 5, none⟩ = some (.int .i64 z.1.1.nt) ∧ W'.cell? ⟨b, off + k * 12 + 6, none⟩ = some (.int .i64 z.1.1.nr) ∧ W'.cell? ⟨b, off + k * 12 + 7, none⟩ = some (.int .i64 z.1.1.pt) ∧ W'.cell? ⟨b, off + k * 12 + 8, none⟩ = some (.int .i64 z.1.1.pr) ∧ W'.cell? ⟨b, off + k * 12 + 9, none⟩ = some (.string z.1.1.s) ∧ W'.cell? ⟨b, off + k * 12 + 10, none⟩ = some (.int .i64 z.1.1.p) ∧ W'.cell? ⟨b, off + k * 12 + 11, none⟩ = some (.int .i64 z.1.1.v) ∧ Hid (Below wr.heap.size wr W')) W' := fun W' hb => by
          obtain ⟨p0, p1⟩ := HKE.out W' hb
          have hc := HCZ.out W' hb
          exact ⟨p0, p1, hc 0 _ rfl, hc 1 _ rfl, hc 2 _ rfl, hc 3 _ rfl, hc 4 _ rfl, hc 5 _ rfl, hc 6 _ rfl, hc 7 _ rfl, hc 8 _ rfl, hc 9 _ rfl, hc 10 _ rfl, hc 11 _ rfl, hb⟩
        have HSX := Lib.hid hS
        have hS0 := hS _ (Below.refl wr.heap.size wr).drew
        have hS1 := hS _ (box_bel wr zT).drew
        clear hS
        go_wp2_with fail
        go_region_held3 (fun W' => W'.cell? ⟨g, 0, none⟩ = some (.slice na nn nc) ∧ W'.cell? ⟨g, 0 + 1, none⟩ = some (.slice ma mn mc) ∧ W'.cell? ⟨b, off + k * 12, none⟩ = some (.int .i64 z.1.1.t) ∧ W'.cell? ⟨b, off + k * 12 + 1, none⟩ = some (.int .i64 z.1.1.r) ∧ W'.cell? ⟨b, off + k * 12 + 2, none⟩ = some (.int .i64 z.1.2) ∧ W'.cell? ⟨b, off + k * 12 + 3, none⟩ = some (.slice z.2.a z.2.n z.2.c) ∧ W'.cell? ⟨b, off + k * 12 + 4, none⟩ = some (.int .i64 z.1.1.k) ∧ W'.cell? ⟨b, off + k * 12 + 5, none⟩ = some (.int .i64 z.1.1.nt) ∧ W'.cell? ⟨b, off + k * 12 + 6, none⟩ = some (.int .i64 z.1.1.nr) ∧ W'.cell? ⟨b, off + k * 12 + 7, none⟩ = some (.int .i64 z.1.1.pt) ∧ W'.cell? ⟨b, off + k * 12 + 8, none⟩ = some (.int .i64 z.1.1.pr) ∧ W'.cell? ⟨b, off + k * 12 + 9, none⟩ = some (.string z.1.1.s) ∧ W'.cell? ⟨b, off + k * 12 + 10, none⟩ = some (.int .i64 z.1.1.p) ∧ W'.cell? ⟨b, off + k * 12 + 11, none⟩ = some (.int .i64 z.1.1.v) ∧ Hid (Below wr.heap.size wr W')) (with_reducible assumption) (
          (go_at_call 8
           (first
            | (with_reducible refine (CA.out _ (Below.refl wr.heap.size wr).drew).mono ?_
               rintro e w17 ⟨hb17, na', nn', nc', ma', mn', mc', rfl, ho17⟩
               have HR17 := Lib.hid (AR.two hb17 ho17)
               have hb18 := (Below.refl wr.heap.size wr).drew.trans hb17
               have hS17 := HSX.out w17 hb18
               have hS18 := HSX.out _ (hb18.trans ((box_bel w17 zT).mono hb18.size))
               have hS19 := HSX.out _ HR17.out.bel
               clear hb17 ho17 hb18)
            | (with_reducible refine (CA.out _ (box_bel wr zT).drew).mono ?_
               rintro e w17 ⟨hb17, na', nn', nc', ma', mn', mc', rfl, ho17⟩
               have HR17 := Lib.hid (AR.one hb17 ho17)
               have hbk := AR.box hb17
               have hS17 := HSX.out w17 ((box_bel wr zT).drew.trans (hb17.mono (by show wr.heap.size ≤ (wr.alloc zT).heap.size; simp)))
               have hS19 := HSX.out _ HR17.out.bel
               have q0 := hbk.cell 0 _ rfl
               have q1 := hbk.cell 1 _ rfl
               have q2 := hbk.free 0 _ rfl
               have q3 := hbk.free 1 _ rfl
               clear hbk hb17 ho17))))
        all_goals
          go_wp2_with fail
          go_meet
          case rel => exact ⟨_, _, _, _, _, _, _, rfl, rfl, HR17⟩
      case rest =>
        obtain ⟨g6, na', nn', nc', ma', mn', mc', rfl, rfl, HA⟩ := hcut
        rename World => wc
        have HI1 := Lib.hid (HI.out.next HA.out.bel)
        have HTO : Hid (TrO wc (g + 1) na' nn' nc' ma' mn' mc' (late3.take (k + 1))) := HA.out.tr.mono HI.out.bk.lt
        have k0 := HA.out.blk.cell 0 _ rfl
        have k1 := HA.out.blk.cell 1 _ rfl
        have c0 := HI1.out.bk.cell 0 _ rfl
        have c1 := HI1.out.bk.cell 1 _ rfl
        have f0 := HI1.out.bk.free 0 _ rfl
        have f1 := HI1.out.bk.free 1 _ rfl
        go_wp2_with (go_at_call 9
                     refine (HN.out _).mono ?_
                     rintro e w ⟨rfl, rfl⟩)
        have HP := Lib.hid (HI1.out.put HTO.out)
        go_roundg (3 - (k + 1))
        case measure => omega
        case rel => exact ⟨k + 1, _, _, _, _, _, _, by go_num, by omega, by omega, HP⟩
    · obtain rfl : k = 3 := by omega
      clear hk hgk hin
      have HI3 : Hid (LtI w1 wr g na nn nc ma mn mc late3) := HI.out
      obtain ⟨z0, z1, z2, i0, i1, i2, e0, e1, e2⟩ := late_three HZ.out
      obtain ⟨b, off, rfl, hat0⟩ := HR.out 0 z0 i0
      have HFA : Hid (∀ W', Below g w1 W' → FAt OV.enc W' b (off + 0 * 12) z0 ∧ FAt OV.enc W' b (off + 1 * 12) z1 ∧ FAt OV.enc W' b (off + 2 * 12) z2) := fun W' hb => by
        have hl : b < g := by rw [← HG.out]; exact FAt.lt flatO hat0
        obtain ⟨b1, o1, e3, hat1⟩ := HR.out 1 z1 i1
        obtain ⟨b2, o2, e4, hat2⟩ := HR.out 2 z2 i2
        simp only [Option.some.injEq, Addr.mk.injEq] at e3 e4
        obtain ⟨rfl, rfl, _⟩ := e3
        obtain ⟨rfl, rfl, _⟩ := e4
        exact ⟨hat0.below hb hl, hat1.below hb hl, hat2.below hb hl⟩
      obtain ⟨p0, p1, p2⟩ := HFA.out wr HI3.out.bl
      have q0 : wr.cell? ⟨b, off + 5, none⟩ = some (.int .i64 1) := by have h := p0 5 _ rfl; rw [e0] at h; rw [Nat.zero_mul, Nat.add_zero] at h; exact h
      have q1 : wr.cell? ⟨b, off + 5 + 1, none⟩ = some (.int .i64 0) := by have h := p0 6 _ rfl; rw [e0] at h; rw [Nat.zero_mul, Nat.add_zero] at h; exact h
      have q2 : wr.cell? ⟨b, off + 12 + 5, none⟩ = some (.int .i64 2) := by have h := p1 5 _ rfl; rw [e1] at h; rw [Nat.one_mul] at h; exact h
      have q3 : wr.cell? ⟨b, off + 12 + 5 + 1, none⟩ = some (.int .i64 0) := by have h := p1 6 _ rfl; rw [e1] at h; rw [Nat.one_mul] at h; exact h
      have q4 : wr.cell? ⟨b, off + 24 + 5, none⟩ = some (.int .i64 3) := by have h := p2 5 _ rfl; rw [e2] at h; exact h
      have q5 : wr.cell? ⟨b, off + 24 + 5 + 1, none⟩ = some (.int .i64 0) := by have h := p2 6 _ rfl; rw [e2] at h; exact h
      have hbw : b < wr.heap.size := FAt.lt flatO p0
      have hbw1 : b < wr.heap.size + 1 := by omega
      have hbw2 : b < wr.heap.size + 1 + 1 := by omega
      clear p0 p1 p2 hat0 HI i0 i1 i2 e0 e1 e2
      go_wp2_with fail
      go_cut [8, 9, 10] from 19 to 47 (fun s8 s9 s10 wc => ∃ g8 g9 g10 : Nat, s8 = .pointer (some ⟨g8, 0, none⟩) ∧ s9 = .pointer (some ⟨g9, 0, none⟩) ∧ s10 = .pointer (some ⟨g10, 0, none⟩) ∧ Hid (ThP wr wc g8 g9 g10))
      case first =>
        go_region
        all_goals
          go_wp2_with fail
          go_meet
          case rel =>
            first
              | exact ⟨_, _, _, rfl, rfl, rfl, ⟨(three_new wr pA pB pC).1, (three_new wr pA pB pC).2.1, (three_new wr pA pB pC).2.2.1, (three_new wr pA pB pC).2.2.2⟩⟩
              | exact ⟨_, _, _, rfl, rfl, rfl, ⟨(three_new wr pA pC pB).1, (three_new wr pA pC pB).2.1, (three_new wr pA pC pB).2.2.2, (three_new wr pA pC pB).2.2.1⟩⟩
              | exact ⟨_, _, _, rfl, rfl, rfl, ⟨(three_new wr pB pA pC).1, (three_new wr pB pA pC).2.2.1, (three_new wr pB pA pC).2.1, (three_new wr pB pA pC).2.2.2⟩⟩
              | exact ⟨_, _, _, rfl, rfl, rfl, ⟨(three_new wr pB pC pA).1, (three_new wr pB pC pA).2.2.2, (three_new wr pB pC pA).2.1, (three_new wr pB pC pA).2.2.1⟩⟩
              | exact ⟨_, _, _, rfl, rfl, rfl, ⟨(three_new wr pC pA pB).1, (three_new wr pC pA pB).2.2.1, (three_new wr pC pA pB).2.2.2, (three_new wr pC pA pB).2.1⟩⟩
              | exact ⟨_, _, _, rfl, rfl, rfl, ⟨(three_new wr pC pB pA).1, (three_new wr pC pB pA).2.2.2, (three_new wr pC pB pA).2.2.1, (three_new wr pC pB pA).2.1⟩⟩
      case rest =>
        obtain ⟨g8, g9, g10, rfl, rfl, rfl, HQ⟩ := hcut
        rename World => w3
        have HI4 := Lib.hid (HI3.out.next HQ.out.bel)
        have HP := HQ
        have HX3 : Hid (Below w3.heap.size w3 w3) := Below.refl _ _
        have HW3 : Hid (Below W.heap.size W w3) := HBW.out.trans (HI4.out.bl.mono (by rw [← HG.out]; exact HBW.out.size))
        have HTW : Hid (∀ W', Below w3.heap.size w3 W' → Pr.Tab W') := fun W' hb => HT.out.below (HW3.out.trans (hb.mono HW3.out.size)) HT.out.lt
        have HTI : Hid (TrI w3 (valT na nn nc ma mn mc) late3) := HI4.out.tr.tri (by decide)
        have HSC : Hid (∀ W', Below w3.heap.size w3 W' → W'.cell? ⟨W.heap.size, 2, none⟩ = some (.slice la ln lc)) := fun W' hb => by
          have h1 : W.heap.size < g := by rw [← HG.out]; exact World.block_lt_of_cell? _ _ HS2.out
          have h2 := (HI4.out.bl.cell (p := ⟨W.heap.size, 2, none⟩) h1).trans HS2.out
          exact (hb.cell (World.block_lt_of_cell? _ _ h2)).trans h2
        clear q0 q1 q2 q3 q4 q5 hbw hbw1 hbw2 HFA HI3 HQ HR HD HZL HZ HS2 HS1
        go_wp2_with fail
        have CA : Hid (∀ W' d, Below w3.heap.size w3 W' → DepK W' (mvO 20 pA pB) d → Calls Tryd.prog 8 #[valT na nn nc ma mn mc, valOy (mvO 20 pA pB) d] W' (ApplyQ W' late4)) := fun W' d hb hd =>
          apply_to _ late3 (mvO 20 pA pB) d W' 3 (HTW.out W' (HX3.out.trans (hb.mono HX3.out.size))) (HTI.out.next hb) late_mv3 late_asc3 (by decide) hd (by decide) (by decide) late_pos4 rfl
        have HSX : Hid (∀ W', Below w3.heap.size w3 W' → (fun W' => W'.cell? ⟨g, 0, none⟩ = some (.slice na nn nc) ∧ W'.cell? ⟨g, 0 + 1, none⟩ = some (.slice ma mn mc) ∧ W'.cell? ⟨g8, 0, none⟩ = some (.int .i64 1) ∧ W'.cell? ⟨g8, 0 + 1, none⟩ = some (.int .i64 0) ∧ W'.cell? ⟨g9, 0, none⟩ = some (.int .i64 2) ∧ W'.cell? ⟨g9, 0 + 1, none⟩ = some (.int .i64 0) ∧ Hid (Below w3.heap.size w3 W')) W') := fun W' hb => by
          have h1 := HI4.out.bk.next hb
          have h2 := PlAt.far HP.out.a (HX3.out.trans (hb.mono HX3.out.size)) HP.out.a.lt
          have h3 := PlAt.far HP.out.b (HX3.out.trans (hb.mono HX3.out.size)) HP.out.b.lt
          exact ⟨h1.cell 0 _ rfl, h1.cell 1 _ rfl, h2.1, h2.2, h3.1, h3.2, hb⟩
        go_cut [11, 12] from 19 to 63 (fun sx se wc => ∃ (gx : Nat) (na' : Option Addr) (nn' nc' : Nat) (ma' : Option Addr) (mn' mc' : Nat), sx = .pointer (some ⟨gx, 0, none⟩) ∧ se = .int .i64 0 ∧ Hid (AR w3 wc gx na' nn' nc' ma' mn' mc' late4))
        case first =>
          have hS0 := HSX.out _ (Below.refl w3.heap.size w3).drew
          have hS1 := HSX.out _ (box_bel w3 zT).drew
          go_wp2_with fail
          go_region_held3 (fun W' => W'.cell? ⟨g, 0, none⟩ = some (.slice na nn nc) ∧ W'.cell? ⟨g, 0 + 1, none⟩ = some (.slice ma mn mc) ∧ W'.cell? ⟨g8, 0, none⟩ = some (.int .i64 1) ∧ W'.cell? ⟨g8, 0 + 1, none⟩ = some (.int .i64 0) ∧ W'.cell? ⟨g9, 0, none⟩ = some (.int .i64 2) ∧ W'.cell? ⟨g9, 0 + 1, none⟩ = some (.int .i64 0) ∧ Hid (Below w3.heap.size w3 W')) (with_reducible assumption) (first
            | (go_at_call 18
               (first
                | (with_reducible refine (CV.out 20 1 0 2 0 w3.drew).mono ?_
                   rintro e w12 ⟨d, rfl, hd, hod, hb12⟩
                   have HB12 : Hid (Below w3.heap.size w3 w12) := (Below.refl w3.heap.size w3).drew.trans hb12
                   have HD12 := Lib.hid (mv_dep hd hod (by decide))
                   have hS12 := HSX.out _ HB12.out
                   have hS13 := HSX.out _ (HB12.out.trans ((box_bel w12 zT).mono HB12.out.size))
                   clear hd hod hb12)
                | (with_reducible refine (CV.out 20 1 0 2 0 (w3.alloc zT).drew).mono ?_
                   rintro e w12 ⟨d, rfl, hd, hod, hb12⟩
                   have HB12 : Hid (Below w3.heap.size w3 w12) := (box_bel w3 zT).drew.trans (hb12.mono (by show w3.heap.size ≤ (w3.alloc zT).heap.size; simp))
                   have HD12 := Lib.hid (mv_dep hd hod (by decide))
                   have HBX := Lib.hid (AR.box hb12)
                   have HLX : Hid (w3.heap.size < w12.heap.size) := HBX.out.lt
                   have hS12 := HSX.out _ HB12.out
                   clear hd hod hb12)))
            | (go_at_call 8
               (first
                | (have hbx := HBX.out
                   refine (CA.out w12 d HB12.out HD12.out).mono ?_
                   rintro e w13 ⟨hb13, na', nn', nc', ma', mn', mc', rfl, ho13⟩
                   have hb14 : Below w3.heap.size w3 w13 := HB12.out.trans (hb13.mono HB12.out.size)
                   have hbk := hbx.next hb13
                   have HR17 := Lib.hid (AR.set hb14 (Nat.le_refl _) hbk ho13 HLX.out)
                   have hS17 := HSX.out _ hb14
                   have hS19 := HSX.out _ HR17.out.bel
                   have q0 := hbk.cell 0 _ rfl
                   have q1 := hbk.cell 1 _ rfl
                   have q2 := hbk.free 0 _ rfl
                   have q3 := hbk.free 1 _ rfl
                   clear hbk hb14 hb13 ho13 hbx)
                | (refine (CA.out w12 d HB12.out HD12.out).mono ?_
                   rintro e w13 ⟨hb13, na', nn', nc', ma', mn', mc', rfl, ho13⟩
                   have hb14 : Below w3.heap.size w3 w13 := HB12.out.trans (hb13.mono HB12.out.size)
                   have HR17 := Lib.hid (AR.new hb14 ho13 HB12.out.size)
                   have hS17 := HSX.out _ hb14
                   have hS18 := HSX.out _ (hb14.trans ((box_bel w13 zT).mono hb14.size))
                   have hS19 := HSX.out _ HR17.out.bel
                   clear hb13 ho13 hb14)
                | (refine (CA.out (w12.alloc zT) d (HB12.out.trans ((box_bel w12 zT).mono HB12.out.size)) (HD12.out.below (box_bel w12 zT))).mono ?_
                   rintro e w13 ⟨hb13, na', nn', nc', ma', mn', mc', rfl, ho13⟩
                   have hb12a := HB12.out.trans ((box_bel w12 zT).mono HB12.out.size)
                   have hb14 : Below w3.heap.size w3 w13 := hb12a.trans (hb13.mono hb12a.size)
                   have hbk := (objT_new w12 none 0 0 none 0 0).next hb13
                   have HR17 := Lib.hid (AR.set hb14 HB12.out.size hbk ho13 (by simp))
                   have hS17 := HSX.out _ hb14
                   have hS19 := HSX.out _ HR17.out.bel
                   have q0 := hbk.cell 0 _ rfl
                   have q1 := hbk.cell 1 _ rfl
                   have q2 := hbk.free 0 _ rfl
                   have q3 := hbk.free 1 _ rfl
                   clear hbk hb12a hb14 hb13 ho13))))
          all_goals
            go_wp2_with fail
            go_meet
            case rel => exact ⟨_, _, _, _, _, _, _, rfl, rfl, HR17⟩
        case rest =>
        obtain ⟨g11, na, nn, nc, ma, mn, mc, rfl, rfl, HA⟩ := hcut
        rename World => w4
        have HL := Lib.hid (LtB.of HA.out)
        have HX3 := Lib.hid HA.out.bel
        have HTI : Hid (TrI w4 (valT na nn nc ma mn mc) late4) := HA.out.tr.tri (by decide)
        clear CA HSX HA HI4
        have CA : Hid (∀ W' d, Below w4.heap.size w4 W' → DepK W' (mvO 10 pB pA) d → Calls Tryd.prog 8 #[valT na nn nc ma mn mc, valOy (mvO 10 pB pA) d] W' (ApplyQ W' late5)) := fun W' d hb hd =>
          apply_to _ late4 (mvO 10 pB pA) d W' 3 (HTW.out W' (HX3.out.trans (hb.mono HX3.out.size))) (HTI.out.next hb) late_mv4 late_asc4 (by decide) hd (by decide) (by decide) late_pos5 rfl
        have HSX : Hid (∀ W', Below w4.heap.size w4 W' → (fun W' => W'.cell? ⟨g11, 0, none⟩ = some (.slice na nn nc) ∧ W'.cell? ⟨g11, 0 + 1, none⟩ = some (.slice ma mn mc) ∧ W'.cell? ⟨g9, 0, none⟩ = some (.int .i64 2) ∧ W'.cell? ⟨g9, 0 + 1, none⟩ = some (.int .i64 0) ∧ W'.cell? ⟨g8, 0, none⟩ = some (.int .i64 1) ∧ W'.cell? ⟨g8, 0 + 1, none⟩ = some (.int .i64 0) ∧ Hid (Below w4.heap.size w4 W')) W') := fun W' hb => by
          have h1 := HL.out.blk.next hb
          have h2 := PlAt.far HP.out.b (HX3.out.trans (hb.mono HX3.out.size)) HP.out.b.lt
          have h3 := PlAt.far HP.out.a (HX3.out.trans (hb.mono HX3.out.size)) HP.out.a.lt
          exact ⟨h1.cell 0 _ rfl, h1.cell 1 _ rfl, h2.1, h2.2, h3.1, h3.2, hb⟩
        go_wp2_with fail
        go_cut [13] from 48 to 63 (fun se wc => ∃ (na' : Option Addr) (nn' nc' : Nat) (ma' : Option Addr) (mn' mc' : Nat), se = .int .i64 0 ∧ Hid (LtB w3 wc g11 na' nn' nc' ma' mn' mc' late5))
        case first =>
          obtain ⟨k0, k1, k2, k3, k4, k5, -⟩ := HSX.out _ (Below.refl w4.heap.size w4).drew
          go_wp2_with fail
          go_region_with (first
            | (go_at_call 18
               (with_reducible refine (CV.out 10 2 0 1 0 _).mono ?_)
               rintro e w12 ⟨d, rfl, hd, hod, hb12⟩
               have HB12 : Hid (Below w4.heap.size w4 w12) := (Below.refl w4.heap.size w4).drew.trans hb12
               have HD12 := Lib.hid (mv_dep hd hod (by decide))
               obtain ⟨k0, k1, k2, k3, k4, k5, -⟩ := HSX.out _ HB12.out
               clear hd hod hb12)
            | (go_at_call 8
               (refine (CA.out w12 d HB12.out HD12.out).mono ?_)
               rintro e w13 ⟨hb13, na', nn', nc', ma', mn', mc', rfl, ho13⟩
               have hb14 : Below w4.heap.size w4 w13 := HB12.out.trans (hb13.mono HB12.out.size)
               have hbk := HL.out.blk.next hb14
               have HR17 := Lib.hid (HL.out.put hb14 ho13 HB12.out.size)
               have q0 := hbk.cell 0 _ rfl
               have q1 := hbk.cell 1 _ rfl
               have q2 := hbk.free 0 _ rfl
               have q3 := hbk.free 1 _ rfl
               clear hbk hb14 hb13 ho13))
          all_goals
            go_wp2_with fail
            go_meet
            case rel => exact ⟨_, _, _, _, _, _, rfl, HR17⟩
        case rest =>
        obtain ⟨na, nn, nc, ma, mn, mc, rfl, HL5⟩ := hcut
        clear CA HSX HL HTI HX3
        rename World => w5
        have HL := HL5
        have HX3 := Lib.hid HL5.out.bel
        have HTI : Hid (TrI w5 (valT na nn nc ma mn mc) late5) := by obtain ⟨B, h⟩ := HL5.out.tr; exact h.tri (by decide)
        clear HL5
        have CA : Hid (∀ W' d, Below w5.heap.size w5 W' → DepK W' (mvO 30 pC pB) d → Calls Tryd.prog 8 #[valT na nn nc ma mn mc, valOy (mvO 30 pC pB) d] W' (ApplyQ W' late6)) := fun W' d hb hd =>
          apply_to _ late5 (mvO 30 pC pB) d W' 5 (HTW.out W' (HX3.out.trans (hb.mono HX3.out.size))) (HTI.out.next hb) late_mv5 late_asc5 (by decide) hd (by decide) (by decide) late_pos6 rfl
        have HSX : Hid (∀ W', Below w5.heap.size w5 W' → (fun W' => W'.cell? ⟨g11, 0, none⟩ = some (.slice na nn nc) ∧ W'.cell? ⟨g11, 0 + 1, none⟩ = some (.slice ma mn mc) ∧ W'.cell? ⟨g10, 0, none⟩ = some (.int .i64 3) ∧ W'.cell? ⟨g10, 0 + 1, none⟩ = some (.int .i64 0) ∧ W'.cell? ⟨g9, 0, none⟩ = some (.int .i64 2) ∧ W'.cell? ⟨g9, 0 + 1, none⟩ = some (.int .i64 0) ∧ Hid (Below w5.heap.size w5 W')) W') := fun W' hb => by
          have h1 := HL.out.blk.next hb
          have h2 := PlAt.far HP.out.c (HX3.out.trans (hb.mono HX3.out.size)) HP.out.c.lt
          have h3 := PlAt.far HP.out.b (HX3.out.trans (hb.mono HX3.out.size)) HP.out.b.lt
          exact ⟨h1.cell 0 _ rfl, h1.cell 1 _ rfl, h2.1, h2.2, h3.1, h3.2, hb⟩
        go_wp2_with fail
        go_cut [14] from 48 to 71 (fun se wc => ∃ (na' : Option Addr) (nn' nc' : Nat) (ma' : Option Addr) (mn' mc' : Nat), se = .int .i64 0 ∧ Hid (LtB w3 wc g11 na' nn' nc' ma' mn' mc' late6))
        case first =>
          obtain ⟨k0, k1, k2, k3, k4, k5, -⟩ := HSX.out _ (Below.refl w5.heap.size w5).drew
          go_wp2_with fail
          go_region_with (first
            | (go_at_call 18
               (with_reducible refine (CV.out 30 3 0 2 0 _).mono ?_)
               rintro e w12 ⟨d, rfl, hd, hod, hb12⟩
               have HB12 : Hid (Below w5.heap.size w5 w12) := (Below.refl w5.heap.size w5).drew.trans hb12
               have HD12 := Lib.hid (mv_dep hd hod (by decide))
               obtain ⟨k0, k1, k2, k3, k4, k5, -⟩ := HSX.out _ HB12.out
               clear hd hod hb12)
            | (go_at_call 8
               (refine (CA.out w12 d HB12.out HD12.out).mono ?_)
               rintro e w13 ⟨hb13, na', nn', nc', ma', mn', mc', rfl, ho13⟩
               have hb14 : Below w5.heap.size w5 w13 := HB12.out.trans (hb13.mono HB12.out.size)
               have hbk := HL.out.blk.next hb14
               have HR17 := Lib.hid (HL.out.put hb14 ho13 HB12.out.size)
               have q0 := hbk.cell 0 _ rfl
               have q1 := hbk.cell 1 _ rfl
               have q2 := hbk.free 0 _ rfl
               have q3 := hbk.free 1 _ rfl
               clear hbk hb14 hb13 ho13))
          all_goals
            go_wp2_with fail
            go_meet
            case rel => exact ⟨_, _, _, _, _, _, rfl, HR17⟩
        case rest =>
        obtain ⟨na, nn, nc, ma, mn, mc, rfl, HL6⟩ := hcut
        clear CA HSX HL HTI HX3
        rename World => w6
        have HL := HL6
        have HX3 := Lib.hid HL6.out.bel
        have HTI : Hid (TrI w6 (valT na nn nc ma mn mc) late6) := by obtain ⟨B, h⟩ := HL6.out.tr; exact h.tri (by decide)
        clear HL6
        -- TAIL
        obtain ⟨B6, hT6⟩ := HL.out.tr
        obtain ⟨rfl, rfl, bN, oN, bM, oM, rfl, rfl, h6⟩ := late_is6 hT6
        have H6 := Lib.hid h6
        clear hT6 h6
        have t0 := HL.out.blk.cell 0 _ rfl
        have t1 := HL.out.blk.cell 1 _ rfl
        have t1' : w6.cell? ⟨g11, 0 + 1, none⟩ = _ := t1
        go_wp2_with (go_at_call 9
                     refine (HN.out _).mono ?_
                     rintro e w ⟨rfl, rfl⟩)
        obtain ⟨a0, a1, b0, b1, c0, c1, i4, i3⟩ := H6.out
        obtain ⟨p0, p1⟩ := PlAt.far HP.out.a HX3.out HP.out.a.lt
        obtain ⟨p2, p3⟩ := PlAt.far HP.out.b HX3.out HP.out.b.lt
        have n0 := fun w => St.st_neq 0 0 0 0 w
        have n1 := fun w => St.st_neq 1 0 1 0 w
        have n2 := fun w => St.st_neq 2 0 2 0 w
        simp only [BEq.rfl, Bool.and_self, Bool.not_true] at n0 n1 n2
        go_wp2_with fail
        go_quiet (fail)
        rename Nat => nq
        obtain ⟨w7, hw7⟩ : ∃ w7, w6.drewN nq = w7 := ⟨_, rfl⟩
        have HB7 : Hid (Below w6.heap.size w6 w7) := by show Below _ _ _; rw [← hw7]; exact below_drewN (Below.refl _ _) _
        rw [hw7]
        clear hw7 a0 a1 b0 b1 c0 c1 i4 i3 p0 p1 p2 p3 n0 n1 n2 t0 t1 t1' H6
        have HL7 := Lib.hid (HL.out.next HB7.out)
        have HX7 : Hid (Below w3.heap.size w3 w7) := HL7.out.bel
        have HT7 : Hid (TrI w7 (valT (some ⟨bN, oN, none⟩) 3 nc (some ⟨bM, oM, none⟩) 6 mc) late6) := HTI.out.next HB7.out
        clear HL HX3 HTI HB7
        have CA : Hid (∀ W' d, Below w7.heap.size w7 W' → DepK W' (mvO 5 pA pC) d → Calls Tryd.prog 8 #[valT (some ⟨bN, oN, none⟩) 3 nc (some ⟨bM, oM, none⟩) 6 mc, valOy (mvO 5 pA pC) d] W' (ApplyQ W' late7)) := fun W' d hb hd =>
          apply_to _ late6 (mvO 5 pA pC) d W' 3 (HTW.out W' (HX7.out.trans (hb.mono HX7.out.size))) (HT7.out.next hb) late_mv6 late_asc6 (by decide) hd (by decide) (by decide) late_pos7 rfl
        have HSX : Hid (∀ W', Below w7.heap.size w7 W' → (fun W' => W'.cell? ⟨g11, 0, none⟩ = some (.slice (some ⟨bN, oN, none⟩) 3 nc) ∧ W'.cell? ⟨g11, 0 + 1, none⟩ = some (.slice (some ⟨bM, oM, none⟩) 6 mc) ∧ W'.cell? ⟨g8, 0, none⟩ = some (.int .i64 1) ∧ W'.cell? ⟨g8, 0 + 1, none⟩ = some (.int .i64 0) ∧ W'.cell? ⟨g10, 0, none⟩ = some (.int .i64 3) ∧ W'.cell? ⟨g10, 0 + 1, none⟩ = some (.int .i64 0) ∧ Hid (Below w7.heap.size w7 W')) W') := fun W' hb => by
          have h1 := HL7.out.blk.next hb
          have h2 := PlAt.far HP.out.a (HX7.out.trans (hb.mono HX7.out.size)) HP.out.a.lt
          have h3 := PlAt.far HP.out.c (HX7.out.trans (hb.mono HX7.out.size)) HP.out.c.lt
          exact ⟨h1.cell 0 _ rfl, h1.cell 1 _ rfl, h2.1, h2.2, h3.1, h3.2, hb⟩
        go_wp2_with fail
        go_cut [15, 16] from 48 to 144 (fun sx se wc => ∃ (gx : Nat) (na' : Option Addr) (nn' nc' : Nat) (ma' : Option Addr) (mn' mc' : Nat), sx = .pointer (some ⟨gx, 0, none⟩) ∧ se = .int .i64 0 ∧ Hid (AR w7 wc gx na' nn' nc' ma' mn' mc' late7))
        case first =>
          have hS0 := HSX.out _ (Below.refl w7.heap.size w7).drew
          have hS1 := HSX.out _ (box_bel w7 zT).drew
          go_wp2_with fail
          go_region_held3 (fun W' => W'.cell? ⟨g11, 0, none⟩ = some (.slice (some ⟨bN, oN, none⟩) 3 nc) ∧ W'.cell? ⟨g11, 0 + 1, none⟩ = some (.slice (some ⟨bM, oM, none⟩) 6 mc) ∧ W'.cell? ⟨g8, 0, none⟩ = some (.int .i64 1) ∧ W'.cell? ⟨g8, 0 + 1, none⟩ = some (.int .i64 0) ∧ W'.cell? ⟨g10, 0, none⟩ = some (.int .i64 3) ∧ W'.cell? ⟨g10, 0 + 1, none⟩ = some (.int .i64 0) ∧ Hid (Below w7.heap.size w7 W')) (with_reducible assumption) (first
            | (go_at_call 18
               (first
                | (with_reducible refine (CV.out 5 1 0 3 0 w7.drew).mono ?_
                   rintro e w12 ⟨d, rfl, hd, hod, hb12⟩
                   have HB12 : Hid (Below w7.heap.size w7 w12) := (Below.refl w7.heap.size w7).drew.trans hb12
                   have HD12 := Lib.hid (mv_dep hd hod (by decide))
                   have hS12 := HSX.out _ HB12.out
                   have hS13 := HSX.out _ (HB12.out.trans ((box_bel w12 zT).mono HB12.out.size))
                   clear hd hod hb12)
                | (with_reducible refine (CV.out 5 1 0 3 0 (w7.alloc zT).drew).mono ?_
                   rintro e w12 ⟨d, rfl, hd, hod, hb12⟩
                   have HB12 : Hid (Below w7.heap.size w7 w12) := (box_bel w7 zT).drew.trans (hb12.mono (by show w7.heap.size ≤ (w7.alloc zT).heap.size; simp))
                   have HD12 := Lib.hid (mv_dep hd hod (by decide))
                   have HBX := Lib.hid (AR.box hb12)
                   have HLX : Hid (w7.heap.size < w12.heap.size) := HBX.out.lt
                   have hS12 := HSX.out _ HB12.out
                   clear hd hod hb12)))
            | (go_at_call 8
               (first
                | (have hbx := HBX.out
                   refine (CA.out w12 d HB12.out HD12.out).mono ?_
                   rintro e w13 ⟨hb13, na', nn', nc', ma', mn', mc', rfl, ho13⟩
                   have hb14 : Below w7.heap.size w7 w13 := HB12.out.trans (hb13.mono HB12.out.size)
                   have hbk := hbx.next hb13
                   have HR17 := Lib.hid (AR.set hb14 (Nat.le_refl _) hbk ho13 HLX.out)
                   have hS17 := HSX.out _ hb14
                   have hS19 := HSX.out _ HR17.out.bel
                   have q0 := hbk.cell 0 _ rfl
                   have q1 := hbk.cell 1 _ rfl
                   have q2 := hbk.free 0 _ rfl
                   have q3 := hbk.free 1 _ rfl
                   clear hbk hb14 hb13 ho13 hbx)
                | (refine (CA.out w12 d HB12.out HD12.out).mono ?_
                   rintro e w13 ⟨hb13, na', nn', nc', ma', mn', mc', rfl, ho13⟩
                   have hb14 : Below w7.heap.size w7 w13 := HB12.out.trans (hb13.mono HB12.out.size)
                   have HR17 := Lib.hid (AR.new hb14 ho13 HB12.out.size)
                   have hS17 := HSX.out _ hb14
                   have hS18 := HSX.out _ (hb14.trans ((box_bel w13 zT).mono hb14.size))
                   have hS19 := HSX.out _ HR17.out.bel
                   clear hb13 ho13 hb14)
                | (refine (CA.out (w12.alloc zT) d (HB12.out.trans ((box_bel w12 zT).mono HB12.out.size)) (HD12.out.below (box_bel w12 zT))).mono ?_
                   rintro e w13 ⟨hb13, na', nn', nc', ma', mn', mc', rfl, ho13⟩
                   have hb12a := HB12.out.trans ((box_bel w12 zT).mono HB12.out.size)
                   have hb14 : Below w7.heap.size w7 w13 := hb12a.trans (hb13.mono hb12a.size)
                   have hbk := (objT_new w12 none 0 0 none 0 0).next hb13
                   have HR17 := Lib.hid (AR.set hb14 HB12.out.size hbk ho13 (by simp))
                   have hS17 := HSX.out _ hb14
                   have hS19 := HSX.out _ HR17.out.bel
                   have q0 := hbk.cell 0 _ rfl
                   have q1 := hbk.cell 1 _ rfl
                   have q2 := hbk.free 0 _ rfl
                   have q3 := hbk.free 1 _ rfl
                   clear hbk hb12a hb14 hb13 ho13))))
          all_goals
            go_wp2_with fail
            go_meet
            case rel => exact ⟨_, _, _, _, _, _, _, rfl, rfl, HR17⟩
        case rest =>
        obtain ⟨g15, na, nn, nc, ma, mn, mc, rfl, rfl, HA⟩ := hcut
        rename World => w8
        obtain ⟨rfl, rfl, bN, oN, bM, oM, rfl, rfl, h7⟩ := late_is7 HA.out.tr
        have H7 := Lib.hid h7
        have HX8 : Hid (Below w3.heap.size w3 w8) := HX7.out.trans (HA.out.bel.mono HX7.out.size)
        have HW8 : Hid (Below W.heap.size W w8) := HW3.out.trans (HX8.out.mono HW3.out.size)
        have e0 := HA.out.blk.cell 0 _ rfl
        have e1 := HA.out.blk.cell 1 _ rfl
        clear h7 CA HSX
        obtain ⟨a0, a1, b0, b1, c0, c1, i6⟩ := H7.out
        obtain ⟨p0, p1⟩ := PlAt.far HP.out.a HX8.out HP.out.a.lt
        obtain ⟨r0, r1⟩ := PlAt.far HP.out.c HX8.out HP.out.c.lt
        have sc := HSC.out w8 HX8.out
        have k9 : St.RegrownTo w8 9 #[.int .i64 0] (.int .i64 0) := St.regrown_same fun W => num16_any 0 W
        have k11 : St.RegrownTo w8 11 #[] (.bool true) := regrown_at fun W' hb => wakes16_any W' (HTW.out W' (HX8.out.trans (hb.mono HX8.out.size)))
        have z0 := cell_regrown e0
        have z1 := cell_regrown e1
        have z2 := cell_regrown a0
        have z3 := cell_regrown a1
        have z4 := cell_regrown b0
        have z5 := cell_regrown b1
        have z6 := cell_regrown c0
        have z7 := cell_regrown c1
        have z8 := cell_regrown i6
        have z9 := cell_regrown p0
        have z10 := cell_regrown p1
        have z11 := cell_regrown r0
        have z12 := cell_regrown r1
        have z13 := cell_regrown sc
        have n0 := fun w => St.st_eql 0 0 0 0 w
        have n1 := fun w => St.st_eql 1 0 1 0 w
        have n3 := fun w => St.st_eql 3 0 3 0 w
        simp only [BEq.rfl, Bool.and_self] at n0 n1 n3
        have hlz : (0 : Int) ≤ (ln : Int) := by omega
        have hlz2 : decide ((0 : Int) ≤ (ln : Int)) = true := decide_eq_true hlz
        clear e0 e1 a0 a1 b0 b1 c0 c1 i6 p0 p1 r0 r1 sc
        go_wp2_with fail
        refine wp_region_quiet_below (by assumption) (by kernel_rfl) ?_
        repeat (go_big_quiet_step (first | (go_at_call 9; with_reducible exact k9 _ _) | (go_at_call 11; with_reducible exact k11 _ _)))
        refine wpQuiet_nil ?_
        intro _ hw'
        obtain ⟨⟨dq, osq⟩, hw''⟩ := hw'
        subst hw''
        have HWE : Hid (Below W.heap.size W (Go.Sort.grow (redrawn w8 dq) osq)) := HW8.out.trans ((below_regrown w8 dq osq).mono HW8.out.size)
        clear k9 k11 z0 z1 z2 z3 z4 z5 z6 z7 z8 z9 z10 z11 z12 z13
        go_wp2
        go_ret
        exact ⟨rfl, HWE.out⟩
end Go.Proofs.YtjlbpmmckgjajaaDoor
