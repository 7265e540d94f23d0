/- Joined: TX16. -/
import Derived.Test.YtjlbpmmckgjajaaDoorYX
import Derived.Test.YtjlbpmmckgjajaaDoorXA
import Derived.Lib.QuietBelow

/- TreeRounds' walk. -/
namespace Go.Proofs.YtjlbpmmckgjajaaDoor
open Go.RowKit Go.Lib Go.Maps
set_option linter.unusedVariables false

set_option maxHeartbeats 16000000 in
set_option maxRecDepth 100000 in
theorem treeRounds_walk (na0 : Option Addr) (ns0 : List ND) (nn0 nc0 : Nat) (ma0 : Option Addr) (ys0 : List EV) (mn0 mc0 : Nat) (la : Option Addr) (ls : List OV) (ln lc : Nat) (ia : Option Addr) (is : List Pl) (im ic : Nat) (W : World) (ht : Pr.Tab W) (h : ScT W na0 ns0 nn0 nc0 ma0 ys0 mn0 mc0 la ls ln lc ia is im ic) :
    Calls Tryd.prog 4 #[valSc na0 nn0 nc0 ma0 mn0 mc0 la ln lc ia im ic] W (BoolPost W true) := by
  have mixed : Tryd.prog.follows .mixedOrders = true := by kernel_rfl
  have HT := Lib.hid ht
  have HN := Lib.hid (fun n w => num16_any n w)
  obtain ⟨W1, hW1⟩ : ∃ W1, W.alloc (.cells #[.slice na0 nn0 nc0, .slice ma0 mn0 mc0, .slice la ln lc, .slice ia im ic] 29) = W1 := ⟨_, rfl⟩
  have HB1 : Hid (Below W.heap.size W W1) := by show Below _ _ _; rw [← hW1]; exact box_bel W _
  have HS1 : Hid (Blk W1 W.heap.size [.slice na0 nn0 nc0, .slice ma0 mn0 mc0, .slice la ln lc, .slice ia im ic]) := by show Blk _ _ _; rw [← hW1]; exact objS_cell W na0 nn0 nc0 ma0 mn0 mc0 la ln lc ia im ic
  have HSC := Lib.hid (h.next HB1.out)
  have CHV := Lib.hid (heavyT_any HSC.out)
  have s0 := HS1.out.cell 0 _ rfl
  have s1 := HS1.out.cell 1 _ rfl
  have s2 := HS1.out.cell 2 _ rfl
  have s3 := HS1.out.cell 3 _ rfl
  clear ht h
  go_enter Tryd.func4, Tryd.ntmps4
  go_wp2_with fail
  clear hW1
  refine (CHV.out).mono ?_
  rintro e w1 ⟨hv, rfl, hb1⟩
  have HBW1 : Hid (Below W.heap.size W w1) := HB1.out.trans (hb1.mono HB1.out.size)
  have HS2 := Lib.hid (HS1.out.next hb1)
  have HSC2 := Lib.hid (HSC.out.next hb1)
  clear hb1 CHV HSC HS1 s0 s1 s2 s3
  cases hv
  case true =>
    go_wp2
    go_ret
    exact ⟨rfl, HBW1.out⟩
  case false =>
    have CM : Hid (Calls Tryd.prog 7 #[.slice la ln lc, .int .i64 12] w1 (MovesPost w1 12)) := moves_any la ls ln lc 12 (by decide) w1 HSC2.out.lr HSC2.out.ld HSC2.out.ll (by have := HSC2.out.lm; omega)
    have HIM : Hid (im ≤ 8796093022208) := by show _ ≤ _; have h1 := HSC2.out.im_; have h2 := HSC2.out.il; omega
    have s2 := HS2.out.cell 2 _ rfl
    clear HSC2
    go_wp2_with fail
    refine (CM.out).mono ?_
    rintro e w2 ⟨v, zs, rfl, hv, ham, hasc, hlen, hb2⟩
    obtain ⟨ll, n, lc2, rfl, hn, hc2, hr, hd⟩ := hv.form
    obtain ⟨L, hL⟩ : ∃ L, zs.map (·.1) = L := ⟨_, rfl⟩
    have HMV : Hid (MvR w2 ll zs L n) := by rw [hL] at ham hasc; exact ⟨hr, hd, hL, hn.symm, ham, hasc⟩
    have HNM : Hid (n ≤ 12) := by show _ ≤ _; rw [hn]; exact hlen
    have HBW : Hid (Below W.heap.size W w2) := HBW1.out.trans (hb2.mono HBW1.out.size)
    have HS3 : Hid (w2.cell? ⟨W.heap.size, 3, none⟩ = some (.slice ia im ic)) := (HS2.out.next hb2).cell 3 _ rfl
    clear hv ham hasc hlen hb2 hn hc2 hr hd hL CM HS2 s2 HB1 HBW1
    go_wp2_with fail
    obtain ⟨w3, hw3⟩ : ∃ w3, w2.alloc zT = w3 := ⟨_, rfl⟩
    obtain ⟨g, hg⟩ : ∃ g, w2.heap.size = g := ⟨_, rfl⟩
    have HG := Lib.hid hg
    have HI0 : Hid (LtI w2 w3 g none 0 0 none 0 0 []) := by
      show LtI _ _ _ _ _ _ _ _ _ _
      rw [← hw3, ← hg]
      exact ⟨box_bel w2 _, objT_new w2 none 0 0 none 0 0, TrO.nil _ _⟩
    have HTB : Hid (∀ W', Below g w2 W' → Pr.Tab W') := fun W' hb => HT.out.below (HBW.out.trans (hb.mono (by rw [← HG.out]; exact HBW.out.size))) HT.out.lt
    have HSG : Hid (∀ W', Below g w2 W' → W'.cell? ⟨W.heap.size, 3, none⟩ = some (.slice ia im ic)) := fun W' hb => (hb.cell (p := ⟨W.heap.size, 3, none⟩) (by rw [← HG.out]; exact World.block_lt_of_cell? _ _ HS3.out)).trans HS3.out
    rw [hw3, hg]
    clear hw3 hg HS3
    go_loopg [5] n (fun gg s5 wr => ∃ (k : Nat) (a : TV) (C : List OpD), s5 = .int .i64 k ∧ k ≤ n ∧ n - k ≤ gg ∧ Hid (LtI w2 wr g a.na a.nn a.nc a.ma a.mn a.mc C) ∧ Hid (SubM L C))
    case atStart => exact ⟨0, ⟨none, 0, 0, none, 0, 0⟩, [], rfl, Nat.zero_le _, by omega, HI0, SubM.nil _⟩
    case round =>
      obtain ⟨k, a, C, rfl, hk, hgk, HI, HSU⟩ := hrel
      clear HI0
      have hn12 : n ≤ 12 := HNM.out
      by_cases hin : k < n
      · have hinz : (k : Int) < (n : Int) := by omega
        obtain ⟨k7, hk7⟩ : ∃ k7, k * 5 = k7 := ⟨_, rfl⟩
        obtain ⟨km, hkm⟩ : ∃ km, k7 + im = km := ⟨_, rfl⟩
        obtain ⟨k0, hk0⟩ : ∃ k0, km % n = k0 := ⟨_, rfl⟩
        have hk0n : k0 < n := by rw [← hk0]; exact Nat.mod_lt _ (by omega)
        have hk0z : (k0 : Int) < (n : Int) := by omega
        have hv1 : IntKind.i64.wrap ((k : Int) * 5) = (k7 : Int) := (wrap_isT _).trans (by rw [IntWalk.wrap64_in _ (by omega)]; omega)
        have hv2 : IntKind.i64.wrap ((k7 : Int) + (im : Int)) = (km : Int) := (wrap_isT _).trans (by rw [IntWalk.wrap64_in _ (by have := HIM.out; omega)]; omega)
        have hn0 : ¬ n = 0 := by omega
        have hk00 : (0 : Int) ≤ (k0 : Int) := Int.natCast_nonneg k0
        have hm1 : (km : Int) % (n : Int) = (k0 : Int) := by rw [← hk0]; first | exact (Int.natCast_emod km n).symm | exact (Int.ofNat_emod km n).symm | exact (Int.natCast_mod km n).symm
        have hm2 : (km : Int).tmod (n : Int) = (k0 : Int) := (Int.tmod_eq_emod_of_nonneg (Int.natCast_nonneg km)).trans hm1
        have hnz : ((n : Int) == 0) = false := by simp; omega
        have hnz2 : ¬ (n : Int) = 0 := by omega
        obtain ⟨z, bo, off, hz, hLz, rfl⟩ := HMV.out.at hk0n
        have HKE : Hid (∀ W', Below wr.heap.size wr W' → W'.cell? ⟨g, 0, none⟩ = some (.slice a.na a.nn a.nc) ∧ W'.cell? ⟨g, 0 + 1, none⟩ = some (.slice a.ma a.mn a.mc)) := fun W' hb => ⟨(HI.out.next hb).bk.cell 0 _ rfl, (HI.out.next hb).bk.cell 1 _ rfl⟩
        have HCZ : Hid (∀ W', Below wr.heap.size wr W' → CellsAt W' bo (off + k0 * 12) z.enc) := fun W' hb => HMV.out.cells hz HG.out (HI.out.next hb).bl
        have HSI : Hid (∀ W', Below wr.heap.size wr W' → W'.cell? ⟨W.heap.size, 3, none⟩ = some (.slice ia im ic)) := fun W' hb => HSG.out W' (HI.out.next hb).bl
        have CA : Hid (∀ W', Below wr.heap.size wr W' → Calls Tryd.prog 8 #[valT a.na a.nn a.nc a.ma a.mn a.mc, valOy z.1 z.2] W' (ApplyU W' L C)) := fun W' hb =>
          have h' := HI.out.next hb
          apply_u _ L C z.1 z.2 W' (HTB.out W' h'.bl) (h'.tr.tri (by have := HSU.out.len HMV.out.asc; have := HMV.out.llen; have := HNM.out; omega)) HSU.out HMV.out.asc (HMV.out.am z.1 (List.mem_of_getElem? hLz)) (List.mem_of_getElem? hLz) (HMV.out.depk hz HG.out h'.bl) (by have := HMV.out.llen; have := HNM.out; omega)
        clear hk7 hkm hk0
        go_wp2_with fail
        go_cut [6, 7] from 22 to 157 (fun sx se wz => ∃ (gx : Nat) (na' : Option Addr) (nn' nc' : Nat) (ma' : Option Addr) (mn' mc' : Nat) (z : Int) (C' : List OpD), sx = .pointer (some ⟨gx, 0, none⟩) ∧ se = .int .i64 z ∧ Hid (AR wr wz gx na' nn' nc' ma' mn' mc' C') ∧ Hid ((z = 0 ∧ SubM L C') ∨ (z = 4 ∧ C' = [])))
        case first =>
          have HSX : Hid (∀ W', Below wr.heap.size wr W' → (fun W' => W'.cell? ⟨g, 0, none⟩ = some (.slice a.na a.nn a.nc) ∧ W'.cell? ⟨g, 0 + 1, none⟩ = some (.slice a.ma a.mn a.mc) ∧ W'.cell? ⟨W.heap.size, 3, none⟩ = some (.slice ia im ic) ∧ W'.cell? ⟨bo, off + k0 * 12, none⟩ = some (.int .i64 z.1.1.t) ∧ W'.cell? ⟨bo, off + k0 * 12 + 1, none⟩ = some (.int .i64 z.1.1.r) ∧ W'.cell? ⟨bo, off + k0 * 12 + 2, none⟩ = some (.int .i64 z.1.2) ∧ W'.cell? ⟨bo, off + k0 * 12 + 3, none⟩ = some (.slice z.2.a z.2.n z.2.c) ∧ W'.cell? ⟨bo, off + k0 * 12 + 4, none⟩ = some (.int .i64 z.1.1.k) ∧ W'.cell? ⟨bo, off + k0 * 12 + 5, none⟩ = some (.int .i64 z.1.1.nt) ∧ W'.cell? ⟨bo, off + k0 * 12 + 6, none⟩ = some (.int .i64 z.1.1.nr) ∧ W'.cell? ⟨bo, off + k0 * 12 + 7, none⟩ = some (.int .i64 z.1.1.pt) ∧ W'.cell? ⟨bo, off + k0 * 12 + 8, none⟩ = some (.int .i64 z.1.1.pr) ∧ W'.cell? ⟨bo, off + k0 * 12 + 9, none⟩ = some (.string z.1.1.s) ∧ W'.cell? ⟨bo, off + k0 * 12 + 10, none⟩ = some (.int .i64 z.1.1.p) ∧ W'.cell? ⟨bo, off + k0 * 12 + 11, none⟩ = some (.int .i64 z.1.1.v) ∧ Hid (Below wr.heap.size wr W')) W') := fun W' hb => by
            obtain ⟨p0, p1⟩ := HKE.out W' hb
            have hc := HCZ.out W' hb
            exact ⟨p0, p1, HSI.out W' hb, hc 0 _ rfl, hc 1 _ rfl, hc 2 _ rfl, hc 3 _ rfl, hc 4 _ rfl, hc 5 _ rfl, hc 6 _ rfl, hc 7 _ rfl, hc 8 _ rfl, hc 9 _ rfl, hc 10 _ rfl, hc 11 _ rfl, hb⟩
          have hS0 := HSX.out _ (Below.refl wr.heap.size wr).drew
          have hS1 := HSX.out _ (box_bel wr zT).drew
          go_wp2_with fail
          go_region_held3 (fun W' => W'.cell? ⟨g, 0, none⟩ = some (.slice a.na a.nn a.nc) ∧ W'.cell? ⟨g, 0 + 1, none⟩ = some (.slice a.ma a.mn a.mc) ∧ W'.cell? ⟨W.heap.size, 3, none⟩ = some (.slice ia im ic) ∧ W'.cell? ⟨bo, off + k0 * 12, none⟩ = some (.int .i64 z.1.1.t) ∧ W'.cell? ⟨bo, off + k0 * 12 + 1, none⟩ = some (.int .i64 z.1.1.r) ∧ W'.cell? ⟨bo, off + k0 * 12 + 2, none⟩ = some (.int .i64 z.1.2) ∧ W'.cell? ⟨bo, off + k0 * 12 + 3, none⟩ = some (.slice z.2.a z.2.n z.2.c) ∧ W'.cell? ⟨bo, off + k0 * 12 + 4, none⟩ = some (.int .i64 z.1.1.k) ∧ W'.cell? ⟨bo, off + k0 * 12 + 5, none⟩ = some (.int .i64 z.1.1.nt) ∧ W'.cell? ⟨bo, off + k0 * 12 + 6, none⟩ = some (.int .i64 z.1.1.nr) ∧ W'.cell? ⟨bo, off + k0 * 12 + 7, none⟩ = some (.int .i64 z.1.1.pt) ∧ W'.cell? ⟨bo, off + k0 * 12 + 8, none⟩ = some (.int .i64 z.1.1.pr) ∧ W'.cell? ⟨bo, off + k0 * 12 + 9, none⟩ = some (.string z.1.1.s) ∧ W'.cell? ⟨bo, off + k0 * 12 + 10, none⟩ = some (.int .i64 z.1.1.p) ∧ W'.cell? ⟨bo, off + k0 * 12 + 11, none⟩ = some (.int .i64 z.1.1.v) ∧ Hid (Below wr.heap.size wr W')) (with_reducible assumption) (
            (go_at_call 8
             (first
              | (with_reducible refine (CA.out _ (Below.refl wr.heap.size wr).drew).mono ?_
                 rintro e w17 ⟨hb17, na', nn', nc', ma', mn', mc', z17, C', rfl, ho17, hz17⟩
                 have HZ17 := Lib.hid hz17
                 clear hz17
                 have HR17 := Lib.hid (AR.two hb17 ho17)
                 have hb18 := (Below.refl wr.heap.size wr).drew.trans hb17
                 have hS17 := HSX.out w17 hb18
                 have hS18 := HSX.out _ (hb18.trans ((box_bel w17 zT).mono hb18.size))
                 have hS19 := HSX.out _ HR17.out.bel
                 clear hb17 ho17 hb18)
              | (with_reducible refine (CA.out _ (box_bel wr zT).drew).mono ?_
                 rintro e w17 ⟨hb17, na', nn', nc', ma', mn', mc', z17, C', rfl, ho17, hz17⟩
                 have HZ17 := Lib.hid hz17
                 clear hz17
                 have HR17 := Lib.hid (AR.one hb17 ho17)
                 have hbk := AR.box hb17
                 have hS17 := HSX.out w17 ((box_bel wr zT).drew.trans (hb17.mono (by show wr.heap.size ≤ (wr.alloc zT).heap.size; simp)))
                 have hS19 := HSX.out _ HR17.out.bel
                 have q0 := hbk.cell 0 _ rfl
                 have q1 := hbk.cell 1 _ rfl
                 have q2 := hbk.free 0 _ rfl
                 have q3 := hbk.free 1 _ rfl
                 clear hbk hb17 ho17))))
          all_goals
            go_wp2_with fail
            go_meet
            case rel => exact ⟨_, _, _, _, _, _, _, _, _, rfl, rfl, HR17, HZ17⟩
        case rest =>
        obtain ⟨g6, na6, nn6, nc6, ma6, mn6, mc6, z6, C6, rfl, rfl, HA6, HZ6⟩ := hcut
        rename World => wd
        clear CA HCZ HKE HSI hz hLz z hv1 hv2 hm1 hm2 hnz hnz2 hn0 hk0n hk0z hk00
        have HI1 := Lib.hid (HI.out.next HA6.out.bel)
        have HK6 := Lib.hid HA6.out.blk
        have HT6 : Hid (TrO wd (g + 1) na6 nn6 nc6 ma6 mn6 mc6 C6) := HA6.out.tr.mono HI.out.bk.lt
        clear HA6 HI
        go_upto_if 47 with (go_at_call 9; refine (HN.out _ _).mono ?_; rintro e w ⟨rfl, rfl⟩)
        go_cut [6] from 22 to 157 (fun s6 we => ∃ (b : TV) (D : List OpD), s6 = .pointer (some ⟨g6, 0, none⟩) ∧ Hid (LtI w2 we g b.na b.nn b.nc b.ma b.mn b.mc D) ∧ Hid (SubM L D))
        case first =>
          have k0 := HK6.out.cell 0 _ rfl
          have k1 := HK6.out.cell 1 _ rfl
          have c0 := HI1.out.bk.cell 0 _ rfl
          have c1 := HI1.out.bk.cell 1 _ rfl
          have f0 := HI1.out.bk.free 0 _ rfl
          have f1 := HI1.out.bk.free 1 _ rfl
          have HP := Lib.hid (HI1.out.put HT6.out)
          rcases HZ6.out with ⟨rfl, hs⟩ | ⟨rfl, rfl⟩
          · have HS := Lib.hid hs
            clear hs HZ6
            go_wp2_with fail
            go_meet
            case rel => exact ⟨⟨na6, nn6, nc6, ma6, mn6, mc6⟩, C6, rfl, HP.out, HS.out⟩
          · clear HZ6 HP
            go_wp2_with fail
            go_meet
            case rel => exact ⟨a, C, rfl, HI1.out, HSU.out⟩
        case rest =>
        obtain ⟨⟨na, nn, nc, ma, mn, mc⟩, D, rfl, HI2', HSU2⟩ := hcut
        rename World => we
        have HI2 : Hid (LtI w2 we g na nn nc ma mn mc D) := HI2'
        clear HI2' HI1 HSU HK6 HT6 HZ6
        have HF := Lib.hid HI2.out.tr.form
        have HNL : Hid (nn ≤ 12) := by
          show _ ≤ _
          have h1 := HF.out.1
          have h2 := nodes_len D
          have h3 := HSU2.out.len HMV.out.asc
          have h4 := HMV.out.llen
          omega
        go_wp2_with fail
        go_loopg [8] nn (fun g1 s8 wr => ∃ k1 : Nat, s8 = .int .i64 k1 ∧ k1 ≤ nn ∧ nn - k1 ≤ g1 ∧ Hid (Below we.heap.size we wr))
        case atStart => exact ⟨0, rfl, Nat.zero_le _, by omega, Below.refl _ _⟩
        case round =>
          obtain ⟨k1, rfl, hk1, hgk1, HBI⟩ := hrel
          have HI3 := Lib.hid (HI2.out.next HBI.out)
          have c0 := HI3.out.bk.cell 0 _ rfl
          have c1 := HI3.out.bk.cell 1 _ rfl
          have hnl := HNL.out
          by_cases hi1 : k1 < nn
          · have hi1z : (k1 : Int) < (nn : Int) := by omega
            obtain ⟨x, hx⟩ : ∃ x, (nodesG D)[k1]? = some x := ⟨_, List.getElem?_eq_getElem (by rw [← HF.out.1]; exact hi1)⟩
            obtain ⟨bN, oN, rfl, hat0⟩ := HF.out.2.2.1 k1 x hx
            have hat : FAt ND.enc wr bN (oN + k1 * 5) x := hat0.below HBI.out (FAt.lt flatN hat0)
            have HX := Lib.hid hx
            have e0 : wr.cell? ⟨bN, oN + k1 * 5, none⟩ = some (.int .i64 x.id.1) := hat 0 _ rfl
            have e1 : wr.cell? ⟨bN, oN + k1 * 5 + 1, none⟩ = some (.int .i64 x.id.2) := hat 1 _ rfl
            have e2 : wr.cell? ⟨bN, oN + k1 * 5 + 2, none⟩ = some (.int .i64 x.par.1) := hat 2 _ rfl
            have e3 : wr.cell? ⟨bN, oN + k1 * 5 + 3, none⟩ = some (.int .i64 x.par.2) := hat 3 _ rfl
            have e4 : wr.cell? ⟨bN, oN + k1 * 5 + 4, none⟩ = some (.string x.key) := hat 4 _ rfl
            clear hx hat0 hat
            go_upto_region 15 with fail
            clear e0 e1 e2 e3 e4 c0 c1
            obtain ⟨w5, hw5⟩ : ∃ w5, wr.alloc (objN x) = w5 := ⟨_, rfl⟩
            have HB5 : Hid (Below we.heap.size we w5) := by show Below _ _ _; rw [← hw5]; exact HBI.out.trans ((box_bel wr _).mono HBI.out.size)
            have HQ5 : Hid (Blk w5 wr.heap.size x.enc) := by show Blk _ _ _; rw [← hw5]; exact objN_new wr x
            rw [hw5]
            clear hw5
            obtain ⟨q, hq⟩ : ∃ q, wr.heap.size = q := ⟨_, rfl⟩
            rw [hq] at HQ5 ⊢
            clear hq
            have HI5 := Lib.hid (HI2.out.next HB5.out)
            have HFX : Hid (findN (nodesG D) x.id = some x) := asc_find (nodesG_asc D) (List.mem_of_getElem? HX.out)
            have HWF := Lib.hid (nodes_wf HSU2.out.am (List.mem_of_getElem? HX.out))
            have HDL : Hid (D.length ≤ 12) := by show _ ≤ _; have h3 := HSU2.out.len HMV.out.asc; have h4 := HMV.out.llen; omega
            have HTR : Hid (∀ W', Below w5.heap.size w5 W' → TrI W' (valT (some ⟨bN, oN, none⟩) nn nc ma mn mc) D ∧ Pr.Tab W') := fun W' hb =>
              have h' := HI5.out.next hb
              ⟨h'.tr.tri (by have := HDL.out; omega), HTB.out W' h'.bl⟩
            have CB := Lib.hid (above_some (valT (some ⟨bN, oN, none⟩) nn nc ma mn mc) D x.id.1 x.id.2 w5 (HTR.out w5 (Below.refl _ _)).2 (HTR.out w5 (Below.refl _ _)).1 HSU2.out.am HSU2.out.asc (by have := HDL.out; omega) HFX.out HWF.out.1)
            have c0 := HI5.out.bk.cell 0 _ rfl
            have c1 := HI5.out.bk.cell 1 _ rfl
            have p0 := HQ5.out.cell 0 _ rfl
            have p1 := HQ5.out.cell 1 _ rfl
            go_wp2_with fail
            refine (CB.out).mono ?_
            rintro e w6 ⟨ua, un, uc, rfl, hun, hur, hb6⟩
            have HUN := Lib.hid hun
            have HUR := Lib.hid hur
            have HB6 := Lib.hid hb6
            have HI6 := Lib.hid (HI5.out.next hb6)
            have HQ6 := Lib.hid (HQ5.out.next hb6)
            clear hun hur hb6 CB c0 c1 p0 p1
            have CK := Lib.hid (kids_some (valT (some ⟨bN, oN, none⟩) nn nc ma mn mc) D x.par.1 x.par.2 w6 (HTR.out w6 HB6.out).2 (HTR.out w6 HB6.out).1 HSU2.out.am HSU2.out.asc (by have := HDL.out; omega))
            have c0 := HI6.out.bk.cell 0 _ rfl
            have c1 := HI6.out.bk.cell 1 _ rfl
            have p2 := HQ6.out.cell 2 _ rfl
            have p3 := HQ6.out.cell 3 _ rfl
            go_wp2_with fail
            refine (CK.out).mono ?_
            rintro e w7 ⟨ka, kn, kc, rfl, hkn, hkr, hb7⟩
            have HKN := Lib.hid hkn
            have HKR := Lib.hid hkr
            have HB7 : Hid (Below w5.heap.size w5 w7) := HB6.out.trans (hb7.mono HB6.out.size)
            have HUR7 : Hid (RowF 2 encP w7 ua (upA (nodesG D) x.id)) := HUR.out.next flatP hb7
            have HI7 := Lib.hid (HI6.out.next hb7)
            have HQ7 := Lib.hid (HQ6.out.next hb7)
            clear hkn hkr hb7 CK c0 c1 p2 p3 HUR HI6 HQ6
            have HUN2 : Hid (un = (upA (nodesG D) x.id).length) := HUN.out
            have HUF : Hid ((upA (nodesG D) x.id)[0]? = some x.par) := up_first HSU2.out.am HFX.out
            obtain ⟨bu, ou, rfl, hau⟩ := HUR7.out 0 _ HUF.out
            have HUP : Hid (1 ≤ un ∧ un ≤ nn) := by
              have h1 := (List.getElem?_eq_some_iff.1 HUF.out).1
              have h2 := upL_len (nodesG D) (nodesG D).length x.id
              have h3 := HUN2.out
              have h4 := HF.out.1
              exact ⟨by omega, by show un ≤ nn; rw [h3, h4]; exact h2⟩
            have HNS : Hid (inSt (upA (nodesG D) x.id) (x.id.1, x.id.2) = -1) := inSt_no (up_not_self (acyc_made D acyc_nil) HFX.out)
            obtain ⟨kz, hkz⟩ : ∃ kz, inSt (kidsG D (x.par.1, x.par.2)) (x.id.1, x.id.2) = kz := ⟨_, rfl⟩
            have HKZ0 : Hid (0 ≤ kz) := by show _ ≤ _; rw [← hkz]; exact inSt_yes (kids_mem (List.mem_of_getElem? HX.out))
            have HKZ := Lib.hid hkz
            have HKL : Hid (kn ≤ 12) := by show _ ≤ _; have h1 := HKN.out; have h2 := kids_len D (x.par.1, x.par.2); have h3 := HDL.out; omega
            have k9 : St.RegrownTo w7 9 #[.int .i64 0] (.int .i64 0) := St.regrown_same fun W => num16_any 0 W
            have k12 : St.RegrownTo w7 14 #[.slice (some ⟨bu, ou, none⟩) un uc, .agg #[.int .i64 x.id.1, .int .i64 x.id.2]] (.int .i64 (-1)) := regrown_at fun W' hb => by
              have h := inStamps_any (some ⟨bu, ou, none⟩) (upA (nodesG D) x.id) un uc x.id.1 x.id.2 W' (HUR7.out.next flatP hb) HUN2.out (by have h1 := HUN2.out; have h2 := HUP.out.2; have h3 := HNL.out; omega)
              rw [HNS.out] at h
              exact h
            have k13 : St.RegrownTo w7 14 #[.slice ka kn kc, .agg #[.int .i64 x.id.1, .int .i64 x.id.2]] (.int .i64 kz) := regrown_at fun W' hb => by
              have h := inStamps_any ka _ kn kc x.id.1 x.id.2 W' (HKR.out.next flatP hb) HKN.out (by have h1 := HKN.out; have h3 := HKL.out; omega)
              rw [HKZ.out] at h
              exact h
            clear hkz
            have z0 := cell_regrown (HI7.out.bk.cell 0 _ rfl)
            have z1 := cell_regrown (HQ7.out.cell 0 _ rfl)
            have z2 := cell_regrown (HQ7.out.cell 1 _ rfl)
            have z3 := cell_regrown (HQ7.out.cell 2 _ rfl)
            have z4 := cell_regrown (HQ7.out.cell 3 _ rfl)
            have hau0 : w7.cell? ⟨bu, ou, none⟩ = some (.int .i64 x.par.1) := by have h := hau 0 _ rfl; simpa using h
            have hau1 : w7.cell? ⟨bu, ou + 1, none⟩ = some (.int .i64 x.par.2) := by have h := hau 1 _ rfl; simpa using h
            have z5 := cell_regrown hau0
            have z6' := cell_regrown hau1
            have n1 := fun w => St.st_neq x.par.1 x.par.2 x.par.1 x.par.2 w
            simp only [BEq.rfl, Bool.and_self, Bool.not_true] at n1
            have hu0 : ((un : Int) == 0) = false := by have := HUP.out.1; simp; omega
            have hu0' : ¬ un = 0 := by have := HUP.out.1; omega
            have hu1 : decide ((nn : Int) < (un : Int)) = false := decide_eq_false (by have := HUP.out.2; omega)
            have hu1' : ¬ nn < un := by have := HUP.out.2; omega
            have hu2 : 0 < un := HUP.out.1
            have hu2z : (0 : Int) < (un : Int) := by omega
            have hk2 : decide (kz < 0) = false := decide_eq_false (by have := HKZ0.out; omega)
            have hk2' : ¬ kz < 0 := by have := HKZ0.out; omega
            clear hau hau0 hau1
            go_wp2_with fail
            refine wp_region_quiet_below (by assumption) (by kernel_rfl) ?_
            repeat (go_big_quiet_step (first | (go_at_call 9; with_reducible exact k9 _ _) | (go_at_call 14; first | (with_reducible exact k12 _ _) | (with_reducible exact k13 _ _))))
            refine wpQuiet_nil ?_
            intro _ hw'
            obtain ⟨⟨dq, osq⟩, hw''⟩ := hw'
            subst hw''
            have HB8 : Hid (Below w5.heap.size w5 (Go.Sort.grow (redrawn w7 dq) osq)) := HB7.out.trans ((below_regrown w7 dq osq).mono HB7.out.size)
            have HB78 := Lib.hid (below_regrown w7 dq osq)
            clear k9 k12 k13 z0 z1 z2 z3 z4 z5 z6' n1 hu0 hu0' hu1 hu1' hu2 hu2z hk2 hk2'
            generalize Go.Sort.grow (redrawn w7 dq) osq = w8 at *
            have HI8 := Lib.hid (HI5.out.next HB8.out)
            have HQ8 := Lib.hid (HQ5.out.next HB8.out)
            have HKR8 := Lib.hid (HKR.out.next flatP HB78.out)
            clear HB78 HKR HUR7 HI7 HQ7 HUN HUN2 HNS HKZ HKZ0 HUF HUP
            go_upto_region 19 with fail
            go_cut [132] from 49 to 157 (fun s132 wz => s132 = .bool false ∧ Hid (Below w8.heap.size w8 wz))
            case first =>
              by_cases hk0 : k1 = 0
              · have h0 : decide ((0 : Int) < (k1 : Int)) = false := decide_eq_false (by omega)
                have h0' : ¬ (0 : Int) < (k1 : Int) := by omega
                have h0'' : ¬ 0 < k1 := by omega
                clear hk0
                go_wp2_with fail
                refine wp_region_quiet_below (by assumption) (by kernel_rfl) ?_
                repeat (go_big_quiet_step (fail))
                refine wpQuiet_nil ?_
                intro _ hw'
                obtain ⟨⟨dq, osq⟩, hw''⟩ := hw'
                subst hw''
                go_wp2_with fail
                go_meet
                case rel => exact ⟨rfl, below_regrown _ dq osq⟩
              · obtain ⟨k2, hk2⟩ : ∃ k2, k1 = k2 + 1 := ⟨k1 - 1, by omega⟩
                obtain ⟨y, hy⟩ : ∃ y, (nodesG D)[k2]? = some y := ⟨_, List.getElem?_eq_getElem (by rw [← HF.out.1]; omega)⟩
                have HLT : Hid (ltP y.id x.id = true) := nodes_lt hy (by rw [← hk2]; exact HX.out)
                obtain ⟨b9, o9, e9, hat9⟩ := HF.out.2.2.1 k2 y hy
                simp only [Option.some.injEq, Addr.mk.injEq] at e9
                obtain ⟨rfl, rfl, _⟩ := e9
                have hat : FAt ND.enc w8 bN (oN + k2 * 5) y := hat9.below (HB5.out.trans (HB8.out.mono HB5.out.size)) (FAt.lt flatN hat9)
                have y0' : w8.cell? ⟨bN, oN + k2 * 5, none⟩ = some (.int .i64 y.id.1) := hat 0 _ rfl
                have y1' : w8.cell? ⟨bN, oN + k2 * 5 + 1, none⟩ = some (.int .i64 y.id.2) := hat 1 _ rfl
                obtain ⟨cz, hcz⟩ : ∃ cz, St.cmpS y.id.1 y.id.2 x.id.1 x.id.2 = cz := ⟨_, rfl⟩
                have HCZ : Hid (cz < 0) := by
                  show _ < _
                  have h1 := st_lt y.id.1 y.id.2 x.id.1 x.id.2
                  have h2 := HLT.out
                  rw [hcz] at h1
                  exact of_decide_eq_true (h1.trans h2)
                have k15 : St.RegrownTo w8 15 #[.agg #[.int .i64 y.id.1, .int .i64 y.id.2], .agg #[.int .i64 x.id.1, .int .i64 x.id.2]] (.int .i64 cz) := regrown_at fun W' hb => by
                  have h := St.refCmp_any y.id.1 y.id.2 x.id.1 x.id.2 W'
                  rw [hcz] at h
                  exact h
                have z0 := cell_regrown (HI8.out.bk.cell 0 _ rfl)
                have z1 := cell_regrown (HQ8.out.cell 0 _ rfl)
                have z2 := cell_regrown (HQ8.out.cell 1 _ rfl)
                have z3 := cell_regrown y0'
                have z4 := cell_regrown y1'
                have h0 : decide ((0 : Int) < (k1 : Int)) = true := decide_eq_true (by omega)
                have h0' : (0 : Int) < (k1 : Int) := by omega
                have h0'' : 0 < k1 := by omega
                have hv : IntKind.i64.wrap ((k1 : Int) - 1) = (k2 : Int) := (wrap_isT _).trans (by rw [IntWalk.wrap64_in _ (by omega)]; omega)
                have hv2 : wrap64 ((k1 : Int) - 1) = (k2 : Int) := by rw [IntWalk.wrap64_in _ (by omega)]; omega
                have hk2n : k2 < nn := by omega
                have hk2z : (k2 : Int) < (nn : Int) := by omega
                have hk20 : (0 : Int) ≤ (k2 : Int) := by omega
                have hc0 : decide ((0 : Int) ≤ cz) = false := decide_eq_false (by have := HCZ.out; omega)
                have hc0' : ¬ (0 : Int) ≤ cz := by have := HCZ.out; omega
                clear hk0 hk2 hy hat9 hat y0' y1' hcz
                go_wp2_with fail
                refine wp_region_quiet_below (by assumption) (by kernel_rfl) ?_
                repeat (go_big_quiet_step (first | (go_at_call 15; with_reducible exact k15 _ _)))
                refine wpQuiet_nil ?_
                intro _ hw'
                obtain ⟨⟨dq, osq⟩, hw''⟩ := hw'
                subst hw''
                go_wp2_with fail
                go_meet
                case rel => exact ⟨rfl, below_regrown _ dq osq⟩
            case rest =>
            obtain ⟨rfl, HB9⟩ := hcut
            rename World => w9
            have HI9 := Lib.hid (HI8.out.next HB9.out)
            have HQ9 := Lib.hid (HQ8.out.next HB9.out)
            have HKR9 := Lib.hid (HKR8.out.next flatP HB9.out)
            have HB59 : Hid (Below w5.heap.size w5 w9) := HB8.out.trans (HB9.out.mono HB8.out.size)
            have hkl := HKL.out
            clear HI8 HQ8 HKR8 HB9 HB8
            go_wp2_with fail
            go_loopg [14] kn (fun g2 s14 wr => ∃ j1 : Nat, s14 = .int .i64 j1 ∧ j1 ≤ kn ∧ kn - j1 ≤ g2 ∧ Hid (Below w9.heap.size w9 wr))
            case atStart => exact ⟨0, rfl, Nat.zero_le _, by omega, Below.refl _ _⟩
            case round =>
              obtain ⟨j1, rfl, hj1, hgj1, HBJ⟩ := hrel
              have HIJ := Lib.hid (HI9.out.next HBJ.out)
              have HQJ := Lib.hid (HQ9.out.next HBJ.out)
              by_cases hj2 : j1 < kn
              · have hj2z : (j1 : Int) < (kn : Int) := by omega
                have hj20 : (0 : Int) ≤ (j1 : Int) := by omega
                obtain ⟨u, hu⟩ : ∃ u, (kidsG D (x.par.1, x.par.2))[j1]? = some u := ⟨_, List.getElem?_eq_getElem (by rw [← HKN.out]; exact hj2)⟩
                obtain ⟨bk, ok, rfl, hau⟩ := HKR9.out j1 u hu
                obtain ⟨m, hm, hmp⟩ := kids_are (List.mem_of_getElem? hu)
                have HMP : Hid (m.par.1 = x.par.1 ∧ m.par.2 = x.par.2) := by rw [hmp]; exact ⟨rfl, rfl⟩
                obtain ⟨u1, u2⟩ := u
                have HMI := Lib.hid (find_mem hm).2
                have HMF : Hid (findN (nodesG D) (u1, u2) = some m) := hm
                have HMW : Hid (wfP (u1, u2)) := by show wfP _; rw [← HMI.out]; exact (nodes_wf HSU2.out.am (find_mem hm).1).1
                have HUC : Hid (∀ W', Below wr.heap.size wr W' → W'.cell? ⟨bk, ok + j1 * 2, none⟩ = some (.int .i64 u1) ∧ W'.cell? ⟨bk, ok + j1 * 2 + 1, none⟩ = some (.int .i64 u2)) := fun W' hb => by
                  have h1 : FAt encP W' bk (ok + j1 * 2) (u1, u2) := FAt.below hau (HBJ.out.trans (hb.mono HBJ.out.size)) (FAt.lt flatP hau)
                  exact ⟨h1 0 _ rfl, h1 1 _ rfl⟩
                have HKE : Hid (∀ W', Below wr.heap.size wr W' → W'.cell? ⟨g, 0, none⟩ = some (.slice (some ⟨bN, oN, none⟩) nn nc) ∧ W'.cell? ⟨g, 0 + 1, none⟩ = some (.slice ma mn mc)) := fun W' hb => ⟨(HIJ.out.next hb).bk.cell 0 _ rfl, (HIJ.out.next hb).bk.cell 1 _ rfl⟩
                have CA : Hid (∀ W', Below wr.heap.size wr W' → Calls Tryd.prog 16 #[valT (some ⟨bN, oN, none⟩) nn nc ma mn mc, .agg #[.int .i64 u1, .int .i64 u2]] W' (FindS W' m)) := fun W' hb =>
                  have hb' : Below w5.heap.size w5 W' := (HB59.out.trans (HBJ.out.mono HB59.out.size)).trans (hb.mono (Nat.le_trans HB59.out.size HBJ.out.size))
                  find_some _ D u1 u2 W' (HTR.out W' hb').2 (HTR.out W' hb').1 HSU2.out.am HSU2.out.asc (by have := HDL.out; omega) HMF.out HMW.out
                clear hu hau hm hmp
                go_wp2_with fail
                go_cut [15, 16] from 133 to 157 (fun sx se wz => ∃ gx : Nat, sx = .pointer (some ⟨gx, 0, none⟩) ∧ se = .int .i64 0 ∧ Hid (NR wr wz gx m))
                case first =>
                  have HSX : Hid (∀ W', Below wr.heap.size wr W' → (fun W' => W'.cell? ⟨g, 0, none⟩ = some (.slice (some ⟨bN, oN, none⟩) nn nc) ∧ W'.cell? ⟨g, 0 + 1, none⟩ = some (.slice ma mn mc) ∧ W'.cell? ⟨bk, ok + j1 * 2, none⟩ = some (.int .i64 u1) ∧ W'.cell? ⟨bk, ok + j1 * 2 + 1, none⟩ = some (.int .i64 u2) ∧ Hid (Below wr.heap.size wr W')) W') := fun W' hb => by
                    obtain ⟨p0, p1⟩ := HKE.out W' hb
                    obtain ⟨p2, p3⟩ := HUC.out W' hb
                    exact ⟨p0, p1, p2, p3, hb⟩
                  have hS0 := HSX.out _ (Below.refl wr.heap.size wr).drew
                  have hS1 := HSX.out _ (box_bel wr zNo).drew
                  go_wp2_with fail
                  go_region_held3 (fun W' => W'.cell? ⟨g, 0, none⟩ = some (.slice (some ⟨bN, oN, none⟩) nn nc) ∧ W'.cell? ⟨g, 0 + 1, none⟩ = some (.slice ma mn mc) ∧ W'.cell? ⟨bk, ok + j1 * 2, none⟩ = some (.int .i64 u1) ∧ W'.cell? ⟨bk, ok + j1 * 2 + 1, none⟩ = some (.int .i64 u2) ∧ Hid (Below wr.heap.size wr W')) (with_reducible assumption) (
                    (go_at_call 16
                     (first
                      | (with_reducible refine (CA.out _ (Below.refl wr.heap.size wr).drew).mono ?_
                         rintro e w17 ⟨hb17, rfl⟩
                         have HR17 := Lib.hid (NR.two (x := m) hb17)
                         have hb18 := (Below.refl wr.heap.size wr).drew.trans hb17
                         have hS17 := HSX.out w17 hb18
                         have hS18 := HSX.out _ (hb18.trans ((box_bel w17 zNo).mono hb18.size))
                         have hS19 := HSX.out _ HR17.out.bel
                         clear hb17 hb18)
                      | (with_reducible refine (CA.out _ (box_bel wr zNo).drew).mono ?_
                         rintro e w17 ⟨hb17, rfl⟩
                         have HR17 := Lib.hid (NR.one (x := m) hb17)
                         have hbk := NR.box hb17
                         have hS17 := HSX.out w17 ((box_bel wr zNo).drew.trans (hb17.mono (by show wr.heap.size ≤ (wr.alloc zNo).heap.size; simp)))
                         have hS19 := HSX.out _ HR17.out.bel
                         have q0 := hbk.cell 0 _ rfl
                         have q1 := hbk.cell 1 _ rfl
                         have q2 := hbk.cell 2 _ rfl
                         have q3 := hbk.cell 3 _ rfl
                         have q4 := hbk.cell 4 _ rfl
                         have q5 := hbk.free 0 _ rfl
                         have q6 := hbk.free 1 _ rfl
                         have q7 := hbk.free 2 _ rfl
                         have q8 := hbk.free 3 _ rfl
                         have q9 := hbk.free 4 _ rfl
                         clear hbk hb17))))
                  all_goals
                    go_wp2_with fail
                    go_meet
                    case rel => exact ⟨_, rfl, rfl, HR17⟩
                case rest =>
                obtain ⟨gx, rfl, rfl, HM⟩ := hcut
                rename World => wm
                have HBM : Hid (Below w9.heap.size w9 wm) := HBJ.out.trans (HM.out.bel.mono HBJ.out.size)
                have HQM := Lib.hid (HQJ.out.next HM.out.bel)
                have m2 := HM.out.blk.cell 2 _ rfl
                have m3 := HM.out.blk.cell 3 _ rfl
                rw [HMP.out.1] at m2
                rw [HMP.out.2] at m3
                have p2 := HQM.out.cell 2 _ rfl
                have p3 := HQM.out.cell 3 _ rfl
                have n1 := fun w => St.st_neq x.par.1 x.par.2 x.par.1 x.par.2 w
                simp only [BEq.rfl, Bool.and_self, Bool.not_true] at n1
                clear CA HKE HUC
                go_wp2_with (go_at_call 9
                             refine (HN.out _ _).mono ?_
                             rintro e w ⟨rfl, rfl⟩)
                go_roundg (kn - (j1 + 1))
                case measure => omega
                case rel => exact ⟨j1 + 1, by go_num, by omega, by omega, HBM⟩
              · obtain rfl : j1 = kn := by omega
                have hj2z : ¬ (j1 : Int) < (j1 : Int) := by omega
                have HBE : Hid (Below we.heap.size we wr) := HB5.out.trans ((HB59.out.trans (HBJ.out.mono HB59.out.size)).mono HB5.out.size)
                go_wp2_with fail
                go_roundg (nn - (k1 + 1))
                case measure => omega
                case rel => exact ⟨k1 + 1, by go_num, by omega, by omega, HBE⟩
          · obtain rfl : k1 = nn := by omega
            have hi1z : ¬ (k1 : Int) < (k1 : Int) := by omega
            go_wp2_with fail
            go_roundg (n - (k + 1))
            case measure => omega
            case rel => exact ⟨k + 1, ⟨na, k1, nc, ma, mn, mc⟩, D, by go_num, by omega, by omega, HI3.out, HSU2.out⟩
      · obtain rfl : k = n := by omega
        have hinz : ¬ (k : Int) < (k : Int) := by omega
        have HBE : Hid (Below W.heap.size W wr) := HBW.out.trans (HI.out.bl.mono (by rw [← HG.out]; exact HBW.out.size))
        have CW := Lib.hid (wakes16_any wr (HTB.out wr HI.out.bl))
        go_wp2_with fail
        refine (CW.out).mono ?_
        rintro e w6 ⟨rfl, hb6⟩
        have HBE6 : Hid (Below W.heap.size W w6) := HBE.out.trans (hb6.mono HBE.out.size)
        clear hb6
        go_wp2
        go_ret
        exact ⟨rfl, HBE6.out⟩
end Go.Proofs.YtjlbpmmckgjajaaDoor
