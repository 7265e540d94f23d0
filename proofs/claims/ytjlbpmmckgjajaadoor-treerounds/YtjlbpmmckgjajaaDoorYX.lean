/- Joined: TX13. -/
import Derived.Test.YtjlbpmmckgjajaaDoorYW
import Derived.BigRegion
import Derived.Deep.RegionHeld3
import Derived.Deep.CutRange

/- TreeOrders' walk. -/
namespace Go.Proofs.YtjlbpmmckgjajaaDoor
open Go.RowKit Go.Lib Go.Maps
set_option linter.unusedVariables false

/-- a row of moves, of one's own, and what stays of it -/
structure MvR (w2 : World) (ll : Option Addr) (zs : List OV) (L : List OpD) (n : Nat) : Prop where
  row : RowF 12 OV.enc w2 ll zs
  dep : DepsV w2 zs
  eq : zs.map (·.1) = L
  len : zs.length = n
  am : AllM L
  asc : AscS L
theorem MvR.at {w2 : World} {ll : Option Addr} {zs : List OV} {L : List OpD} {n : Nat} (h : MvR w2 ll zs L n) {j : Nat} (hj : j < n) : ∃ z b off, zs[j]? = some z ∧ L[j]? = some z.1 ∧ ll = some ⟨b, off, none⟩ := by
  have hz : zs[j]? = some (zs[j]'(by rw [h.len]; exact hj)) := List.getElem?_eq_getElem _
  obtain ⟨b, off, e, -⟩ := h.row j _ hz
  have h2 := h.eq
  subst h2
  exact ⟨_, b, off, hz, by rw [List.getElem?_map, hz]; rfl, e⟩
theorem MvR.cells {w2 W' : World} {b off g : Nat} {zs : List OV} {L : List OpD} {n : Nat} (h : MvR w2 (some ⟨b, off, none⟩) zs L n) {j : Nat} {z : OV} (hz : zs[j]? = some z) (hg : w2.heap.size = g) (hb : Below g w2 W') : CellsAt W' b (off + j * 12) z.enc := by
  have h1 := RowV_cells h.row hz
  obtain ⟨b', o', e, h2⟩ := h.row j z hz
  simp only [Option.some.injEq, Addr.mk.injEq] at e
  obtain ⟨rfl, rfl, _⟩ := e
  exact FAt.below h2 hb (by rw [← hg]; exact FAt.lt flatO h2)
theorem MvR.depk {w2 W' : World} {g : Nat} {ll : Option Addr} {zs : List OV} {L : List OpD} {n : Nat} (h : MvR w2 ll zs L n) {j : Nat} {z : OV} (hz : zs[j]? = some z) (hg : w2.heap.size = g) (hb : Below g w2 W') : DepK W' z.1 z.2 := (h.dep z (List.mem_of_getElem? hz)).below (by rw [hg]; exact hb)
theorem MvR.llen {w2 : World} {ll : Option Addr} {zs : List OV} {L : List OpD} {n : Nat} (h : MvR w2 ll zs L n) : L.length = n := by rw [← h.eq, List.length_map, h.len]
theorem wrap_isT (n : Int) : IntKind.i64.wrap n = wrap64 n := by rw [IntKind.wrap_i64, wrap64]
theorem MvR.get {w2 : World} {ll : Option Addr} {zs : List OV} {L : List OpD} {n : Nat} (h : MvR w2 ll zs L n) {j : Nat} (hj : j < n) : ∃ z : OV, zs[j]? = some z ∧ L[j]? = some z.1 := by
  obtain ⟨z, b, off, h1, h2, -⟩ := h.at hj
  exact ⟨z, h1, h2⟩
set_option maxHeartbeats 16000000 in
set_option maxRecDepth 100000 in
theorem treeOrders_walk (na0 : Option Addr) (ns0 : List ND) (nn0 nc0 : Nat) (ma0 : Option Addr) (ys0 : List EV) (mn0 mc0 : Nat) (la : Option Addr) (ls : List OV) (ln lc : Nat) (ia : Option Addr) (is : List Pl) (im ic : Nat) (W : World) (ht : Pr.Tab W) (h : ScT W na0 ns0 nn0 nc0 ma0 ys0 mn0 mc0 la ls ln lc ia is im ic) :
    Calls Tryd.prog 3 #[valSc na0 nn0 nc0 ma0 mn0 mc0 la ln lc ia im ic] W (BoolPost W true) := by
  have mixed : Tryd.prog.follows .mixedOrders = true := by kernel_rfl
  have HT := Lib.hid ht
  have HN := Lib.hid (fun n w => num16_any n w)
  obtain ⟨W1, hW1⟩ : ∃ W1, W.alloc (.cells #[.slice na0 nn0 nc0, .slice ma0 mn0 mc0, .slice la ln lc, .slice ia im ic] 29) = W1 := ⟨_, rfl⟩
  have HB1 : Hid (Below W.heap.size W W1) := by show Below _ _ _; rw [← hW1]; exact box_bel W _
  have HS1 : Hid (Blk W1 W.heap.size [.slice na0 nn0 nc0, .slice ma0 mn0 mc0, .slice la ln lc, .slice ia im ic]) := by show Blk _ _ _; rw [← hW1]; exact objS_cell W na0 nn0 nc0 ma0 mn0 mc0 la ln lc ia im ic
  have HSC := Lib.hid (h.next HB1.out)
  have CHV := Lib.hid (heavyT_any HSC.out)
  have s0 := HS1.out.cell 0 _ rfl
  have s1 := HS1.out.cell 1 _ rfl
  have s2 := HS1.out.cell 2 _ rfl
  have s3 := HS1.out.cell 3 _ rfl
  clear ht h
  go_enter Tryd.func3, Tryd.ntmps3
  go_wp2_with fail
  clear hW1
  refine (CHV.out).mono ?_
  rintro e w1 ⟨hv, rfl, hb1⟩
  have HBW1 : Hid (Below W.heap.size W w1) := HB1.out.trans (hb1.mono HB1.out.size)
  have HS2 := Lib.hid (HS1.out.next hb1)
  have HSC2 := Lib.hid (HSC.out.next hb1)
  clear hb1 CHV HSC HS1 s0 s1 s2 s3
  cases hv
  case true =>
    go_wp2
    go_ret
    exact ⟨rfl, HBW1.out⟩
  case false =>
    have CM : Hid (Calls Tryd.prog 7 #[.slice la ln lc, .int .i64 10] w1 (MovesPost w1 10)) := moves_any la ls ln lc 10 (by decide) w1 HSC2.out.lr HSC2.out.ld HSC2.out.ll (by have := HSC2.out.lm; omega)
    have HIM : Hid (im ≤ 8796093022208) := by show _ ≤ _; have h1 := HSC2.out.im_; have h2 := HSC2.out.il; omega
    have s2 := HS2.out.cell 2 _ rfl
    clear HSC2
    go_wp2_with fail
    refine (CM.out).mono ?_
    rintro e w2 ⟨v, zs, rfl, hv, ham, hasc, hlen, hb2⟩
    obtain ⟨ll, n, lc2, rfl, hn, hc2, hr, hd⟩ := hv.form
    obtain ⟨L, hL⟩ : ∃ L, zs.map (·.1) = L := ⟨_, rfl⟩
    have HMV : Hid (MvR w2 ll zs L n) := by rw [hL] at ham hasc; exact ⟨hr, hd, hL, hn.symm, ham, hasc⟩
    have HNM : Hid (n ≤ 10) := by show _ ≤ _; rw [hn]; exact hlen
    have HBW : Hid (Below W.heap.size W w2) := HBW1.out.trans (hb2.mono HBW1.out.size)
    have HS3 : Hid (w2.cell? ⟨W.heap.size, 3, none⟩ = some (.slice ia im ic)) := (HS2.out.next hb2).cell 3 _ rfl
    clear hv ham hasc hlen hb2 hn hc2 hr hd hL CM HS2 s2 HB1 HBW1
    go_wp2_with fail
    obtain ⟨w3, hw3⟩ : ∃ w3, ((w2.alloc zT).alloc zT).alloc zT = w3 := ⟨_, rfl⟩
    obtain ⟨g, hg⟩ : ∃ g, w2.heap.size = g := ⟨_, rfl⟩
    have HG := Lib.hid hg
    have HI0 : Hid (OrW w2 w3 g ⟨none, 0, 0, none, 0, 0⟩ ⟨none, 0, 0, none, 0, 0⟩ ⟨none, 0, 0, none, 0, 0⟩ [] [] []) := by
      show OrW _ _ _ _ _ _ _ _ _
      rw [← hw3, ← hg]
      exact orW_new w2
    have HTB : Hid (∀ W', Below g w2 W' → Pr.Tab W') := fun W' hb => HT.out.below (HBW.out.trans (hb.mono (by rw [← HG.out]; exact HBW.out.size))) HT.out.lt
    have HSG : Hid (∀ W', Below g w2 W' → W'.cell? ⟨W.heap.size, 3, none⟩ = some (.slice ia im ic)) := fun W' hb => (hb.cell (p := ⟨W.heap.size, 3, none⟩) (by rw [← HG.out]; exact World.block_lt_of_cell? _ _ HS3.out)).trans HS3.out
    rw [hw3, hg]
    clear hw3 hg HS3
    go_loopg [7] n (fun gg s7 wr => ∃ (k : Nat) (a b c : TV) (C : List OpD), s7 = .int .i64 k ∧ k ≤ n ∧ n - k ≤ gg ∧ Hid (OrW w2 wr g a b c (L.take k) (L.drop (n - k)) C) ∧ Hid (SubM L C))
    case atStart => exact ⟨0, _, _, _, [], rfl, Nat.zero_le _, by omega, by rw [Nat.sub_zero, ← HMV.out.llen, List.drop_length]; exact HI0, SubM.nil _⟩
    case round =>
      obtain ⟨k, a, b, c, C, rfl, hk, hgk, HI, HSU⟩ := hrel
      clear HI0
      by_cases hin : k < n
      · have hinz : (k : Int) < (n : Int) := by omega
        obtain ⟨z, bo, off, hz, hLz, rfl⟩ := HMV.out.at hin
        have HKE : Hid (∀ W', Below wr.heap.size wr W' → W'.cell? ⟨g, 0, none⟩ = some (.slice a.na a.nn a.nc) ∧ W'.cell? ⟨g, 0 + 1, none⟩ = some (.slice a.ma a.mn a.mc)) := fun W' hb => ⟨(HI.out.next hb).ba.cell 0 _ rfl, (HI.out.next hb).ba.cell 1 _ rfl⟩
        have HCZ : Hid (∀ W', Below wr.heap.size wr W' → CellsAt W' bo (off + k * 12) z.enc) := fun W' hb => HMV.out.cells hz HG.out (HI.out.next hb).bl
        have CA : Hid (∀ W', Below wr.heap.size wr W' → Calls Tryd.prog 8 #[valT a.na a.nn a.nc a.ma a.mn a.mc, valOy z.1 z.2] W' (ApplyQ W' (L.take (k + 1)))) := fun W' hb =>
          have h' := HI.out.next hb
          apply_to _ (L.take k) z.1 z.2 W' k (HTB.out W' h'.bl) (h'.ta.tri (by have := HMV.out.llen; have := HNM.out; simp; omega)) (allM_take HMV.out.am k) (ascS_take HMV.out.asc k) (HMV.out.am z.1 (List.mem_of_getElem? hLz)) (HMV.out.depk hz HG.out h'.bl) (by have := HMV.out.llen; have := HNM.out; simp; omega) (hereS_take HMV.out.asc hLz) (posS_end HMV.out.asc hLz) (ins_end hLz)
        go_wp2_with fail
        go_cut [8, 9] from 19 to 80 (fun sx se wz => ∃ (gx : Nat) (na' : Option Addr) (nn' nc' : Nat) (ma' : Option Addr) (mn' mc' : Nat), sx = .pointer (some ⟨gx, 0, none⟩) ∧ se = .int .i64 0 ∧ Hid (AR wr wz gx na' nn' nc' ma' mn' mc' (L.take (k + 1))))
        case first =>
          have HSX : Hid (∀ W', Below wr.heap.size wr W' → (fun W' => W'.cell? ⟨g, 0, none⟩ = some (.slice a.na a.nn a.nc) ∧ W'.cell? ⟨g, 0 + 1, none⟩ = some (.slice a.ma a.mn a.mc) ∧ W'.cell? ⟨bo, off + k * 12, none⟩ = some (.int .i64 z.1.1.t) ∧ W'.cell? ⟨bo, off + k * 12 + 1, none⟩ = some (.int .i64 z.1.1.r) ∧ W'.cell? ⟨bo, off + k * 12 + 2, none⟩ = some (.int .i64 z.1.2) ∧ W'.cell? ⟨bo, off + k * 12 + 3, none⟩ = some (.slice z.2.a z.2.n z.2.c) ∧ W'.cell? ⟨bo, off + k * 12 + 4, none⟩ = some (.int .i64 z.1.1.k) ∧ W'.cell? ⟨bo, off + k * 12 + 5, none⟩ = some (.int .i64 z.1.1.nt) ∧ W'.cell? ⟨bo, off + k * 12 + 6, none⟩ = some (.int .i64 z.1.1.nr) ∧ W'.cell? ⟨bo, off + k * 12 + 7, none⟩ = some (.int .i64 z.1.1.pt) ∧ W'.cell? ⟨bo, off + k * 12 + 8, none⟩ = some (.int .i64 z.1.1.pr) ∧ W'.cell? ⟨bo, off + k * 12 + 9, none⟩ = some (.string z.1.1.s) ∧ W'.cell? ⟨bo, off + k * 12 + 10, none⟩ = some (.int .i64 z.1.1.p) ∧ W'.cell? ⟨bo, off + k * 12 + 11, none⟩ = some (.int .i64 z.1.1.v) ∧ Hid (Below wr.heap.size wr W')) W') := fun W' hb => by
            obtain ⟨p0, p1⟩ := HKE.out W' hb
            have hc := HCZ.out W' hb
            exact ⟨p0, p1, hc 0 _ rfl, hc 1 _ rfl, hc 2 _ rfl, hc 3 _ rfl, hc 4 _ rfl, hc 5 _ rfl, hc 6 _ rfl, hc 7 _ rfl, hc 8 _ rfl, hc 9 _ rfl, hc 10 _ rfl, hc 11 _ rfl, hb⟩
          have hS0 := HSX.out _ (Below.refl wr.heap.size wr).drew
          have hS1 := HSX.out _ (box_bel wr zT).drew
          go_wp2_with fail
          go_region_held3 (fun W' => W'.cell? ⟨g, 0, none⟩ = some (.slice a.na a.nn a.nc) ∧ W'.cell? ⟨g, 0 + 1, none⟩ = some (.slice a.ma a.mn a.mc) ∧ W'.cell? ⟨bo, off + k * 12, none⟩ = some (.int .i64 z.1.1.t) ∧ W'.cell? ⟨bo, off + k * 12 + 1, none⟩ = some (.int .i64 z.1.1.r) ∧ W'.cell? ⟨bo, off + k * 12 + 2, none⟩ = some (.int .i64 z.1.2) ∧ W'.cell? ⟨bo, off + k * 12 + 3, none⟩ = some (.slice z.2.a z.2.n z.2.c) ∧ W'.cell? ⟨bo, off + k * 12 + 4, none⟩ = some (.int .i64 z.1.1.k) ∧ W'.cell? ⟨bo, off + k * 12 + 5, none⟩ = some (.int .i64 z.1.1.nt) ∧ W'.cell? ⟨bo, off + k * 12 + 6, none⟩ = some (.int .i64 z.1.1.nr) ∧ W'.cell? ⟨bo, off + k * 12 + 7, none⟩ = some (.int .i64 z.1.1.pt) ∧ W'.cell? ⟨bo, off + k * 12 + 8, none⟩ = some (.int .i64 z.1.1.pr) ∧ W'.cell? ⟨bo, off + k * 12 + 9, none⟩ = some (.string z.1.1.s) ∧ W'.cell? ⟨bo, off + k * 12 + 10, none⟩ = some (.int .i64 z.1.1.p) ∧ W'.cell? ⟨bo, off + k * 12 + 11, none⟩ = some (.int .i64 z.1.1.v) ∧ Hid (Below wr.heap.size wr W')) (with_reducible assumption) (
            (go_at_call 8
             (first
              | (with_reducible refine (CA.out _ (Below.refl wr.heap.size wr).drew).mono ?_
                 rintro e w17 ⟨hb17, na', nn', nc', ma', mn', mc', rfl, ho17⟩
                 have HR17 := Lib.hid (AR.two hb17 ho17)
                 have hb18 := (Below.refl wr.heap.size wr).drew.trans hb17
                 have hS17 := HSX.out w17 hb18
                 have hS18 := HSX.out _ (hb18.trans ((box_bel w17 zT).mono hb18.size))
                 have hS19 := HSX.out _ HR17.out.bel
                 clear hb17 ho17 hb18)
              | (with_reducible refine (CA.out _ (box_bel wr zT).drew).mono ?_
                 rintro e w17 ⟨hb17, na', nn', nc', ma', mn', mc', rfl, ho17⟩
                 have HR17 := Lib.hid (AR.one hb17 ho17)
                 have hbk := AR.box hb17
                 have hS17 := HSX.out w17 ((box_bel wr zT).drew.trans (hb17.mono (by show wr.heap.size ≤ (wr.alloc zT).heap.size; simp)))
                 have hS19 := HSX.out _ HR17.out.bel
                 have q0 := hbk.cell 0 _ rfl
                 have q1 := hbk.cell 1 _ rfl
                 have q2 := hbk.free 0 _ rfl
                 have q3 := hbk.free 1 _ rfl
                 clear hbk hb17 ho17))))
          all_goals
            go_wp2_with fail
            go_meet
            case rel => exact ⟨_, _, _, _, _, _, _, rfl, rfl, HR17⟩
        case rest =>
        obtain ⟨g8, na8, nn8, nc8, ma8, mn8, mc8, rfl, rfl, HA8⟩ := hcut
        rename World => wc
        clear CA HCZ HKE hz hLz z
        have HI1 := Lib.hid (HI.out.next HA8.out.bel)
        obtain ⟨j, hj⟩ : ∃ j, n = k + 1 + j := ⟨n - (k + 1), by omega⟩
        have HJ := Lib.hid hj
        have hjn : j < n := by omega
        have hjz : (j : Int) < (n : Int) := by omega
        obtain ⟨n1, hn1⟩ : ∃ n1, n = n1 + 1 := ⟨n - 1, by omega⟩
        have hv1 : IntKind.i64.wrap ((n : Int) - 1) = (n1 : Int) := (wrap_isT _).trans (by rw [IntWalk.wrap64_in _ (by have := HNM.out; omega)]; omega)
        have hv2 : IntKind.i64.wrap ((n1 : Int) - (k : Int)) = (j : Int) := (wrap_isT _).trans (by rw [IntWalk.wrap64_in _ (by have := HNM.out; omega)]; omega)
        have hj0 : (0 : Int) ≤ (j : Int) := Int.natCast_nonneg j
        obtain ⟨z, hz, hLz⟩ := HMV.out.get hjn
        have HKE : Hid (∀ W', Below wc.heap.size wc W' → W'.cell? ⟨g + 1, 0, none⟩ = some (.slice b.na b.nn b.nc) ∧ W'.cell? ⟨g + 1, 0 + 1, none⟩ = some (.slice b.ma b.mn b.mc)) := fun W' hb => ⟨(HI1.out.next hb).bb.cell 0 _ rfl, (HI1.out.next hb).bb.cell 1 _ rfl⟩
        have HCZ : Hid (∀ W', Below wc.heap.size wc W' → CellsAt W' bo (off + j * 12) z.enc) := fun W' hb => HMV.out.cells hz HG.out (HI1.out.next hb).bl
        have HDJ : Hid (L.drop (n - k) = L.drop (j + 1)) := by show _ = _; rw [show n - k = j + 1 by omega]
        have CA : Hid (∀ W', Below wc.heap.size wc W' → Calls Tryd.prog 8 #[valT b.na b.nn b.nc b.ma b.mn b.mc, valOy z.1 z.2] W' (ApplyQ W' (L.drop j))) := fun W' hb =>
          have h' := HI1.out.next hb
          apply_to _ (L.drop (j + 1)) z.1 z.2 W' 0 (HTB.out W' h'.bl) (by rw [← HDJ.out]; exact h'.tb.tri (by have := HMV.out.llen; have := HNM.out; simp; omega)) (allM_drop HMV.out.am _) (ascS_drop HMV.out.asc _) (HMV.out.am z.1 (List.mem_of_getElem? hLz)) (HMV.out.depk hz HG.out h'.bl) (by have := HMV.out.llen; have := HNM.out; simp; omega) (hereS_drop HMV.out.asc hLz) (posS_front HMV.out.asc hLz) (ins_front hLz)
        clear hj hn1
        go_wp2_with fail
        go_cut [10, 11] from 19 to 80 (fun sx se wz => ∃ (gx : Nat) (na' : Option Addr) (nn' nc' : Nat) (ma' : Option Addr) (mn' mc' : Nat), sx = .pointer (some ⟨gx, 0, none⟩) ∧ se = .int .i64 0 ∧ Hid (AR wc wz gx na' nn' nc' ma' mn' mc' (L.drop j)))
        case first =>
          have HSX : Hid (∀ W', Below wc.heap.size wc W' → (fun W' => W'.cell? ⟨g + 1, 0, none⟩ = some (.slice b.na b.nn b.nc) ∧ W'.cell? ⟨g + 1, 0 + 1, none⟩ = some (.slice b.ma b.mn b.mc) ∧ W'.cell? ⟨bo, off + j * 12, none⟩ = some (.int .i64 z.1.1.t) ∧ W'.cell? ⟨bo, off + j * 12 + 1, none⟩ = some (.int .i64 z.1.1.r) ∧ W'.cell? ⟨bo, off + j * 12 + 2, none⟩ = some (.int .i64 z.1.2) ∧ W'.cell? ⟨bo, off + j * 12 + 3, none⟩ = some (.slice z.2.a z.2.n z.2.c) ∧ W'.cell? ⟨bo, off + j * 12 + 4, none⟩ = some (.int .i64 z.1.1.k) ∧ W'.cell? ⟨bo, off + j * 12 + 5, none⟩ = some (.int .i64 z.1.1.nt) ∧ W'.cell? ⟨bo, off + j * 12 + 6, none⟩ = some (.int .i64 z.1.1.nr) ∧ W'.cell? ⟨bo, off + j * 12 + 7, none⟩ = some (.int .i64 z.1.1.pt) ∧ W'.cell? ⟨bo, off + j * 12 + 8, none⟩ = some (.int .i64 z.1.1.pr) ∧ W'.cell? ⟨bo, off + j * 12 + 9, none⟩ = some (.string z.1.1.s) ∧ W'.cell? ⟨bo, off + j * 12 + 10, none⟩ = some (.int .i64 z.1.1.p) ∧ W'.cell? ⟨bo, off + j * 12 + 11, none⟩ = some (.int .i64 z.1.1.v) ∧ Hid (Below wc.heap.size wc W')) W') := fun W' hb => by
            obtain ⟨p0, p1⟩ := HKE.out W' hb
            have hc := HCZ.out W' hb
            exact ⟨p0, p1, hc 0 _ rfl, hc 1 _ rfl, hc 2 _ rfl, hc 3 _ rfl, hc 4 _ rfl, hc 5 _ rfl, hc 6 _ rfl, hc 7 _ rfl, hc 8 _ rfl, hc 9 _ rfl, hc 10 _ rfl, hc 11 _ rfl, hb⟩
          have hS0 := HSX.out _ (Below.refl wc.heap.size wc).drew
          have hS1 := HSX.out _ (box_bel wc zT).drew
          go_wp2_with fail
          go_region_held3 (fun W' => W'.cell? ⟨g + 1, 0, none⟩ = some (.slice b.na b.nn b.nc) ∧ W'.cell? ⟨g + 1, 0 + 1, none⟩ = some (.slice b.ma b.mn b.mc) ∧ W'.cell? ⟨bo, off + j * 12, none⟩ = some (.int .i64 z.1.1.t) ∧ W'.cell? ⟨bo, off + j * 12 + 1, none⟩ = some (.int .i64 z.1.1.r) ∧ W'.cell? ⟨bo, off + j * 12 + 2, none⟩ = some (.int .i64 z.1.2) ∧ W'.cell? ⟨bo, off + j * 12 + 3, none⟩ = some (.slice z.2.a z.2.n z.2.c) ∧ W'.cell? ⟨bo, off + j * 12 + 4, none⟩ = some (.int .i64 z.1.1.k) ∧ W'.cell? ⟨bo, off + j * 12 + 5, none⟩ = some (.int .i64 z.1.1.nt) ∧ W'.cell? ⟨bo, off + j * 12 + 6, none⟩ = some (.int .i64 z.1.1.nr) ∧ W'.cell? ⟨bo, off + j * 12 + 7, none⟩ = some (.int .i64 z.1.1.pt) ∧ W'.cell? ⟨bo, off + j * 12 + 8, none⟩ = some (.int .i64 z.1.1.pr) ∧ W'.cell? ⟨bo, off + j * 12 + 9, none⟩ = some (.string z.1.1.s) ∧ W'.cell? ⟨bo, off + j * 12 + 10, none⟩ = some (.int .i64 z.1.1.p) ∧ W'.cell? ⟨bo, off + j * 12 + 11, none⟩ = some (.int .i64 z.1.1.v) ∧ Hid (Below wc.heap.size wc W')) (with_reducible assumption) (
            (go_at_call 8
             (first
              | (with_reducible refine (CA.out _ (Below.refl wc.heap.size wc).drew).mono ?_
                 rintro e w17 ⟨hb17, na', nn', nc', ma', mn', mc', rfl, ho17⟩
                 have HR17 := Lib.hid (AR.two hb17 ho17)
                 have hb18 := (Below.refl wc.heap.size wc).drew.trans hb17
                 have hS17 := HSX.out w17 hb18
                 have hS18 := HSX.out _ (hb18.trans ((box_bel w17 zT).mono hb18.size))
                 have hS19 := HSX.out _ HR17.out.bel
                 clear hb17 ho17 hb18)
              | (with_reducible refine (CA.out _ (box_bel wc zT).drew).mono ?_
                 rintro e w17 ⟨hb17, na', nn', nc', ma', mn', mc', rfl, ho17⟩
                 have HR17 := Lib.hid (AR.one hb17 ho17)
                 have hbk := AR.box hb17
                 have hS17 := HSX.out w17 ((box_bel wc zT).drew.trans (hb17.mono (by show wc.heap.size ≤ (wc.alloc zT).heap.size; simp)))
                 have hS19 := HSX.out _ HR17.out.bel
                 have q0 := hbk.cell 0 _ rfl
                 have q1 := hbk.cell 1 _ rfl
                 have q2 := hbk.free 0 _ rfl
                 have q3 := hbk.free 1 _ rfl
                 clear hbk hb17 ho17))))
          all_goals
            go_wp2_with fail
            go_meet
            case rel => exact ⟨_, _, _, _, _, _, _, rfl, rfl, HR17⟩
        case rest =>
        obtain ⟨g10, na10, nn10, nc10, ma10, mn10, mc10, rfl, rfl, HA10⟩ := hcut
        rename World => wd
        clear CA HCZ HKE hz hLz z hv1 hv2 hj0 hjn hjz HDJ
        have HI2 := Lib.hid (HI1.out.next HA10.out.bel)
        obtain ⟨k7, hk7⟩ : ∃ k7, k * 7 = k7 := ⟨_, rfl⟩
        obtain ⟨km, hkm⟩ : ∃ km, k7 + im = km := ⟨_, rfl⟩
        obtain ⟨k0, hk0⟩ : ∃ k0, km % n = k0 := ⟨_, rfl⟩
        have hk0n : k0 < n := by rw [← hk0]; exact Nat.mod_lt _ (by omega)
        have hk0z : (k0 : Int) < (n : Int) := by omega
        have hm1 : (km : Int) % (n : Int) = (k0 : Int) := by rw [← hk0]; first | exact (Int.natCast_emod km n).symm | exact (Int.ofNat_emod km n).symm | exact (Int.natCast_mod km n).symm
        have hm2 : (km : Int).tmod (n : Int) = (k0 : Int) := (Int.tmod_eq_emod_of_nonneg (Int.natCast_nonneg km)).trans hm1
        have hnz : ((n : Int) == 0) = false := by simp; omega
        have hnz2 : ¬ (n : Int) = 0 := by omega
        have hv1 : IntKind.i64.wrap ((k : Int) * 7) = (k7 : Int) := (wrap_isT _).trans (by rw [IntWalk.wrap64_in _ (by have := HNM.out; omega)]; omega)
        have hv2 : IntKind.i64.wrap ((k7 : Int) + (im : Int)) = (km : Int) := (wrap_isT _).trans (by rw [IntWalk.wrap64_in _ (by have := HNM.out; have := HIM.out; omega)]; omega)
        have hn0 : ¬ n = 0 := by omega
        have hk00 : (0 : Int) ≤ (k0 : Int) := Int.natCast_nonneg k0
        obtain ⟨z, hz, hLz⟩ := HMV.out.get hk0n
        have HKE : Hid (∀ W', Below wd.heap.size wd W' → W'.cell? ⟨g + 1 + 1, 0, none⟩ = some (.slice c.na c.nn c.nc) ∧ W'.cell? ⟨g + 1 + 1, 0 + 1, none⟩ = some (.slice c.ma c.mn c.mc)) := fun W' hb => ⟨(HI2.out.next hb).bc.cell 0 _ rfl, (HI2.out.next hb).bc.cell 1 _ rfl⟩
        have HCZ : Hid (∀ W', Below wd.heap.size wd W' → CellsAt W' bo (off + k0 * 12) z.enc) := fun W' hb => HMV.out.cells hz HG.out (HI2.out.next hb).bl
        have HSI : Hid (∀ W', Below wd.heap.size wd W' → W'.cell? ⟨W.heap.size, 3, none⟩ = some (.slice ia im ic)) := fun W' hb => HSG.out W' (HI2.out.next hb).bl
        have CA : Hid (∀ W', Below wd.heap.size wd W' → Calls Tryd.prog 8 #[valT c.na c.nn c.nc c.ma c.mn c.mc, valOy z.1 z.2] W' (ApplyU W' L C)) := fun W' hb =>
          have h' := HI2.out.next hb
          apply_u _ L C z.1 z.2 W' (HTB.out W' h'.bl) (h'.tc.tri (by have := HSU.out.len HMV.out.asc; have := HMV.out.llen; have := HNM.out; omega)) HSU.out HMV.out.asc (HMV.out.am z.1 (List.mem_of_getElem? hLz)) (List.mem_of_getElem? hLz) (HMV.out.depk hz HG.out h'.bl) (by have := HMV.out.llen; have := HNM.out; omega)
        clear hk7 hkm hk0
        go_wp2_with fail
        go_cut [12, 13] from 19 to 80 (fun sx se wz => ∃ (gx : Nat) (na' : Option Addr) (nn' nc' : Nat) (ma' : Option Addr) (mn' mc' : Nat) (z : Int) (C' : List OpD), sx = .pointer (some ⟨gx, 0, none⟩) ∧ se = .int .i64 z ∧ Hid (AR wd wz gx na' nn' nc' ma' mn' mc' C') ∧ Hid ((z = 0 ∧ SubM L C') ∨ (z = 4 ∧ C' = [])))
        case first =>
          have HSX : Hid (∀ W', Below wd.heap.size wd W' → (fun W' => W'.cell? ⟨g + 1 + 1, 0, none⟩ = some (.slice c.na c.nn c.nc) ∧ W'.cell? ⟨g + 1 + 1, 0 + 1, none⟩ = some (.slice c.ma c.mn c.mc) ∧ W'.cell? ⟨W.heap.size, 3, none⟩ = some (.slice ia im ic) ∧ W'.cell? ⟨bo, off + k0 * 12, none⟩ = some (.int .i64 z.1.1.t) ∧ W'.cell? ⟨bo, off + k0 * 12 + 1, none⟩ = some (.int .i64 z.1.1.r) ∧ W'.cell? ⟨bo, off + k0 * 12 + 2, none⟩ = some (.int .i64 z.1.2) ∧ W'.cell? ⟨bo, off + k0 * 12 + 3, none⟩ = some (.slice z.2.a z.2.n z.2.c) ∧ W'.cell? ⟨bo, off + k0 * 12 + 4, none⟩ = some (.int .i64 z.1.1.k) ∧ W'.cell? ⟨bo, off + k0 * 12 + 5, none⟩ = some (.int .i64 z.1.1.nt) ∧ W'.cell? ⟨bo, off + k0 * 12 + 6, none⟩ = some (.int .i64 z.1.1.nr) ∧ W'.cell? ⟨bo, off + k0 * 12 + 7, none⟩ = some (.int .i64 z.1.1.pt) ∧ W'.cell? ⟨bo, off + k0 * 12 + 8, none⟩ = some (.int .i64 z.1.1.pr) ∧ W'.cell? ⟨bo, off + k0 * 12 + 9, none⟩ = some (.string z.1.1.s) ∧ W'.cell? ⟨bo, off + k0 * 12 + 10, none⟩ = some (.int .i64 z.1.1.p) ∧ W'.cell? ⟨bo, off + k0 * 12 + 11, none⟩ = some (.int .i64 z.1.1.v) ∧ Hid (Below wd.heap.size wd W')) W') := fun W' hb => by
            obtain ⟨p0, p1⟩ := HKE.out W' hb
            have hc := HCZ.out W' hb
            exact ⟨p0, p1, HSI.out W' hb, hc 0 _ rfl, hc 1 _ rfl, hc 2 _ rfl, hc 3 _ rfl, hc 4 _ rfl, hc 5 _ rfl, hc 6 _ rfl, hc 7 _ rfl, hc 8 _ rfl, hc 9 _ rfl, hc 10 _ rfl, hc 11 _ rfl, hb⟩
          have hS0 := HSX.out _ (Below.refl wd.heap.size wd).drew
          have hS1 := HSX.out _ (box_bel wd zT).drew
          go_wp2_with fail
          go_region_held3 (fun W' => W'.cell? ⟨g + 1 + 1, 0, none⟩ = some (.slice c.na c.nn c.nc) ∧ W'.cell? ⟨g + 1 + 1, 0 + 1, none⟩ = some (.slice c.ma c.mn c.mc) ∧ W'.cell? ⟨W.heap.size, 3, none⟩ = some (.slice ia im ic) ∧ W'.cell? ⟨bo, off + k0 * 12, none⟩ = some (.int .i64 z.1.1.t) ∧ W'.cell? ⟨bo, off + k0 * 12 + 1, none⟩ = some (.int .i64 z.1.1.r) ∧ W'.cell? ⟨bo, off + k0 * 12 + 2, none⟩ = some (.int .i64 z.1.2) ∧ W'.cell? ⟨bo, off + k0 * 12 + 3, none⟩ = some (.slice z.2.a z.2.n z.2.c) ∧ W'.cell? ⟨bo, off + k0 * 12 + 4, none⟩ = some (.int .i64 z.1.1.k) ∧ W'.cell? ⟨bo, off + k0 * 12 + 5, none⟩ = some (.int .i64 z.1.1.nt) ∧ W'.cell? ⟨bo, off + k0 * 12 + 6, none⟩ = some (.int .i64 z.1.1.nr) ∧ W'.cell? ⟨bo, off + k0 * 12 + 7, none⟩ = some (.int .i64 z.1.1.pt) ∧ W'.cell? ⟨bo, off + k0 * 12 + 8, none⟩ = some (.int .i64 z.1.1.pr) ∧ W'.cell? ⟨bo, off + k0 * 12 + 9, none⟩ = some (.string z.1.1.s) ∧ W'.cell? ⟨bo, off + k0 * 12 + 10, none⟩ = some (.int .i64 z.1.1.p) ∧ W'.cell? ⟨bo, off + k0 * 12 + 11, none⟩ = some (.int .i64 z.1.1.v) ∧ Hid (Below wd.heap.size wd W')) (with_reducible assumption) (
            (go_at_call 8
             (first
              | (with_reducible refine (CA.out _ (Below.refl wd.heap.size wd).drew).mono ?_
                 rintro e w17 ⟨hb17, na', nn', nc', ma', mn', mc', z17, C', rfl, ho17, hz17⟩
                 have HZ17 := Lib.hid hz17
                 clear hz17
                 have HR17 := Lib.hid (AR.two hb17 ho17)
                 have hb18 := (Below.refl wd.heap.size wd).drew.trans hb17
                 have hS17 := HSX.out w17 hb18
                 have hS18 := HSX.out _ (hb18.trans ((box_bel w17 zT).mono hb18.size))
                 have hS19 := HSX.out _ HR17.out.bel
                 clear hb17 ho17 hb18)
              | (with_reducible refine (CA.out _ (box_bel wd zT).drew).mono ?_
                 rintro e w17 ⟨hb17, na', nn', nc', ma', mn', mc', z17, C', rfl, ho17, hz17⟩
                 have HZ17 := Lib.hid hz17
                 clear hz17
                 have HR17 := Lib.hid (AR.one hb17 ho17)
                 have hbk := AR.box hb17
                 have hS17 := HSX.out w17 ((box_bel wd zT).drew.trans (hb17.mono (by show wd.heap.size ≤ (wd.alloc zT).heap.size; simp)))
                 have hS19 := HSX.out _ HR17.out.bel
                 have q0 := hbk.cell 0 _ rfl
                 have q1 := hbk.cell 1 _ rfl
                 have q2 := hbk.free 0 _ rfl
                 have q3 := hbk.free 1 _ rfl
                 clear hbk hb17 ho17))))
          all_goals
            go_wp2_with fail
            go_meet
            case rel => exact ⟨_, _, _, _, _, _, _, _, _, rfl, rfl, HR17, HZ17⟩
        case rest =>
        obtain ⟨g12, na12, nn12, nc12, ma12, mn12, mc12, z12, C12, rfl, rfl, HA12, HZ12⟩ := hcut
        rename World => we
        clear CA HCZ HKE HSI hz hLz z hv1 hv2 hn0 hk00 hm1 hm2 hnz hnz2 hk0n hk0z
        have HI3 := Lib.hid (HI2.out.next HA12.out.bel)
        have HK8 : Hid (Blk we g8 [.slice na8 nn8 nc8, .slice ma8 mn8 mc8]) := (HA8.out.blk.next HA10.out.bel).next HA12.out.bel
        have HT8 : Hid (TrO we (g + 3) na8 nn8 nc8 ma8 mn8 mc8 (L.take (k + 1))) := ((HA8.out.tr.next HA10.out.bel).next HA12.out.bel).mono HI.out.lt
        have HK10 : Hid (Blk we g10 [.slice na10 nn10 nc10, .slice ma10 mn10 mc10]) := HA10.out.blk.next HA12.out.bel
        have HT10 : Hid (TrO we (g + 3) na10 nn10 nc10 ma10 mn10 mc10 (L.drop j)) := (HA10.out.tr.next HA12.out.bel).mono HI1.out.lt
        have HK12 : Hid (Blk we g12 [.slice na12 nn12 nc12, .slice ma12 mn12 mc12]) := HA12.out.blk
        have HT12 : Hid (TrO we (g + 3) na12 nn12 nc12 ma12 mn12 mc12 C12) := HA12.out.tr.mono HI2.out.lt
        have HG8 : Hid (g + 3 ≤ g8) := Nat.le_trans HI.out.lt HA8.out.ge
        have HG10 : Hid (g + 3 ≤ g10) := Nat.le_trans HI1.out.lt HA10.out.ge
        have HG12 : Hid (g + 3 ≤ g12) := Nat.le_trans HI2.out.lt HA12.out.ge
        clear HA8 HA10 HA12 HI HI1 HI2
        go_wp2_with (go_at_call 9
                     refine (HN.out _ _).mono ?_
                     rintro e w ⟨rfl, rfl⟩)
        go_cut [13] from 19 to 80 (fun s13 w' => s13 = .int .i64 z12 ∧ Hid (OrW w2 w' g ⟨na8, nn8, nc8, ma8, mn8, mc8⟩ ⟨na10, nn10, nc10, ma10, mn10, mc10⟩ c (L.take (k + 1)) (L.drop j) C) ∧ Hid (Blk w' g12 [.slice na12 nn12 nc12, .slice ma12 mn12 mc12]) ∧ Hid (TrO w' (g + 3) na12 nn12 nc12 ma12 mn12 mc12 C12))
        case first =>
          have x0 := HK8.out.cell 0 _ rfl
          have x1 := HK8.out.cell 1 _ rfl
          have y0 := HK10.out.cell 0 _ rfl
          have y1 := HK10.out.cell 1 _ rfl
          have a0 := HI3.out.ba.cell 0 _ rfl
          have a1 := HI3.out.ba.cell 1 _ rfl
          have b0 := HI3.out.bb.cell 0 _ rfl
          have b1 := HI3.out.bb.cell 1 _ rfl
          have fa0 := HI3.out.ba.free 0 _ rfl
          have fa1 := HI3.out.ba.free 1 _ rfl
          have fb0 := HI3.out.bb.free 0 _ rfl
          have fb1 := HI3.out.bb.free 1 _ rfl
          have n1 : ¬ g = g10 := by have := HG10.out; omega
          have n2 : ¬ g + 1 = g8 := by have := HG8.out; omega
          have n3 : ¬ g10 = g := by have := HG10.out; omega
          have n4 : ¬ g8 = g + 1 := by have := HG8.out; omega
          go_wp2_with fail
          go_region
          all_goals
            go_wp2_with fail
            go_meet
            case rel =>
              first
                | exact ⟨rfl, ((HI3.out.putA (x := ⟨na8, nn8, nc8, ma8, mn8, mc8⟩) HT8.out).putB (x := ⟨na10, nn10, nc10, ma10, mn10, mc10⟩) (TrO.far2 (a := ⟨na10, nn10, nc10, ma10, mn10, mc10⟩) HT10.out (k := g) (by omega) _ _)).next (Below.refl _ _).drew, ((HK12.out.far2 (k := g) (by have := HG12.out; omega) _ _).far2 (k := g + 1) (by have := HG12.out; omega) _ _).drew, (TrO.far2 (a := ⟨na12, nn12, nc12, ma12, mn12, mc12⟩) (TrO.far2 (a := ⟨na12, nn12, nc12, ma12, mn12, mc12⟩) HT12.out (k := g) (by omega) _ _) (k := g + 1) (by omega) _ _).next (Below.refl _ _).drew⟩
                | exact ⟨rfl, ((HI3.out.putA (x := ⟨na8, nn8, nc8, ma8, mn8, mc8⟩) HT8.out).putB (x := ⟨na10, nn10, nc10, ma10, mn10, mc10⟩) (TrO.far2 (a := ⟨na10, nn10, nc10, ma10, mn10, mc10⟩) HT10.out (k := g) (by omega) _ _)), ((HK12.out.far2 (k := g) (by have := HG12.out; omega) _ _).far2 (k := g + 1) (by have := HG12.out; omega) _ _), (TrO.far2 (a := ⟨na12, nn12, nc12, ma12, mn12, mc12⟩) (TrO.far2 (a := ⟨na12, nn12, nc12, ma12, mn12, mc12⟩) HT12.out (k := g) (by omega) _ _) (k := g + 1) (by omega) _ _)⟩
                | exact ⟨rfl, ((HI3.out.putB (x := ⟨na10, nn10, nc10, ma10, mn10, mc10⟩) HT10.out).putA (x := ⟨na8, nn8, nc8, ma8, mn8, mc8⟩) (TrO.far2 (a := ⟨na8, nn8, nc8, ma8, mn8, mc8⟩) HT8.out (k := g + 1) (by omega) _ _)).next (Below.refl _ _).drew, ((HK12.out.far2 (k := g + 1) (by have := HG12.out; omega) _ _).far2 (k := g) (by have := HG12.out; omega) _ _).drew, (TrO.far2 (a := ⟨na12, nn12, nc12, ma12, mn12, mc12⟩) (TrO.far2 (a := ⟨na12, nn12, nc12, ma12, mn12, mc12⟩) HT12.out (k := g + 1) (by omega) _ _) (k := g) (by omega) _ _).next (Below.refl _ _).drew⟩
                | exact ⟨rfl, ((HI3.out.putB (x := ⟨na10, nn10, nc10, ma10, mn10, mc10⟩) HT10.out).putA (x := ⟨na8, nn8, nc8, ma8, mn8, mc8⟩) (TrO.far2 (a := ⟨na8, nn8, nc8, ma8, mn8, mc8⟩) HT8.out (k := g + 1) (by omega) _ _)), ((HK12.out.far2 (k := g + 1) (by have := HG12.out; omega) _ _).far2 (k := g) (by have := HG12.out; omega) _ _), (TrO.far2 (a := ⟨na12, nn12, nc12, ma12, mn12, mc12⟩) (TrO.far2 (a := ⟨na12, nn12, nc12, ma12, mn12, mc12⟩) HT12.out (k := g + 1) (by omega) _ _) (k := g) (by omega) _ _)⟩
        case rest =>
        have hn10 : n ≤ 10 := HNM.out
        obtain ⟨rfl, HI4, HK4, HT4⟩ := hcut
        rename World => wf
        clear HI3 HK8 HT8 HK10 HT10 HK12 HT12
        have k0 := HK4.out.cell 0 _ rfl
        have k1 := HK4.out.cell 1 _ rfl
        have c0 := HI4.out.bc.cell 0 _ rfl
        have c1 := HI4.out.bc.cell 1 _ rfl
        have f0 := HI4.out.bc.free 0 _ rfl
        have f1 := HI4.out.bc.free 1 _ rfl
        have HP := Lib.hid (HI4.out.putC (x := ⟨na12, nn12, nc12, ma12, mn12, mc12⟩) HT4.out)
        rcases HZ12.out with ⟨rfl, hs⟩ | ⟨rfl, rfl⟩
        · have HS := Lib.hid hs
          clear hs HZ12
          go_wp2_with (go_at_call 9
                       refine (HN.out _ _).mono ?_
                       rintro e w ⟨rfl, rfl⟩)
          go_roundg (n - (k + 1))
          case measure => omega
          case rel => exact ⟨k + 1, _, _, _, _, by go_num, by omega, by omega, by rw [show n - (k + 1) = j by have := HJ.out; omega]; exact HP.out, HS.out⟩
        · clear HZ12 HP
          go_wp2_with (go_at_call 9
                       refine (HN.out _ _).mono ?_
                       rintro e w ⟨rfl, rfl⟩)
          go_roundg (n - (k + 1))
          case measure => omega
          case rel => exact ⟨k + 1, _, _, _, _, by go_num, by omega, by omega, by rw [show n - (k + 1) = j by have := HJ.out; omega]; exact HI4.out, HSU.out⟩
      · obtain rfl : k = n := by omega
        have hinz : ¬ (k : Int) < (k : Int) := by omega
        have HTA : Hid (TrO wr (g + 3) a.na a.nn a.nc a.ma a.mn a.mc L) := by
          show TrO _ _ _ _ _ _ _ _ _
          have h := HI.out.ta
          rwa [List.take_of_length_le (by rw [HMV.out.llen]; exact Nat.le_refl _)] at h
        have HTBt : Hid (TrO wr (g + 3) b.na b.nn b.nc b.ma b.mn b.mc L) := by
          show TrO _ _ _ _ _ _ _ _ _
          have h := HI.out.tb
          rwa [Nat.sub_self, List.drop_zero] at h
        have HL10 : Hid (L.length ≤ 4398046511104) := by show _ ≤ _; have := HMV.out.llen; have := HNM.out; omega
        have HCM : Hid (c.mn = C.length) := HI.out.tc.form.2.1
        have HE1 := Lib.hid (eqTree_yes HTA.out HTBt.out HL10.out)
        have HBE : Hid (Below W.heap.size W wr) := HBW.out.trans (HI.out.bl.mono (by rw [← HG.out]; exact HBW.out.size))
        have a0 := HI.out.ba.cell 0 _ rfl
        have a1 := HI.out.ba.cell 1 _ rfl
        have b0 := HI.out.bb.cell 0 _ rfl
        have b1 := HI.out.bb.cell 1 _ rfl
        by_cases hc : c.mn < k
        · have hcz : (c.mn : Int) < (k : Int) := by omega
          go_wp2_with fail
          refine (HE1.out).mono ?_
          rintro e w5 ⟨rfl, hb5⟩
          have HI5 := Lib.hid (HI.out.next hb5)
          have HBE5 : Hid (Below W.heap.size W w5) := HBE.out.trans (hb5.mono HBE.out.size)
          have CW := Lib.hid (wakes16_any w5 (HTB.out w5 HI5.out.bl))
          have d1 := HI5.out.bc.cell 1 _ rfl
          have d1' : w5.cell? ⟨g + 1 + 1, 0 + 1, none⟩ = _ := d1
          clear hb5 a0 a1 b0 b1
          go_wp2_with fail
          refine (CW.out).mono ?_
          rintro e w6 ⟨rfl, hb6⟩
          have HBE6 : Hid (Below W.heap.size W w6) := HBE5.out.trans (hb6.mono HBE5.out.size)
          clear hb6
          go_wp2
          go_ret
          exact ⟨rfl, HBE6.out⟩
        · have hcz : ¬ (c.mn : Int) < (k : Int) := by omega
          have HCL : Hid (C = L) := asc_full HMV.out.asc HSU.out.asc HSU.out.sub (by have h1 := HSU.out.len HMV.out.asc; have h2 := HMV.out.llen; have h3 := HCM.out; omega)
          have HTC : Hid (TrO wr (g + 3) c.na c.nn c.nc c.ma c.mn c.mc L) := by show TrO _ _ _ _ _ _ _ _ _; rw [← HCL.out]; exact HI.out.tc
          go_wp2_with fail
          refine (HE1.out).mono ?_
          rintro e w5 ⟨rfl, hb5⟩
          have HI5 := Lib.hid (HI.out.next hb5)
          have HBE5 : Hid (Below W.heap.size W w5) := HBE.out.trans (hb5.mono HBE.out.size)
          have HE2 := Lib.hid (eqTree_yes (HTA.out.next hb5) (HTC.out.next hb5) HL10.out)
          have a0 := HI5.out.ba.cell 0 _ rfl
          have a1 := HI5.out.ba.cell 1 _ rfl
          have d0 := HI5.out.bc.cell 0 _ rfl
          have d1 := HI5.out.bc.cell 1 _ rfl
          have d1' : w5.cell? ⟨g + 1 + 1, 0 + 1, none⟩ = _ := d1
          clear hb5 b0 b1
          go_wp2_with fail
          refine (HE2.out).mono ?_
          rintro e w6 ⟨rfl, hb6⟩
          have HI6 := Lib.hid (HI5.out.next hb6)
          have HBE6 : Hid (Below W.heap.size W w6) := HBE5.out.trans (hb6.mono HBE5.out.size)
          have CW := Lib.hid (wakes16_any w6 (HTB.out w6 HI6.out.bl))
          clear hb6 a0 a1 d0 d1 d1'
          go_wp2_with fail
          refine (CW.out).mono ?_
          rintro e w7 ⟨rfl, hb7⟩
          have HBE7 : Hid (Below W.heap.size W w7) := HBE6.out.trans (hb7.mono HBE6.out.size)
          clear hb7
          go_wp2
          go_ret
          exact ⟨rfl, HBE7.out⟩
end Go.Proofs.YtjlbpmmckgjajaaDoor
