/- Joined: OPa. -/
import Derived.Test.YtfhppfbmnnkikaaDoorZF

/- The page's Take, way by way. -/
namespace Go.Proofs.YtfhppfbmnnkikaaDoor
open Go.RowKit Go.Lib
set_option linter.unusedVariables false

set_option maxHeartbeats 4000000 in
set_option maxRecDepth 100000 in
theorem refTake_P1 (a : Option Addr) (bs : List Int) (n cap : Nat) (w : World) (hn : n = bs.length) (hr : RowK .u8 w a bs) (hb : IsB bs) (hcap : bs.length ≤ cap) (hlen : bs.length ≤ 140737488355328) {t r : Int} {k0 m1 : Nat} {x : Int} (h0 : St.tkSt bs = (t, r, k0, x)) (e1 : k0 = m1) (hx : x ≠ 0) : Calls Tryd.prog 54 #[.slice a n cap] w (TakeO (zR, 0, 0, x) w) := by
  obtain ⟨g0, hg0⟩ : ∃ g, w.heap.size = g := ⟨_, rfl⟩
  obtain ⟨h, hh⟩ : ∃ h, g0 + 1 = h := ⟨_, rfl⟩
  have HH : Hid (w.heap.size + 1 = h) := (by rw [hg0, hh] : w.heap.size + 1 = h)
  have HG : Hid (w.heap.size = g0) := hg0
  have HROW := Lib.hid (fun (W : World) (hb : Below w.heap.size w W) => hr.below hb (Nat.le_refl _))
  have htb := tk_build
  have hb1 := op_build1
  have hb0 := op_build0
  have hx' : (x == 0) = false := by simpa using hx
  have hxn : (x != 0) = true := by simpa using hx
  have C0 := Lib.hid (tstamp_zero h a bs n cap ((w.alloc (.cells #[.int .i64 0, .int .i64 0, .int .i64 0, .slice none 0 0, .int .i64 0, .int .i64 0, .int .i64 0, .int .i64 0, .int .i64 0, .string ⟨#[]⟩, .int .i64 0, .int .i64 0] 27)).alloc (.cells #[.slice a n cap, .int .i64 0, .int .i64 0] 85)) (tkr_new w a n cap _ HH.out) hn (HROW.out _ (St.below2 w _ _)) hb hcap hlen h0)
  rw [e1] at C0
  clear hn hr hb hcap hlen h0 e1
  go_enter Tryd.func54, Tryd.ntmps54
  go_wp2_with fail
  refine (C0.out).mono ?_
  rintro e w1 ⟨rfl, hT, hg⟩
  obtain ⟨b, hbb⟩ : ∃ b, w1.heap.size = b := ⟨_, rfl⟩
  have HP1 := Lib.hid (PI.first (t := t) (r := r) HH.out hbb hT hg)
  have ne1 : h ≠ b := by have := HP1.out.hb; omega
  have ne2 : g0 ≠ h := by omega
  have ne3 : g0 ≠ b := by have := HP1.out.hb; omega
  have ne1' := Ne.symm ne1
  have ne2' := Ne.symm ne2
  have ne3' := Ne.symm ne3
  have tc2 := HP1.out.t.cell 2 _ rfl
  have tc1 := HP1.out.t.cell 1 _ rfl
  have hlt := hT.lt
  clear hT hg
  go_wp2_with fail
  generalize w1.alloc (.cells #[.int .i64 t, .int .i64 r, .int .i64 0, .slice none 0 0, .int .i64 0, .int .i64 0, .int .i64 0, .int .i64 0, .int .i64 0, .string ⟨#[]⟩, .int .i64 0, .int .i64 0] 27) = W1 at *
  clear hlt hbb hg0 hh
  refine (tnum_off h a n cap _ x _ HP1.out.t hx).mono ?_
  rintro e w2 ⟨rfl, hT, hg⟩
  have HP2 := Lib.hid (HP1.out.grown hg hT)
  clear hT hg
  clear tc1 tc2
  have tc1 := HP2.out.t.cell 1 _ rfl
  have tf1 := HP2.out.t.free 1 _ rfl
  have tc2 := HP2.out.t.cell 2 _ rfl
  have tf2 := HP2.out.t.free 2 _ rfl
  have oc4 := HP2.out.o.cell 4 _ rfl
  have of4 := HP2.out.o.free 4 _ rfl
  have HP3 := Lib.hid (HP2.out.put 4 (.int .i64 0) (R' := (⟨t, r, [], 0, 0, 0, 0, 0, ⟨#[]⟩, 0, 0⟩ : OpR)) rfl rfl)
  go_wp2_with fail
  refine (tstamp_off h a n cap _ x _ HP3.out.t hx).mono ?_
  rintro e w4 ⟨rfl, hT, hg⟩
  have HP4 := Lib.hid (HP3.out.grown hg hT)
  clear hT hg
  clear tc1 tf1 tc2 tf2 oc4 of4
  have tc2 := HP4.out.t.cell 2 _ rfl
  have tf2 := HP4.out.t.free 2 _ rfl
  have oc4 := HP4.out.o.cell 4 _ rfl
  have of4 := HP4.out.o.free 4 _ rfl
  have oc5 := HP4.out.o.cell 5 _ rfl
  have of5 := HP4.out.o.free 5 _ rfl
  have oc6 := HP4.out.o.cell 6 _ rfl
  have of6 := HP4.out.o.free 6 _ rfl
  have HP5 := Lib.hid (HP4.out.put2 5 6 (.int .i64 0) (.int .i64 0) (R' := (⟨t, r, [], 0, 0, 0, 0, 0, ⟨#[]⟩, 0, 0⟩ : OpR)) rfl rfl)
  go_wp2_with fail
  refine (tnum_off h a n cap _ x _ HP5.out.t hx).mono ?_
  rintro e w6 ⟨rfl, hT, hg⟩
  have HP6 := Lib.hid (HP5.out.grown hg hT)
  clear hT hg
  clear tc2 tf2 oc4 of4 oc5 of5 oc6 of6
  have tc2 := HP6.out.t.cell 2 _ rfl
  have tf2 := HP6.out.t.free 2 _ rfl
  have oc10 := HP6.out.o.cell 10 _ rfl
  have of10 := HP6.out.o.free 10 _ rfl
  have HP7 := Lib.hid (HP6.out.put 10 (.int .i64 0) (R' := (⟨t, r, [], 0, 0, 0, 0, 0, ⟨#[]⟩, 0, 0⟩ : OpR)) rfl rfl)
  go_wp2_with fail
  refine (tnum_off h a n cap _ x _ HP7.out.t hx).mono ?_
  rintro e w8 ⟨rfl, hT, hg⟩
  have HP8 := Lib.hid (HP7.out.grown hg hT)
  clear hT hg
  clear tc2 tf2 oc10 of10
  have tc1 := HP8.out.t.cell 1 _ rfl
  have tf1 := HP8.out.t.free 1 _ rfl
  have tc2 := HP8.out.t.cell 2 _ rfl
  have tf2 := HP8.out.t.free 2 _ rfl
  have oc11 := HP8.out.o.cell 11 _ rfl
  have of11 := HP8.out.o.free 11 _ rfl
  have HP9 := Lib.hid (HP8.out.put 11 (.int .i64 (-1)) (R' := (⟨t, r, [], 0, 0, 0, 0, 0, ⟨#[]⟩, 0, (-1)⟩ : OpR)) rfl rfl)
  go_wp2_with fail
  generalize (w8.setCell ⟨b, 11, none⟩ (.int .i64 (-1))) = WZ at *
  clear tc1 tf1 tc2 tf2 oc11 of11
  have tc2 := HP9.out.t.cell 2 _ rfl
  have tf2 := HP9.out.t.free 2 _ rfl
  have hSx : WZ.drew.cell? ⟨h, 2, none⟩ = some (.int .i64 x) := tc2
  have HZ0 : Hid (Blk WZ g0 (zR.cells 0 (.slice none 0 0))) := HG.out ▸ HP9.out.rz
  have zc0 := HZ0.out.cell 0 _ rfl
  have zf0 := HZ0.out.free 0 _ rfl
  have zc1 := HZ0.out.cell 1 _ rfl
  have zf1 := HZ0.out.free 1 _ rfl
  have zc2 := HZ0.out.cell 2 _ rfl
  have zf2 := HZ0.out.free 2 _ rfl
  have zc3 := HZ0.out.cell 3 _ rfl
  have zf3 := HZ0.out.free 3 _ rfl
  have zc4 := HZ0.out.cell 4 _ rfl
  have zf4 := HZ0.out.free 4 _ rfl
  have zc5 := HZ0.out.cell 5 _ rfl
  have zf5 := HZ0.out.free 5 _ rfl
  have zc6 := HZ0.out.cell 6 _ rfl
  have zf6 := HZ0.out.free 6 _ rfl
  have zc7 := HZ0.out.cell 7 _ rfl
  have zf7 := HZ0.out.free 7 _ rfl
  have zc8 := HZ0.out.cell 8 _ rfl
  have zf8 := HZ0.out.free 8 _ rfl
  have zc9 := HZ0.out.cell 9 _ rfl
  have zf9 := HZ0.out.free 9 _ rfl
  have zc10 := HZ0.out.cell 10 _ rfl
  have zf10 := HZ0.out.free 10 _ rfl
  have zc11 := HZ0.out.cell 11 _ rfl
  have zf11 := HZ0.out.free 11 _ rfl
  go_region_held3 (fun w' => w'.cell? ⟨h, 2, none⟩ = some (.int .i64 x)) (first | with_reducible assumption | with_reducible exact far12 ne2 (by with_reducible assumption) _ _ _ _ _ _ _ _ _ _ _ _ | with_reducible exact far12d ne2 (by with_reducible assumption) _ _ _ _ _ _ _ _ _ _ _ _) (fail)
  go_wp2
  have HZ := ((((((((((((HZ0.out.set 0 (.int .i64 0)).set 1 (.int .i64 0)).set 2 (.int .i64 0)).set 3 (.slice none 0 0)).set 4 (.int .i64 0)).set 5 (.int .i64 0)).set 6 (.int .i64 0)).set 7 (.int .i64 0)).set 8 (.int .i64 0)).set 9 (.string ⟨#[]⟩)).set 10 (.int .i64 0)).set 11 (.int .i64 0))
  have z0 := HZ.cell 0 _ rfl
  have z1 := HZ.cell 1 _ rfl
  have z2 := HZ.cell 2 _ rfl
  have z3 := HZ.cell 3 _ rfl
  have z4 := HZ.cell 4 _ rfl
  have z5 := HZ.cell 5 _ rfl
  have z6 := HZ.cell 6 _ rfl
  have z7 := HZ.cell 7 _ rfl
  have z8 := HZ.cell 8 _ rfl
  have z9 := HZ.cell 9 _ rfl
  have z10 := HZ.cell 10 _ rfl
  have z11 := HZ.cell 11 _ rfl
  refine bodyPost_ret (v := .tuple #[.agg #[.int .i64 0, .int .i64 0, .int .i64 0, .slice none 0 0, .int .i64 0, .int .i64 0, .int .i64 0, .int .i64 0, .int .i64 0, .string ⟨#[]⟩, .int .i64 0, .int .i64 0], .int .i64 0, .int .i64 x]) (by simp [results, Tryd.results54, go_sem, z0, z1, z2, z3, z4, z5, z6, z7, z8, z9, z10, z11]) rfl ?_
  exact ⟨none, 0, 0, rfl, OwnK.nil _ _ _ _, ((((((((((((HP9.out.bel.setCell (p := ⟨g0, 0, none⟩) (Nat.le_of_eq HG.out) _).setCell (p := ⟨g0, 1, none⟩) (Nat.le_of_eq HG.out) _).setCell (p := ⟨g0, 2, none⟩) (Nat.le_of_eq HG.out) _).setCell (p := ⟨g0, 3, none⟩) (Nat.le_of_eq HG.out) _).setCell (p := ⟨g0, 4, none⟩) (Nat.le_of_eq HG.out) _).setCell (p := ⟨g0, 5, none⟩) (Nat.le_of_eq HG.out) _).setCell (p := ⟨g0, 6, none⟩) (Nat.le_of_eq HG.out) _).setCell (p := ⟨g0, 7, none⟩) (Nat.le_of_eq HG.out) _).setCell (p := ⟨g0, 8, none⟩) (Nat.le_of_eq HG.out) _).setCell (p := ⟨g0, 9, none⟩) (Nat.le_of_eq HG.out) _).setCell (p := ⟨g0, 10, none⟩) (Nat.le_of_eq HG.out) _).setCell (p := ⟨g0, 11, none⟩) (Nat.le_of_eq HG.out) _).drew⟩

set_option maxHeartbeats 4000000 in
set_option maxRecDepth 100000 in
theorem refTake_P2 (a : Option Addr) (bs : List Int) (n cap : Nat) (w : World) (hn : n = bs.length) (hr : RowK .u8 w a bs) (hb : IsB bs) (hcap : bs.length ≤ cap) (hlen : bs.length ≤ 140737488355328) {t r : Int} {ds : List Int} {k0 m1 k1 m2 : Nat} {x : Int} (h0 : St.tkSt bs = (t, r, k0, 0)) (e1 : k0 = m1) (b1 : m1 ≤ bs.length) (h1 : Hv.tkV (bs.drop m1) = (ds, k1, x)) (e2 : m1 + k1 = m2) (hx : x ≠ 0) : Calls Tryd.prog 54 #[.slice a n cap] w (TakeO (zR, 0, 0, x) w) := by
  obtain ⟨g0, hg0⟩ : ∃ g, w.heap.size = g := ⟨_, rfl⟩
  obtain ⟨h, hh⟩ : ∃ h, g0 + 1 = h := ⟨_, rfl⟩
  have HH : Hid (w.heap.size + 1 = h) := (by rw [hg0, hh] : w.heap.size + 1 = h)
  have HG : Hid (w.heap.size = g0) := hg0
  have HROW := Lib.hid (fun (W : World) (hb : Below w.heap.size w W) => hr.below hb (Nat.le_refl _))
  have htb := tk_build
  have hb1 := op_build1
  have hb0 := op_build0
  have hx' : (x == 0) = false := by simpa using hx
  have hxn : (x != 0) = true := by simpa using hx
  have C0 := Lib.hid (tstamp_zero h a bs n cap ((w.alloc (.cells #[.int .i64 0, .int .i64 0, .int .i64 0, .slice none 0 0, .int .i64 0, .int .i64 0, .int .i64 0, .int .i64 0, .int .i64 0, .string ⟨#[]⟩, .int .i64 0, .int .i64 0] 27)).alloc (.cells #[.slice a n cap, .int .i64 0, .int .i64 0] 85)) (tkr_new w a n cap _ HH.out) hn (HROW.out _ (St.below2 w _ _)) hb hcap hlen h0)
  rw [e1] at C0
  have hsl1 := fun W => slice_l W a n cap m1 (m1 : Int) rfl (by rw [hn]; exact b1)
  have C1 := Lib.hid (fun (W : World) (hB : Below w.heap.size w W) => Hv.refTake_is (partA a m1 cap) (bs.drop m1) (n - m1) (cap - m1) W (by rw [List.length_drop, hn]) ((HROW.out W hB).rest m1 cap hcap) (hb.drop m1) (by rw [List.length_drop]; omega) (by rw [List.length_drop]; omega) h1)
  have hz2 : (m1 : Int) + (k1 : Int) = (m2 : Int) := by omega
  have hy2 : (m2 : Int) ≤ 140737488355328 := by have := tkV_k (bs.drop m1) (hb.drop m1); rw [h1, List.length_drop] at this; simp only at this; omega
  clear hn hr hb hcap hlen h0 e1 h1 e2 b1
  go_enter Tryd.func54, Tryd.ntmps54
  go_wp2_with fail
  refine (C0.out).mono ?_
  rintro e w1 ⟨rfl, hT, hg⟩
  obtain ⟨b, hbb⟩ : ∃ b, w1.heap.size = b := ⟨_, rfl⟩
  have HP1 := Lib.hid (PI.first (t := t) (r := r) HH.out hbb hT hg)
  have ne1 : h ≠ b := by have := HP1.out.hb; omega
  have ne2 : g0 ≠ h := by omega
  have ne3 : g0 ≠ b := by have := HP1.out.hb; omega
  have ne1' := Ne.symm ne1
  have ne2' := Ne.symm ne2
  have ne3' := Ne.symm ne3
  have tc2 := HP1.out.t.cell 2 _ rfl
  have tc1 := HP1.out.t.cell 1 _ rfl
  have hlt := hT.lt
  clear hT hg
  go_wp2_with fail
  generalize w1.alloc (.cells #[.int .i64 t, .int .i64 r, .int .i64 0, .slice none 0 0, .int .i64 0, .int .i64 0, .int .i64 0, .int .i64 0, .int .i64 0, .string ⟨#[]⟩, .int .i64 0, .int .i64 0] 27) = W1 at *
  clear hlt hbb hg0 hh
  refine (C1.out _ HP1.out.bel).mono ?_
  rintro e w2 ⟨v2, rfl, ho, hbl⟩
  obtain ⟨a2, n2, c2, rfl, hn2, hr2, hc2⟩ := ho.form'
  have HN2 := Lib.hid hn2
  have HO2 := Lib.hid (ho.mono (show b + 1 ≤ _ from HP1.out.size))
  have HP3 := Lib.hid (HP1.out.next hbl)
  clear ho hbl hn2 hr2 hc2
  clear tc1 tc2
  have tc1 := HP3.out.t.cell 1 _ rfl
  have tf1 := HP3.out.t.free 1 _ rfl
  have tc2 := HP3.out.t.cell 2 _ rfl
  have tf2 := HP3.out.t.free 2 _ rfl
  have oc3 := HP3.out.o.cell 3 _ rfl
  have of3 := HP3.out.o.free 3 _ rfl
  have HP4 := Lib.hid (((HP3.out.putD HO2.out).setT (m2 : Int) x))
  go_wp2_with fail
  refine (tnum_off h a n cap _ x _ HP4.out.t hx).mono ?_
  rintro e w5 ⟨rfl, hT, hg⟩
  have HP5 := Lib.hid (HP4.out.grown hg hT)
  clear hT hg
  clear tc1 tf1 tc2 tf2 oc3 of3
  have tc1 := HP5.out.t.cell 1 _ rfl
  have tf1 := HP5.out.t.free 1 _ rfl
  have tc2 := HP5.out.t.cell 2 _ rfl
  have tf2 := HP5.out.t.free 2 _ rfl
  have oc4 := HP5.out.o.cell 4 _ rfl
  have of4 := HP5.out.o.free 4 _ rfl
  have HP6 := Lib.hid (HP5.out.put 4 (.int .i64 0) (R' := (⟨t, r, ds, 0, 0, 0, 0, 0, ⟨#[]⟩, 0, 0⟩ : OpR)) rfl rfl)
  go_wp2_with fail
  refine (tstamp_off h a n cap _ x _ HP6.out.t hx).mono ?_
  rintro e w7 ⟨rfl, hT, hg⟩
  have HP7 := Lib.hid (HP6.out.grown hg hT)
  clear hT hg
  clear tc1 tf1 tc2 tf2 oc4 of4
  have tc2 := HP7.out.t.cell 2 _ rfl
  have tf2 := HP7.out.t.free 2 _ rfl
  have oc4 := HP7.out.o.cell 4 _ rfl
  have of4 := HP7.out.o.free 4 _ rfl
  have oc5 := HP7.out.o.cell 5 _ rfl
  have of5 := HP7.out.o.free 5 _ rfl
  have oc6 := HP7.out.o.cell 6 _ rfl
  have of6 := HP7.out.o.free 6 _ rfl
  have HP8 := Lib.hid (HP7.out.put2 5 6 (.int .i64 0) (.int .i64 0) (R' := (⟨t, r, ds, 0, 0, 0, 0, 0, ⟨#[]⟩, 0, 0⟩ : OpR)) rfl rfl)
  go_wp2_with fail
  refine (tnum_off h a n cap _ x _ HP8.out.t hx).mono ?_
  rintro e w9 ⟨rfl, hT, hg⟩
  have HP9 := Lib.hid (HP8.out.grown hg hT)
  clear hT hg
  clear tc2 tf2 oc4 of4 oc5 of5 oc6 of6
  have tc2 := HP9.out.t.cell 2 _ rfl
  have tf2 := HP9.out.t.free 2 _ rfl
  have oc10 := HP9.out.o.cell 10 _ rfl
  have of10 := HP9.out.o.free 10 _ rfl
  have HP10 := Lib.hid (HP9.out.put 10 (.int .i64 0) (R' := (⟨t, r, ds, 0, 0, 0, 0, 0, ⟨#[]⟩, 0, 0⟩ : OpR)) rfl rfl)
  go_wp2_with fail
  refine (tnum_off h a n cap _ x _ HP10.out.t hx).mono ?_
  rintro e w11 ⟨rfl, hT, hg⟩
  have HP11 := Lib.hid (HP10.out.grown hg hT)
  clear hT hg
  clear tc2 tf2 oc10 of10
  have tc1 := HP11.out.t.cell 1 _ rfl
  have tf1 := HP11.out.t.free 1 _ rfl
  have tc2 := HP11.out.t.cell 2 _ rfl
  have tf2 := HP11.out.t.free 2 _ rfl
  have oc11 := HP11.out.o.cell 11 _ rfl
  have of11 := HP11.out.o.free 11 _ rfl
  have HP12 := Lib.hid (HP11.out.put 11 (.int .i64 (-1)) (R' := (⟨t, r, ds, 0, 0, 0, 0, 0, ⟨#[]⟩, 0, (-1)⟩ : OpR)) rfl rfl)
  go_wp2_with fail
  generalize (w11.setCell ⟨b, 11, none⟩ (.int .i64 (-1))) = WZ at *
  clear tc1 tf1 tc2 tf2 oc11 of11
  have tc2 := HP12.out.t.cell 2 _ rfl
  have tf2 := HP12.out.t.free 2 _ rfl
  have hSx : WZ.drew.cell? ⟨h, 2, none⟩ = some (.int .i64 x) := tc2
  have HZ0 : Hid (Blk WZ g0 (zR.cells 0 (.slice none 0 0))) := HG.out ▸ HP12.out.rz
  have zc0 := HZ0.out.cell 0 _ rfl
  have zf0 := HZ0.out.free 0 _ rfl
  have zc1 := HZ0.out.cell 1 _ rfl
  have zf1 := HZ0.out.free 1 _ rfl
  have zc2 := HZ0.out.cell 2 _ rfl
  have zf2 := HZ0.out.free 2 _ rfl
  have zc3 := HZ0.out.cell 3 _ rfl
  have zf3 := HZ0.out.free 3 _ rfl
  have zc4 := HZ0.out.cell 4 _ rfl
  have zf4 := HZ0.out.free 4 _ rfl
  have zc5 := HZ0.out.cell 5 _ rfl
  have zf5 := HZ0.out.free 5 _ rfl
  have zc6 := HZ0.out.cell 6 _ rfl
  have zf6 := HZ0.out.free 6 _ rfl
  have zc7 := HZ0.out.cell 7 _ rfl
  have zf7 := HZ0.out.free 7 _ rfl
  have zc8 := HZ0.out.cell 8 _ rfl
  have zf8 := HZ0.out.free 8 _ rfl
  have zc9 := HZ0.out.cell 9 _ rfl
  have zf9 := HZ0.out.free 9 _ rfl
  have zc10 := HZ0.out.cell 10 _ rfl
  have zf10 := HZ0.out.free 10 _ rfl
  have zc11 := HZ0.out.cell 11 _ rfl
  have zf11 := HZ0.out.free 11 _ rfl
  go_region_held3 (fun w' => w'.cell? ⟨h, 2, none⟩ = some (.int .i64 x)) (first | with_reducible assumption | with_reducible exact far12 ne2 (by with_reducible assumption) _ _ _ _ _ _ _ _ _ _ _ _ | with_reducible exact far12d ne2 (by with_reducible assumption) _ _ _ _ _ _ _ _ _ _ _ _) (fail)
  go_wp2
  have HZ := ((((((((((((HZ0.out.set 0 (.int .i64 0)).set 1 (.int .i64 0)).set 2 (.int .i64 0)).set 3 (.slice none 0 0)).set 4 (.int .i64 0)).set 5 (.int .i64 0)).set 6 (.int .i64 0)).set 7 (.int .i64 0)).set 8 (.int .i64 0)).set 9 (.string ⟨#[]⟩)).set 10 (.int .i64 0)).set 11 (.int .i64 0))
  have z0 := HZ.cell 0 _ rfl
  have z1 := HZ.cell 1 _ rfl
  have z2 := HZ.cell 2 _ rfl
  have z3 := HZ.cell 3 _ rfl
  have z4 := HZ.cell 4 _ rfl
  have z5 := HZ.cell 5 _ rfl
  have z6 := HZ.cell 6 _ rfl
  have z7 := HZ.cell 7 _ rfl
  have z8 := HZ.cell 8 _ rfl
  have z9 := HZ.cell 9 _ rfl
  have z10 := HZ.cell 10 _ rfl
  have z11 := HZ.cell 11 _ rfl
  refine bodyPost_ret (v := .tuple #[.agg #[.int .i64 0, .int .i64 0, .int .i64 0, .slice none 0 0, .int .i64 0, .int .i64 0, .int .i64 0, .int .i64 0, .int .i64 0, .string ⟨#[]⟩, .int .i64 0, .int .i64 0], .int .i64 0, .int .i64 x]) (by simp [results, Tryd.results54, go_sem, z0, z1, z2, z3, z4, z5, z6, z7, z8, z9, z10, z11]) rfl ?_
  exact ⟨none, 0, 0, rfl, OwnK.nil _ _ _ _, ((((((((((((HP12.out.bel.setCell (p := ⟨g0, 0, none⟩) (Nat.le_of_eq HG.out) _).setCell (p := ⟨g0, 1, none⟩) (Nat.le_of_eq HG.out) _).setCell (p := ⟨g0, 2, none⟩) (Nat.le_of_eq HG.out) _).setCell (p := ⟨g0, 3, none⟩) (Nat.le_of_eq HG.out) _).setCell (p := ⟨g0, 4, none⟩) (Nat.le_of_eq HG.out) _).setCell (p := ⟨g0, 5, none⟩) (Nat.le_of_eq HG.out) _).setCell (p := ⟨g0, 6, none⟩) (Nat.le_of_eq HG.out) _).setCell (p := ⟨g0, 7, none⟩) (Nat.le_of_eq HG.out) _).setCell (p := ⟨g0, 8, none⟩) (Nat.le_of_eq HG.out) _).setCell (p := ⟨g0, 9, none⟩) (Nat.le_of_eq HG.out) _).setCell (p := ⟨g0, 10, none⟩) (Nat.le_of_eq HG.out) _).setCell (p := ⟨g0, 11, none⟩) (Nat.le_of_eq HG.out) _).drew⟩

set_option maxHeartbeats 4000000 in
set_option maxRecDepth 100000 in
theorem refTake_P3 (a : Option Addr) (bs : List Int) (n cap : Nat) (w : World) (hn : n = bs.length) (hr : RowK .u8 w a bs) (hb : IsB bs) (hcap : bs.length ≤ cap) (hlen : bs.length ≤ 140737488355328) {t r : Int} {ds : List Int} {k0 m1 k1 m2 k2 m3 : Nat} {x : Int} (h0 : St.tkSt bs = (t, r, k0, 0)) (e1 : k0 = m1) (b1 : m1 ≤ bs.length) (h1 : Hv.tkV (bs.drop m1) = (ds, k1, 0)) (e2 : m1 + k1 = m2) (b2 : m2 ≤ bs.length) (h2 : tkN (bs.drop m2) = (0, k2, x)) (e3 : m2 + k2 = m3) (hx : x ≠ 0) : Calls Tryd.prog 54 #[.slice a n cap] w (TakeO (zR, 0, 0, x) w) := by
  obtain ⟨g0, hg0⟩ : ∃ g, w.heap.size = g := ⟨_, rfl⟩
  obtain ⟨h, hh⟩ : ∃ h, g0 + 1 = h := ⟨_, rfl⟩
  have HH : Hid (w.heap.size + 1 = h) := (by rw [hg0, hh] : w.heap.size + 1 = h)
  have HG : Hid (w.heap.size = g0) := hg0
  have HROW := Lib.hid (fun (W : World) (hb : Below w.heap.size w W) => hr.below hb (Nat.le_refl _))
  have htb := tk_build
  have hb1 := op_build1
  have hb0 := op_build0
  have hx' : (x == 0) = false := by simpa using hx
  have hxn : (x != 0) = true := by simpa using hx
  have C0 := Lib.hid (tstamp_zero h a bs n cap ((w.alloc (.cells #[.int .i64 0, .int .i64 0, .int .i64 0, .slice none 0 0, .int .i64 0, .int .i64 0, .int .i64 0, .int .i64 0, .int .i64 0, .string ⟨#[]⟩, .int .i64 0, .int .i64 0] 27)).alloc (.cells #[.slice a n cap, .int .i64 0, .int .i64 0] 85)) (tkr_new w a n cap _ HH.out) hn (HROW.out _ (St.below2 w _ _)) hb hcap hlen h0)
  rw [e1] at C0
  have hsl1 := fun W => slice_l W a n cap m1 (m1 : Int) rfl (by rw [hn]; exact b1)
  have C1 := Lib.hid (fun (W : World) (hB : Below w.heap.size w W) => Hv.refTake_is (partA a m1 cap) (bs.drop m1) (n - m1) (cap - m1) W (by rw [List.length_drop, hn]) ((HROW.out W hB).rest m1 cap hcap) (hb.drop m1) (by rw [List.length_drop]; omega) (by rw [List.length_drop]; omega) h1)
  have hz2 : (m1 : Int) + (k1 : Int) = (m2 : Int) := by omega
  have hy2 : (m2 : Int) ≤ 140737488355328 := by have := tkV_k (bs.drop m1) (hb.drop m1); rw [h1, List.length_drop] at this; simp only at this; omega
  have C2 := Lib.hid (fun (W : World) (hB : Below w.heap.size w W) (hT : Blk W h (tkrV a n cap (m2 : Int) 0)) => tnum_is h a bs n cap m2 W hT hn (HROW.out W hB) hb hcap hlen b2 h2 e3)
  clear hn hr hb hcap hlen h0 e1 h1 e2 h2 e3 b1 b2
  go_enter Tryd.func54, Tryd.ntmps54
  go_wp2_with fail
  refine (C0.out).mono ?_
  rintro e w1 ⟨rfl, hT, hg⟩
  obtain ⟨b, hbb⟩ : ∃ b, w1.heap.size = b := ⟨_, rfl⟩
  have HP1 := Lib.hid (PI.first (t := t) (r := r) HH.out hbb hT hg)
  have ne1 : h ≠ b := by have := HP1.out.hb; omega
  have ne2 : g0 ≠ h := by omega
  have ne3 : g0 ≠ b := by have := HP1.out.hb; omega
  have ne1' := Ne.symm ne1
  have ne2' := Ne.symm ne2
  have ne3' := Ne.symm ne3
  have tc2 := HP1.out.t.cell 2 _ rfl
  have tc1 := HP1.out.t.cell 1 _ rfl
  have hlt := hT.lt
  clear hT hg
  go_wp2_with fail
  generalize w1.alloc (.cells #[.int .i64 t, .int .i64 r, .int .i64 0, .slice none 0 0, .int .i64 0, .int .i64 0, .int .i64 0, .int .i64 0, .int .i64 0, .string ⟨#[]⟩, .int .i64 0, .int .i64 0] 27) = W1 at *
  clear hlt hbb hg0 hh
  refine (C1.out _ HP1.out.bel).mono ?_
  rintro e w2 ⟨v2, rfl, ho, hbl⟩
  obtain ⟨a2, n2, c2, rfl, hn2, hr2, hc2⟩ := ho.form'
  have HN2 := Lib.hid hn2
  have HO2 := Lib.hid (ho.mono (show b + 1 ≤ _ from HP1.out.size))
  have HP3 := Lib.hid (HP1.out.next hbl)
  clear ho hbl hn2 hr2 hc2
  clear tc1 tc2
  have tc1 := HP3.out.t.cell 1 _ rfl
  have tf1 := HP3.out.t.free 1 _ rfl
  have tc2 := HP3.out.t.cell 2 _ rfl
  have tf2 := HP3.out.t.free 2 _ rfl
  have oc3 := HP3.out.o.cell 3 _ rfl
  have of3 := HP3.out.o.free 3 _ rfl
  have HP4 := Lib.hid (((HP3.out.putD HO2.out).setT (m2 : Int) 0))
  go_wp2_with fail
  refine (C2.out _ HP4.out.bel HP4.out.t).mono ?_
  rintro e w5 ⟨rfl, hT, hg⟩
  have HP5 := Lib.hid (HP4.out.grown hg hT)
  clear hT hg
  clear tc1 tf1 tc2 tf2 oc3 of3
  have tc1 := HP5.out.t.cell 1 _ rfl
  have tf1 := HP5.out.t.free 1 _ rfl
  have tc2 := HP5.out.t.cell 2 _ rfl
  have tf2 := HP5.out.t.free 2 _ rfl
  have oc4 := HP5.out.o.cell 4 _ rfl
  have of4 := HP5.out.o.free 4 _ rfl
  have HP6 := Lib.hid (HP5.out.put 4 (.int .i64 0) (R' := (⟨t, r, ds, 0, 0, 0, 0, 0, ⟨#[]⟩, 0, 0⟩ : OpR)) rfl rfl)
  go_wp2_with fail
  refine (tstamp_off h a n cap _ x _ HP6.out.t hx).mono ?_
  rintro e w7 ⟨rfl, hT, hg⟩
  have HP7 := Lib.hid (HP6.out.grown hg hT)
  clear hT hg
  clear tc1 tf1 tc2 tf2 oc4 of4
  have tc2 := HP7.out.t.cell 2 _ rfl
  have tf2 := HP7.out.t.free 2 _ rfl
  have oc4 := HP7.out.o.cell 4 _ rfl
  have of4 := HP7.out.o.free 4 _ rfl
  have oc5 := HP7.out.o.cell 5 _ rfl
  have of5 := HP7.out.o.free 5 _ rfl
  have oc6 := HP7.out.o.cell 6 _ rfl
  have of6 := HP7.out.o.free 6 _ rfl
  have HP8 := Lib.hid (HP7.out.put2 5 6 (.int .i64 0) (.int .i64 0) (R' := (⟨t, r, ds, 0, 0, 0, 0, 0, ⟨#[]⟩, 0, 0⟩ : OpR)) rfl rfl)
  go_wp2_with fail
  refine (tnum_off h a n cap _ x _ HP8.out.t hx).mono ?_
  rintro e w9 ⟨rfl, hT, hg⟩
  have HP9 := Lib.hid (HP8.out.grown hg hT)
  clear hT hg
  clear tc2 tf2 oc4 of4 oc5 of5 oc6 of6
  have tc2 := HP9.out.t.cell 2 _ rfl
  have tf2 := HP9.out.t.free 2 _ rfl
  have oc10 := HP9.out.o.cell 10 _ rfl
  have of10 := HP9.out.o.free 10 _ rfl
  have HP10 := Lib.hid (HP9.out.put 10 (.int .i64 0) (R' := (⟨t, r, ds, 0, 0, 0, 0, 0, ⟨#[]⟩, 0, 0⟩ : OpR)) rfl rfl)
  go_wp2_with fail
  refine (tnum_off h a n cap _ x _ HP10.out.t hx).mono ?_
  rintro e w11 ⟨rfl, hT, hg⟩
  have HP11 := Lib.hid (HP10.out.grown hg hT)
  clear hT hg
  clear tc2 tf2 oc10 of10
  have tc1 := HP11.out.t.cell 1 _ rfl
  have tf1 := HP11.out.t.free 1 _ rfl
  have tc2 := HP11.out.t.cell 2 _ rfl
  have tf2 := HP11.out.t.free 2 _ rfl
  have oc11 := HP11.out.o.cell 11 _ rfl
  have of11 := HP11.out.o.free 11 _ rfl
  have HP12 := Lib.hid (HP11.out.put 11 (.int .i64 (-1)) (R' := (⟨t, r, ds, 0, 0, 0, 0, 0, ⟨#[]⟩, 0, (-1)⟩ : OpR)) rfl rfl)
  go_wp2_with fail
  generalize (w11.setCell ⟨b, 11, none⟩ (.int .i64 (-1))) = WZ at *
  clear tc1 tf1 tc2 tf2 oc11 of11
  have tc2 := HP12.out.t.cell 2 _ rfl
  have tf2 := HP12.out.t.free 2 _ rfl
  have hSx : WZ.drew.cell? ⟨h, 2, none⟩ = some (.int .i64 x) := tc2
  have HZ0 : Hid (Blk WZ g0 (zR.cells 0 (.slice none 0 0))) := HG.out ▸ HP12.out.rz
  have zc0 := HZ0.out.cell 0 _ rfl
  have zf0 := HZ0.out.free 0 _ rfl
  have zc1 := HZ0.out.cell 1 _ rfl
  have zf1 := HZ0.out.free 1 _ rfl
  have zc2 := HZ0.out.cell 2 _ rfl
  have zf2 := HZ0.out.free 2 _ rfl
  have zc3 := HZ0.out.cell 3 _ rfl
  have zf3 := HZ0.out.free 3 _ rfl
  have zc4 := HZ0.out.cell 4 _ rfl
  have zf4 := HZ0.out.free 4 _ rfl
  have zc5 := HZ0.out.cell 5 _ rfl
  have zf5 := HZ0.out.free 5 _ rfl
  have zc6 := HZ0.out.cell 6 _ rfl
  have zf6 := HZ0.out.free 6 _ rfl
  have zc7 := HZ0.out.cell 7 _ rfl
  have zf7 := HZ0.out.free 7 _ rfl
  have zc8 := HZ0.out.cell 8 _ rfl
  have zf8 := HZ0.out.free 8 _ rfl
  have zc9 := HZ0.out.cell 9 _ rfl
  have zf9 := HZ0.out.free 9 _ rfl
  have zc10 := HZ0.out.cell 10 _ rfl
  have zf10 := HZ0.out.free 10 _ rfl
  have zc11 := HZ0.out.cell 11 _ rfl
  have zf11 := HZ0.out.free 11 _ rfl
  go_region_held3 (fun w' => w'.cell? ⟨h, 2, none⟩ = some (.int .i64 x)) (first | with_reducible assumption | with_reducible exact far12 ne2 (by with_reducible assumption) _ _ _ _ _ _ _ _ _ _ _ _ | with_reducible exact far12d ne2 (by with_reducible assumption) _ _ _ _ _ _ _ _ _ _ _ _) (fail)
  go_wp2
  have HZ := ((((((((((((HZ0.out.set 0 (.int .i64 0)).set 1 (.int .i64 0)).set 2 (.int .i64 0)).set 3 (.slice none 0 0)).set 4 (.int .i64 0)).set 5 (.int .i64 0)).set 6 (.int .i64 0)).set 7 (.int .i64 0)).set 8 (.int .i64 0)).set 9 (.string ⟨#[]⟩)).set 10 (.int .i64 0)).set 11 (.int .i64 0))
  have z0 := HZ.cell 0 _ rfl
  have z1 := HZ.cell 1 _ rfl
  have z2 := HZ.cell 2 _ rfl
  have z3 := HZ.cell 3 _ rfl
  have z4 := HZ.cell 4 _ rfl
  have z5 := HZ.cell 5 _ rfl
  have z6 := HZ.cell 6 _ rfl
  have z7 := HZ.cell 7 _ rfl
  have z8 := HZ.cell 8 _ rfl
  have z9 := HZ.cell 9 _ rfl
  have z10 := HZ.cell 10 _ rfl
  have z11 := HZ.cell 11 _ rfl
  refine bodyPost_ret (v := .tuple #[.agg #[.int .i64 0, .int .i64 0, .int .i64 0, .slice none 0 0, .int .i64 0, .int .i64 0, .int .i64 0, .int .i64 0, .int .i64 0, .string ⟨#[]⟩, .int .i64 0, .int .i64 0], .int .i64 0, .int .i64 x]) (by simp [results, Tryd.results54, go_sem, z0, z1, z2, z3, z4, z5, z6, z7, z8, z9, z10, z11]) rfl ?_
  exact ⟨none, 0, 0, rfl, OwnK.nil _ _ _ _, ((((((((((((HP12.out.bel.setCell (p := ⟨g0, 0, none⟩) (Nat.le_of_eq HG.out) _).setCell (p := ⟨g0, 1, none⟩) (Nat.le_of_eq HG.out) _).setCell (p := ⟨g0, 2, none⟩) (Nat.le_of_eq HG.out) _).setCell (p := ⟨g0, 3, none⟩) (Nat.le_of_eq HG.out) _).setCell (p := ⟨g0, 4, none⟩) (Nat.le_of_eq HG.out) _).setCell (p := ⟨g0, 5, none⟩) (Nat.le_of_eq HG.out) _).setCell (p := ⟨g0, 6, none⟩) (Nat.le_of_eq HG.out) _).setCell (p := ⟨g0, 7, none⟩) (Nat.le_of_eq HG.out) _).setCell (p := ⟨g0, 8, none⟩) (Nat.le_of_eq HG.out) _).setCell (p := ⟨g0, 9, none⟩) (Nat.le_of_eq HG.out) _).setCell (p := ⟨g0, 10, none⟩) (Nat.le_of_eq HG.out) _).setCell (p := ⟨g0, 11, none⟩) (Nat.le_of_eq HG.out) _).drew⟩

set_option maxHeartbeats 4000000 in
set_option maxRecDepth 100000 in
theorem refTake_P4 (a : Option Addr) (bs : List Int) (n cap : Nat) (w : World) (hn : n = bs.length) (hr : RowK .u8 w a bs) (hb : IsB bs) (hcap : bs.length ≤ cap) (hlen : bs.length ≤ 140737488355328) {t r : Int} {ds : List Int} {kz : Int} {k0 m1 k1 m2 k2 m3 : Nat} (h0 : St.tkSt bs = (t, r, k0, 0)) (e1 : k0 = m1) (b1 : m1 ≤ bs.length) (h1 : Hv.tkV (bs.drop m1) = (ds, k1, 0)) (e2 : m1 + k1 = m2) (b2 : m2 ≤ bs.length) (h2 : tkN (bs.drop m2) = (kz, k2, 0)) (e3 : m2 + k2 = m3) (b3 : m3 ≤ bs.length) (hk1 : kz ≠ 1) (hk2 : kz ≠ 2) : Calls Tryd.prog 54 #[.slice a n cap] w (TakeO (zR, 0, 0, 1) w) := by
  obtain ⟨g0, hg0⟩ : ∃ g, w.heap.size = g := ⟨_, rfl⟩
  obtain ⟨h, hh⟩ : ∃ h, g0 + 1 = h := ⟨_, rfl⟩
  have HH : Hid (w.heap.size + 1 = h) := (by rw [hg0, hh] : w.heap.size + 1 = h)
  have HG : Hid (w.heap.size = g0) := hg0
  have HROW := Lib.hid (fun (W : World) (hb : Below w.heap.size w W) => hr.below hb (Nat.le_refl _))
  have htb := tk_build
  have hb1 := op_build1
  have hb0 := op_build0
  have hk1' : (kz == 1) = false := by simpa using hk1
  have hk2' : (kz == 2) = false := by simpa using hk2
  have hk1n : (kz != 1) = true := by simpa using hk1
  have hk2n : (kz != 2) = true := by simpa using hk2
  have C0 := Lib.hid (tstamp_zero h a bs n cap ((w.alloc (.cells #[.int .i64 0, .int .i64 0, .int .i64 0, .slice none 0 0, .int .i64 0, .int .i64 0, .int .i64 0, .int .i64 0, .int .i64 0, .string ⟨#[]⟩, .int .i64 0, .int .i64 0] 27)).alloc (.cells #[.slice a n cap, .int .i64 0, .int .i64 0] 85)) (tkr_new w a n cap _ HH.out) hn (HROW.out _ (St.below2 w _ _)) hb hcap hlen h0)
  rw [e1] at C0
  have hsl1 := fun W => slice_l W a n cap m1 (m1 : Int) rfl (by rw [hn]; exact b1)
  have C1 := Lib.hid (fun (W : World) (hB : Below w.heap.size w W) => Hv.refTake_is (partA a m1 cap) (bs.drop m1) (n - m1) (cap - m1) W (by rw [List.length_drop, hn]) ((HROW.out W hB).rest m1 cap hcap) (hb.drop m1) (by rw [List.length_drop]; omega) (by rw [List.length_drop]; omega) h1)
  have hz2 : (m1 : Int) + (k1 : Int) = (m2 : Int) := by omega
  have hy2 : (m2 : Int) ≤ 140737488355328 := by have := tkV_k (bs.drop m1) (hb.drop m1); rw [h1, List.length_drop] at this; simp only at this; omega
  have C2 := Lib.hid (fun (W : World) (hB : Below w.heap.size w W) (hT : Blk W h (tkrV a n cap (m2 : Int) 0)) => tnum_is h a bs n cap m2 W hT hn (HROW.out W hB) hb hcap hlen b2 h2 e3)
  clear hn hr hb hcap hlen h0 e1 h1 e2 h2 e3 b1 b2 b3
  go_enter Tryd.func54, Tryd.ntmps54
  go_wp2_with fail
  refine (C0.out).mono ?_
  rintro e w1 ⟨rfl, hT, hg⟩
  obtain ⟨b, hbb⟩ : ∃ b, w1.heap.size = b := ⟨_, rfl⟩
  have HP1 := Lib.hid (PI.first (t := t) (r := r) HH.out hbb hT hg)
  have ne1 : h ≠ b := by have := HP1.out.hb; omega
  have ne2 : g0 ≠ h := by omega
  have ne3 : g0 ≠ b := by have := HP1.out.hb; omega
  have ne1' := Ne.symm ne1
  have ne2' := Ne.symm ne2
  have ne3' := Ne.symm ne3
  have tc2 := HP1.out.t.cell 2 _ rfl
  have tc1 := HP1.out.t.cell 1 _ rfl
  have hlt := hT.lt
  clear hT hg
  go_wp2_with fail
  generalize w1.alloc (.cells #[.int .i64 t, .int .i64 r, .int .i64 0, .slice none 0 0, .int .i64 0, .int .i64 0, .int .i64 0, .int .i64 0, .int .i64 0, .string ⟨#[]⟩, .int .i64 0, .int .i64 0] 27) = W1 at *
  clear hlt hbb hg0 hh
  refine (C1.out _ HP1.out.bel).mono ?_
  rintro e w2 ⟨v2, rfl, ho, hbl⟩
  obtain ⟨a2, n2, c2, rfl, hn2, hr2, hc2⟩ := ho.form'
  have HN2 := Lib.hid hn2
  have HO2 := Lib.hid (ho.mono (show b + 1 ≤ _ from HP1.out.size))
  have HP3 := Lib.hid (HP1.out.next hbl)
  clear ho hbl hn2 hr2 hc2
  clear tc1 tc2
  have tc1 := HP3.out.t.cell 1 _ rfl
  have tf1 := HP3.out.t.free 1 _ rfl
  have tc2 := HP3.out.t.cell 2 _ rfl
  have tf2 := HP3.out.t.free 2 _ rfl
  have oc3 := HP3.out.o.cell 3 _ rfl
  have of3 := HP3.out.o.free 3 _ rfl
  have HP4 := Lib.hid (((HP3.out.putD HO2.out).setT (m2 : Int) 0))
  go_wp2_with fail
  refine (C2.out _ HP4.out.bel HP4.out.t).mono ?_
  rintro e w5 ⟨rfl, hT, hg⟩
  have HP5 := Lib.hid (HP4.out.grown hg hT)
  clear hT hg
  clear tc1 tf1 tc2 tf2 oc3 of3
  have tc1 := HP5.out.t.cell 1 _ rfl
  have tf1 := HP5.out.t.free 1 _ rfl
  have tc2 := HP5.out.t.cell 2 _ rfl
  have tf2 := HP5.out.t.free 2 _ rfl
  have oc4 := HP5.out.o.cell 4 _ rfl
  have of4 := HP5.out.o.free 4 _ rfl
  have HP6 := Lib.hid (HP5.out.put 4 (.int .i64 kz) (R' := (⟨t, r, ds, kz, 0, 0, 0, 0, ⟨#[]⟩, 0, 0⟩ : OpR)) rfl rfl)
  have HP7 := Lib.hid (HP6.out.setE 1)
  go_wp2_with fail
  refine (tstamp_off h a n cap _ 1 _ HP7.out.t (by decide)).mono ?_
  rintro e w8 ⟨rfl, hT, hg⟩
  have HP8 := Lib.hid (HP7.out.grown hg hT)
  clear hT hg
  clear tc1 tf1 tc2 tf2 oc4 of4
  have tc2 := HP8.out.t.cell 2 _ rfl
  have tf2 := HP8.out.t.free 2 _ rfl
  have oc4 := HP8.out.o.cell 4 _ rfl
  have of4 := HP8.out.o.free 4 _ rfl
  have oc5 := HP8.out.o.cell 5 _ rfl
  have of5 := HP8.out.o.free 5 _ rfl
  have oc6 := HP8.out.o.cell 6 _ rfl
  have of6 := HP8.out.o.free 6 _ rfl
  have HP9 := Lib.hid (HP8.out.put2 5 6 (.int .i64 0) (.int .i64 0) (R' := (⟨t, r, ds, kz, 0, 0, 0, 0, ⟨#[]⟩, 0, 0⟩ : OpR)) rfl rfl)
  go_wp2_with fail
  refine (tnum_off h a n cap _ 1 _ HP9.out.t (by decide)).mono ?_
  rintro e w10 ⟨rfl, hT, hg⟩
  have HP10 := Lib.hid (HP9.out.grown hg hT)
  clear hT hg
  clear tc2 tf2 oc4 of4 oc5 of5 oc6 of6
  have tc2 := HP10.out.t.cell 2 _ rfl
  have tf2 := HP10.out.t.free 2 _ rfl
  have oc10 := HP10.out.o.cell 10 _ rfl
  have of10 := HP10.out.o.free 10 _ rfl
  have HP11 := Lib.hid (HP10.out.put 10 (.int .i64 0) (R' := (⟨t, r, ds, kz, 0, 0, 0, 0, ⟨#[]⟩, 0, 0⟩ : OpR)) rfl rfl)
  go_wp2_with fail
  refine (tnum_off h a n cap _ 1 _ HP11.out.t (by decide)).mono ?_
  rintro e w12 ⟨rfl, hT, hg⟩
  have HP12 := Lib.hid (HP11.out.grown hg hT)
  clear hT hg
  clear tc2 tf2 oc10 of10
  have tc1 := HP12.out.t.cell 1 _ rfl
  have tf1 := HP12.out.t.free 1 _ rfl
  have tc2 := HP12.out.t.cell 2 _ rfl
  have tf2 := HP12.out.t.free 2 _ rfl
  have oc11 := HP12.out.o.cell 11 _ rfl
  have of11 := HP12.out.o.free 11 _ rfl
  have HP13 := Lib.hid (HP12.out.put 11 (.int .i64 (-1)) (R' := (⟨t, r, ds, kz, 0, 0, 0, 0, ⟨#[]⟩, 0, (-1)⟩ : OpR)) rfl rfl)
  go_wp2_with fail
  generalize (w12.setCell ⟨b, 11, none⟩ (.int .i64 (-1))) = WZ at *
  clear tc1 tf1 tc2 tf2 oc11 of11
  have tc2 := HP13.out.t.cell 2 _ rfl
  have tf2 := HP13.out.t.free 2 _ rfl
  have hSx : WZ.drew.cell? ⟨h, 2, none⟩ = some (.int .i64 1) := tc2
  have HZ0 : Hid (Blk WZ g0 (zR.cells 0 (.slice none 0 0))) := HG.out ▸ HP13.out.rz
  have zc0 := HZ0.out.cell 0 _ rfl
  have zf0 := HZ0.out.free 0 _ rfl
  have zc1 := HZ0.out.cell 1 _ rfl
  have zf1 := HZ0.out.free 1 _ rfl
  have zc2 := HZ0.out.cell 2 _ rfl
  have zf2 := HZ0.out.free 2 _ rfl
  have zc3 := HZ0.out.cell 3 _ rfl
  have zf3 := HZ0.out.free 3 _ rfl
  have zc4 := HZ0.out.cell 4 _ rfl
  have zf4 := HZ0.out.free 4 _ rfl
  have zc5 := HZ0.out.cell 5 _ rfl
  have zf5 := HZ0.out.free 5 _ rfl
  have zc6 := HZ0.out.cell 6 _ rfl
  have zf6 := HZ0.out.free 6 _ rfl
  have zc7 := HZ0.out.cell 7 _ rfl
  have zf7 := HZ0.out.free 7 _ rfl
  have zc8 := HZ0.out.cell 8 _ rfl
  have zf8 := HZ0.out.free 8 _ rfl
  have zc9 := HZ0.out.cell 9 _ rfl
  have zf9 := HZ0.out.free 9 _ rfl
  have zc10 := HZ0.out.cell 10 _ rfl
  have zf10 := HZ0.out.free 10 _ rfl
  have zc11 := HZ0.out.cell 11 _ rfl
  have zf11 := HZ0.out.free 11 _ rfl
  go_region_held3 (fun w' => w'.cell? ⟨h, 2, none⟩ = some (.int .i64 1)) (first | with_reducible assumption | with_reducible exact far12 ne2 (by with_reducible assumption) _ _ _ _ _ _ _ _ _ _ _ _ | with_reducible exact far12d ne2 (by with_reducible assumption) _ _ _ _ _ _ _ _ _ _ _ _) (fail)
  go_wp2
  have HZ := ((((((((((((HZ0.out.set 0 (.int .i64 0)).set 1 (.int .i64 0)).set 2 (.int .i64 0)).set 3 (.slice none 0 0)).set 4 (.int .i64 0)).set 5 (.int .i64 0)).set 6 (.int .i64 0)).set 7 (.int .i64 0)).set 8 (.int .i64 0)).set 9 (.string ⟨#[]⟩)).set 10 (.int .i64 0)).set 11 (.int .i64 0))
  have z0 := HZ.cell 0 _ rfl
  have z1 := HZ.cell 1 _ rfl
  have z2 := HZ.cell 2 _ rfl
  have z3 := HZ.cell 3 _ rfl
  have z4 := HZ.cell 4 _ rfl
  have z5 := HZ.cell 5 _ rfl
  have z6 := HZ.cell 6 _ rfl
  have z7 := HZ.cell 7 _ rfl
  have z8 := HZ.cell 8 _ rfl
  have z9 := HZ.cell 9 _ rfl
  have z10 := HZ.cell 10 _ rfl
  have z11 := HZ.cell 11 _ rfl
  refine bodyPost_ret (v := .tuple #[.agg #[.int .i64 0, .int .i64 0, .int .i64 0, .slice none 0 0, .int .i64 0, .int .i64 0, .int .i64 0, .int .i64 0, .int .i64 0, .string ⟨#[]⟩, .int .i64 0, .int .i64 0], .int .i64 0, .int .i64 1]) (by simp [results, Tryd.results54, go_sem, z0, z1, z2, z3, z4, z5, z6, z7, z8, z9, z10, z11]) rfl ?_
  exact ⟨none, 0, 0, rfl, OwnK.nil _ _ _ _, ((((((((((((HP13.out.bel.setCell (p := ⟨g0, 0, none⟩) (Nat.le_of_eq HG.out) _).setCell (p := ⟨g0, 1, none⟩) (Nat.le_of_eq HG.out) _).setCell (p := ⟨g0, 2, none⟩) (Nat.le_of_eq HG.out) _).setCell (p := ⟨g0, 3, none⟩) (Nat.le_of_eq HG.out) _).setCell (p := ⟨g0, 4, none⟩) (Nat.le_of_eq HG.out) _).setCell (p := ⟨g0, 5, none⟩) (Nat.le_of_eq HG.out) _).setCell (p := ⟨g0, 6, none⟩) (Nat.le_of_eq HG.out) _).setCell (p := ⟨g0, 7, none⟩) (Nat.le_of_eq HG.out) _).setCell (p := ⟨g0, 8, none⟩) (Nat.le_of_eq HG.out) _).setCell (p := ⟨g0, 9, none⟩) (Nat.le_of_eq HG.out) _).setCell (p := ⟨g0, 10, none⟩) (Nat.le_of_eq HG.out) _).setCell (p := ⟨g0, 11, none⟩) (Nat.le_of_eq HG.out) _).drew⟩

set_option maxHeartbeats 4000000 in
set_option maxRecDepth 100000 in
theorem refTake_P5 (a : Option Addr) (bs : List Int) (n cap : Nat) (w : World) (hn : n = bs.length) (hr : RowK .u8 w a bs) (hb : IsB bs) (hcap : bs.length ≤ cap) (hlen : bs.length ≤ 140737488355328) {t r : Int} {ds : List Int} {nt nr : Int} {k0 m1 k1 m2 k2 m3 k3 m4 : Nat} {x : Int} (h0 : St.tkSt bs = (t, r, k0, 0)) (e1 : k0 = m1) (b1 : m1 ≤ bs.length) (h1 : Hv.tkV (bs.drop m1) = (ds, k1, 0)) (e2 : m1 + k1 = m2) (b2 : m2 ≤ bs.length) (h2 : tkN (bs.drop m2) = (1, k2, 0)) (e3 : m2 + k2 = m3) (b3 : m3 ≤ bs.length) (h3 : St.tkSt (bs.drop m3) = (nt, nr, k3, x)) (e4 : m3 + k3 = m4) (hx : x ≠ 0) : Calls Tryd.prog 54 #[.slice a n cap] w (TakeO (zR, 0, 0, x) w) := by
  obtain ⟨g0, hg0⟩ : ∃ g, w.heap.size = g := ⟨_, rfl⟩
  obtain ⟨h, hh⟩ : ∃ h, g0 + 1 = h := ⟨_, rfl⟩
  have HH : Hid (w.heap.size + 1 = h) := (by rw [hg0, hh] : w.heap.size + 1 = h)
  have HG : Hid (w.heap.size = g0) := hg0
  have HROW := Lib.hid (fun (W : World) (hb : Below w.heap.size w W) => hr.below hb (Nat.le_refl _))
  have htb := tk_build
  have hb1 := op_build1
  have hb0 := op_build0
  have hx' : (x == 0) = false := by simpa using hx
  have hxn : (x != 0) = true := by simpa using hx
  have C0 := Lib.hid (tstamp_zero h a bs n cap ((w.alloc (.cells #[.int .i64 0, .int .i64 0, .int .i64 0, .slice none 0 0, .int .i64 0, .int .i64 0, .int .i64 0, .int .i64 0, .int .i64 0, .string ⟨#[]⟩, .int .i64 0, .int .i64 0] 27)).alloc (.cells #[.slice a n cap, .int .i64 0, .int .i64 0] 85)) (tkr_new w a n cap _ HH.out) hn (HROW.out _ (St.below2 w _ _)) hb hcap hlen h0)
  rw [e1] at C0
  have hsl1 := fun W => slice_l W a n cap m1 (m1 : Int) rfl (by rw [hn]; exact b1)
  have C1 := Lib.hid (fun (W : World) (hB : Below w.heap.size w W) => Hv.refTake_is (partA a m1 cap) (bs.drop m1) (n - m1) (cap - m1) W (by rw [List.length_drop, hn]) ((HROW.out W hB).rest m1 cap hcap) (hb.drop m1) (by rw [List.length_drop]; omega) (by rw [List.length_drop]; omega) h1)
  have hz2 : (m1 : Int) + (k1 : Int) = (m2 : Int) := by omega
  have hy2 : (m2 : Int) ≤ 140737488355328 := by have := tkV_k (bs.drop m1) (hb.drop m1); rw [h1, List.length_drop] at this; simp only at this; omega
  have C2 := Lib.hid (fun (W : World) (hB : Below w.heap.size w W) (hT : Blk W h (tkrV a n cap (m2 : Int) 0)) => tnum_is h a bs n cap m2 W hT hn (HROW.out W hB) hb hcap hlen b2 h2 e3)
  have C3 := Lib.hid (fun (W : World) (hB : Below w.heap.size w W) (hT : Blk W h (tkrV a n cap (m3 : Int) 0)) => tstamp_is h a bs n cap m3 W hT hn (HROW.out W hB) hb hcap hlen b3 h3 e4)
  clear hn hr hb hcap hlen h0 e1 h1 e2 h2 e3 h3 e4 b1 b2 b3
  go_enter Tryd.func54, Tryd.ntmps54
  go_wp2_with fail
  refine (C0.out).mono ?_
  rintro e w1 ⟨rfl, hT, hg⟩
  obtain ⟨b, hbb⟩ : ∃ b, w1.heap.size = b := ⟨_, rfl⟩
  have HP1 := Lib.hid (PI.first (t := t) (r := r) HH.out hbb hT hg)
  have ne1 : h ≠ b := by have := HP1.out.hb; omega
  have ne2 : g0 ≠ h := by omega
  have ne3 : g0 ≠ b := by have := HP1.out.hb; omega
  have ne1' := Ne.symm ne1
  have ne2' := Ne.symm ne2
  have ne3' := Ne.symm ne3
  have tc2 := HP1.out.t.cell 2 _ rfl
  have tc1 := HP1.out.t.cell 1 _ rfl
  have hlt := hT.lt
  clear hT hg
  go_wp2_with fail
  generalize w1.alloc (.cells #[.int .i64 t, .int .i64 r, .int .i64 0, .slice none 0 0, .int .i64 0, .int .i64 0, .int .i64 0, .int .i64 0, .int .i64 0, .string ⟨#[]⟩, .int .i64 0, .int .i64 0] 27) = W1 at *
  clear hlt hbb hg0 hh
  refine (C1.out _ HP1.out.bel).mono ?_
  rintro e w2 ⟨v2, rfl, ho, hbl⟩
  obtain ⟨a2, n2, c2, rfl, hn2, hr2, hc2⟩ := ho.form'
  have HN2 := Lib.hid hn2
  have HO2 := Lib.hid (ho.mono (show b + 1 ≤ _ from HP1.out.size))
  have HP3 := Lib.hid (HP1.out.next hbl)
  clear ho hbl hn2 hr2 hc2
  clear tc1 tc2
  have tc1 := HP3.out.t.cell 1 _ rfl
  have tf1 := HP3.out.t.free 1 _ rfl
  have tc2 := HP3.out.t.cell 2 _ rfl
  have tf2 := HP3.out.t.free 2 _ rfl
  have oc3 := HP3.out.o.cell 3 _ rfl
  have of3 := HP3.out.o.free 3 _ rfl
  have HP4 := Lib.hid (((HP3.out.putD HO2.out).setT (m2 : Int) 0))
  go_wp2_with fail
  refine (C2.out _ HP4.out.bel HP4.out.t).mono ?_
  rintro e w5 ⟨rfl, hT, hg⟩
  have HP5 := Lib.hid (HP4.out.grown hg hT)
  clear hT hg
  clear tc1 tf1 tc2 tf2 oc3 of3
  have tc1 := HP5.out.t.cell 1 _ rfl
  have tf1 := HP5.out.t.free 1 _ rfl
  have tc2 := HP5.out.t.cell 2 _ rfl
  have tf2 := HP5.out.t.free 2 _ rfl
  have oc4 := HP5.out.o.cell 4 _ rfl
  have of4 := HP5.out.o.free 4 _ rfl
  have HP6 := Lib.hid (HP5.out.put 4 (.int .i64 1) (R' := (⟨t, r, ds, 1, 0, 0, 0, 0, ⟨#[]⟩, 0, 0⟩ : OpR)) rfl rfl)
  go_wp2_with fail
  refine (C3.out _ HP6.out.bel HP6.out.t).mono ?_
  rintro e w7 ⟨rfl, hT, hg⟩
  have HP7 := Lib.hid (HP6.out.grown hg hT)
  clear hT hg
  clear tc1 tf1 tc2 tf2 oc4 of4
  have tc2 := HP7.out.t.cell 2 _ rfl
  have tf2 := HP7.out.t.free 2 _ rfl
  have oc4 := HP7.out.o.cell 4 _ rfl
  have of4 := HP7.out.o.free 4 _ rfl
  have oc5 := HP7.out.o.cell 5 _ rfl
  have of5 := HP7.out.o.free 5 _ rfl
  have oc6 := HP7.out.o.cell 6 _ rfl
  have of6 := HP7.out.o.free 6 _ rfl
  have HP8 := Lib.hid (HP7.out.put2 5 6 (.int .i64 nt) (.int .i64 nr) (R' := (⟨t, r, ds, 1, nt, nr, 0, 0, ⟨#[]⟩, 0, 0⟩ : OpR)) rfl rfl)
  go_wp2_with fail
  refine (tstamp_off h a n cap _ x _ HP8.out.t hx).mono ?_
  rintro e w9 ⟨rfl, hT, hg⟩
  have HP9 := Lib.hid (HP8.out.grown hg hT)
  clear hT hg
  clear tc2 tf2 oc4 of4 oc5 of5 oc6 of6
  have tc1 := HP9.out.t.cell 1 _ rfl
  have tf1 := HP9.out.t.free 1 _ rfl
  have tc2 := HP9.out.t.cell 2 _ rfl
  have tf2 := HP9.out.t.free 2 _ rfl
  have oc7 := HP9.out.o.cell 7 _ rfl
  have of7 := HP9.out.o.free 7 _ rfl
  have oc8 := HP9.out.o.cell 8 _ rfl
  have of8 := HP9.out.o.free 8 _ rfl
  have HP10 := Lib.hid (HP9.out.put2 7 8 (.int .i64 0) (.int .i64 0) (R' := (⟨t, r, ds, 1, nt, nr, 0, 0, ⟨#[]⟩, 0, 0⟩ : OpR)) rfl rfl)
  go_wp2_with fail
  generalize ((w9.setCell ⟨b, 7, none⟩ (.int .i64 0)).setCell ⟨b, 8, none⟩ (.int .i64 0)) = WZ at *
  clear tc1 tf1 tc2 tf2 oc7 of7 oc8 of8
  have tc2 := HP10.out.t.cell 2 _ rfl
  have tf2 := HP10.out.t.free 2 _ rfl
  have hSx : WZ.drew.cell? ⟨h, 2, none⟩ = some (.int .i64 x) := tc2
  have HZ0 : Hid (Blk WZ g0 (zR.cells 0 (.slice none 0 0))) := HG.out ▸ HP10.out.rz
  have zc0 := HZ0.out.cell 0 _ rfl
  have zf0 := HZ0.out.free 0 _ rfl
  have zc1 := HZ0.out.cell 1 _ rfl
  have zf1 := HZ0.out.free 1 _ rfl
  have zc2 := HZ0.out.cell 2 _ rfl
  have zf2 := HZ0.out.free 2 _ rfl
  have zc3 := HZ0.out.cell 3 _ rfl
  have zf3 := HZ0.out.free 3 _ rfl
  have zc4 := HZ0.out.cell 4 _ rfl
  have zf4 := HZ0.out.free 4 _ rfl
  have zc5 := HZ0.out.cell 5 _ rfl
  have zf5 := HZ0.out.free 5 _ rfl
  have zc6 := HZ0.out.cell 6 _ rfl
  have zf6 := HZ0.out.free 6 _ rfl
  have zc7 := HZ0.out.cell 7 _ rfl
  have zf7 := HZ0.out.free 7 _ rfl
  have zc8 := HZ0.out.cell 8 _ rfl
  have zf8 := HZ0.out.free 8 _ rfl
  have zc9 := HZ0.out.cell 9 _ rfl
  have zf9 := HZ0.out.free 9 _ rfl
  have zc10 := HZ0.out.cell 10 _ rfl
  have zf10 := HZ0.out.free 10 _ rfl
  have zc11 := HZ0.out.cell 11 _ rfl
  have zf11 := HZ0.out.free 11 _ rfl
  go_region_held3 (fun w' => w'.cell? ⟨h, 2, none⟩ = some (.int .i64 x)) (first | with_reducible assumption | with_reducible exact far12 ne2 (by with_reducible assumption) _ _ _ _ _ _ _ _ _ _ _ _ | with_reducible exact far12d ne2 (by with_reducible assumption) _ _ _ _ _ _ _ _ _ _ _ _) (fail)
  go_wp2
  have HZ := ((((((((((((HZ0.out.set 0 (.int .i64 0)).set 1 (.int .i64 0)).set 2 (.int .i64 0)).set 3 (.slice none 0 0)).set 4 (.int .i64 0)).set 5 (.int .i64 0)).set 6 (.int .i64 0)).set 7 (.int .i64 0)).set 8 (.int .i64 0)).set 9 (.string ⟨#[]⟩)).set 10 (.int .i64 0)).set 11 (.int .i64 0))
  have z0 := HZ.cell 0 _ rfl
  have z1 := HZ.cell 1 _ rfl
  have z2 := HZ.cell 2 _ rfl
  have z3 := HZ.cell 3 _ rfl
  have z4 := HZ.cell 4 _ rfl
  have z5 := HZ.cell 5 _ rfl
  have z6 := HZ.cell 6 _ rfl
  have z7 := HZ.cell 7 _ rfl
  have z8 := HZ.cell 8 _ rfl
  have z9 := HZ.cell 9 _ rfl
  have z10 := HZ.cell 10 _ rfl
  have z11 := HZ.cell 11 _ rfl
  refine bodyPost_ret (v := .tuple #[.agg #[.int .i64 0, .int .i64 0, .int .i64 0, .slice none 0 0, .int .i64 0, .int .i64 0, .int .i64 0, .int .i64 0, .int .i64 0, .string ⟨#[]⟩, .int .i64 0, .int .i64 0], .int .i64 0, .int .i64 x]) (by simp [results, Tryd.results54, go_sem, z0, z1, z2, z3, z4, z5, z6, z7, z8, z9, z10, z11]) rfl ?_
  exact ⟨none, 0, 0, rfl, OwnK.nil _ _ _ _, ((((((((((((HP10.out.bel.setCell (p := ⟨g0, 0, none⟩) (Nat.le_of_eq HG.out) _).setCell (p := ⟨g0, 1, none⟩) (Nat.le_of_eq HG.out) _).setCell (p := ⟨g0, 2, none⟩) (Nat.le_of_eq HG.out) _).setCell (p := ⟨g0, 3, none⟩) (Nat.le_of_eq HG.out) _).setCell (p := ⟨g0, 4, none⟩) (Nat.le_of_eq HG.out) _).setCell (p := ⟨g0, 5, none⟩) (Nat.le_of_eq HG.out) _).setCell (p := ⟨g0, 6, none⟩) (Nat.le_of_eq HG.out) _).setCell (p := ⟨g0, 7, none⟩) (Nat.le_of_eq HG.out) _).setCell (p := ⟨g0, 8, none⟩) (Nat.le_of_eq HG.out) _).setCell (p := ⟨g0, 9, none⟩) (Nat.le_of_eq HG.out) _).setCell (p := ⟨g0, 10, none⟩) (Nat.le_of_eq HG.out) _).setCell (p := ⟨g0, 11, none⟩) (Nat.le_of_eq HG.out) _).drew⟩

set_option maxHeartbeats 4000000 in
set_option maxRecDepth 100000 in
theorem refTake_P6 (a : Option Addr) (bs : List Int) (n cap : Nat) (w : World) (hn : n = bs.length) (hr : RowK .u8 w a bs) (hb : IsB bs) (hcap : bs.length ≤ cap) (hlen : bs.length ≤ 140737488355328) {t r : Int} {ds : List Int} {nt nr : Int} {k0 m1 k1 m2 k2 m3 k3 m4 : Nat} {x : Int} (h0 : St.tkSt bs = (t, r, k0, 0)) (e1 : k0 = m1) (b1 : m1 ≤ bs.length) (h1 : Hv.tkV (bs.drop m1) = (ds, k1, 0)) (e2 : m1 + k1 = m2) (b2 : m2 ≤ bs.length) (h2 : tkN (bs.drop m2) = (2, k2, 0)) (e3 : m2 + k2 = m3) (b3 : m3 ≤ bs.length) (h3 : St.tkSt (bs.drop m3) = (nt, nr, k3, x)) (e4 : m3 + k3 = m4) (hx : x ≠ 0) : Calls Tryd.prog 54 #[.slice a n cap] w (TakeO (zR, 0, 0, x) w) := by
  obtain ⟨g0, hg0⟩ : ∃ g, w.heap.size = g := ⟨_, rfl⟩
  obtain ⟨h, hh⟩ : ∃ h, g0 + 1 = h := ⟨_, rfl⟩
  have HH : Hid (w.heap.size + 1 = h) := (by rw [hg0, hh] : w.heap.size + 1 = h)
  have HG : Hid (w.heap.size = g0) := hg0
  have HROW := Lib.hid (fun (W : World) (hb : Below w.heap.size w W) => hr.below hb (Nat.le_refl _))
  have htb := tk_build
  have hb1 := op_build1
  have hb0 := op_build0
  have hx' : (x == 0) = false := by simpa using hx
  have hxn : (x != 0) = true := by simpa using hx
  have C0 := Lib.hid (tstamp_zero h a bs n cap ((w.alloc (.cells #[.int .i64 0, .int .i64 0, .int .i64 0, .slice none 0 0, .int .i64 0, .int .i64 0, .int .i64 0, .int .i64 0, .int .i64 0, .string ⟨#[]⟩, .int .i64 0, .int .i64 0] 27)).alloc (.cells #[.slice a n cap, .int .i64 0, .int .i64 0] 85)) (tkr_new w a n cap _ HH.out) hn (HROW.out _ (St.below2 w _ _)) hb hcap hlen h0)
  rw [e1] at C0
  have hsl1 := fun W => slice_l W a n cap m1 (m1 : Int) rfl (by rw [hn]; exact b1)
  have C1 := Lib.hid (fun (W : World) (hB : Below w.heap.size w W) => Hv.refTake_is (partA a m1 cap) (bs.drop m1) (n - m1) (cap - m1) W (by rw [List.length_drop, hn]) ((HROW.out W hB).rest m1 cap hcap) (hb.drop m1) (by rw [List.length_drop]; omega) (by rw [List.length_drop]; omega) h1)
  have hz2 : (m1 : Int) + (k1 : Int) = (m2 : Int) := by omega
  have hy2 : (m2 : Int) ≤ 140737488355328 := by have := tkV_k (bs.drop m1) (hb.drop m1); rw [h1, List.length_drop] at this; simp only at this; omega
  have C2 := Lib.hid (fun (W : World) (hB : Below w.heap.size w W) (hT : Blk W h (tkrV a n cap (m2 : Int) 0)) => tnum_is h a bs n cap m2 W hT hn (HROW.out W hB) hb hcap hlen b2 h2 e3)
  have C3 := Lib.hid (fun (W : World) (hB : Below w.heap.size w W) (hT : Blk W h (tkrV a n cap (m3 : Int) 0)) => tstamp_is h a bs n cap m3 W hT hn (HROW.out W hB) hb hcap hlen b3 h3 e4)
  clear hn hr hb hcap hlen h0 e1 h1 e2 h2 e3 h3 e4 b1 b2 b3
  go_enter Tryd.func54, Tryd.ntmps54
  go_wp2_with fail
  refine (C0.out).mono ?_
  rintro e w1 ⟨rfl, hT, hg⟩
  obtain ⟨b, hbb⟩ : ∃ b, w1.heap.size = b := ⟨_, rfl⟩
  have HP1 := Lib.hid (PI.first (t := t) (r := r) HH.out hbb hT hg)
  have ne1 : h ≠ b := by have := HP1.out.hb; omega
  have ne2 : g0 ≠ h := by omega
  have ne3 : g0 ≠ b := by have := HP1.out.hb; omega
  have ne1' := Ne.symm ne1
  have ne2' := Ne.symm ne2
  have ne3' := Ne.symm ne3
  have tc2 := HP1.out.t.cell 2 _ rfl
  have tc1 := HP1.out.t.cell 1 _ rfl
  have hlt := hT.lt
  clear hT hg
  go_wp2_with fail
  generalize w1.alloc (.cells #[.int .i64 t, .int .i64 r, .int .i64 0, .slice none 0 0, .int .i64 0, .int .i64 0, .int .i64 0, .int .i64 0, .int .i64 0, .string ⟨#[]⟩, .int .i64 0, .int .i64 0] 27) = W1 at *
  clear hlt hbb hg0 hh
  refine (C1.out _ HP1.out.bel).mono ?_
  rintro e w2 ⟨v2, rfl, ho, hbl⟩
  obtain ⟨a2, n2, c2, rfl, hn2, hr2, hc2⟩ := ho.form'
  have HN2 := Lib.hid hn2
  have HO2 := Lib.hid (ho.mono (show b + 1 ≤ _ from HP1.out.size))
  have HP3 := Lib.hid (HP1.out.next hbl)
  clear ho hbl hn2 hr2 hc2
  clear tc1 tc2
  have tc1 := HP3.out.t.cell 1 _ rfl
  have tf1 := HP3.out.t.free 1 _ rfl
  have tc2 := HP3.out.t.cell 2 _ rfl
  have tf2 := HP3.out.t.free 2 _ rfl
  have oc3 := HP3.out.o.cell 3 _ rfl
  have of3 := HP3.out.o.free 3 _ rfl
  have HP4 := Lib.hid (((HP3.out.putD HO2.out).setT (m2 : Int) 0))
  go_wp2_with fail
  refine (C2.out _ HP4.out.bel HP4.out.t).mono ?_
  rintro e w5 ⟨rfl, hT, hg⟩
  have HP5 := Lib.hid (HP4.out.grown hg hT)
  clear hT hg
  clear tc1 tf1 tc2 tf2 oc3 of3
  have tc1 := HP5.out.t.cell 1 _ rfl
  have tf1 := HP5.out.t.free 1 _ rfl
  have tc2 := HP5.out.t.cell 2 _ rfl
  have tf2 := HP5.out.t.free 2 _ rfl
  have oc4 := HP5.out.o.cell 4 _ rfl
  have of4 := HP5.out.o.free 4 _ rfl
  have HP6 := Lib.hid (HP5.out.put 4 (.int .i64 2) (R' := (⟨t, r, ds, 2, 0, 0, 0, 0, ⟨#[]⟩, 0, 0⟩ : OpR)) rfl rfl)
  go_wp2_with fail
  refine (C3.out _ HP6.out.bel HP6.out.t).mono ?_
  rintro e w7 ⟨rfl, hT, hg⟩
  have HP7 := Lib.hid (HP6.out.grown hg hT)
  clear hT hg
  clear tc1 tf1 tc2 tf2 oc4 of4
  have tc2 := HP7.out.t.cell 2 _ rfl
  have tf2 := HP7.out.t.free 2 _ rfl
  have oc4 := HP7.out.o.cell 4 _ rfl
  have of4 := HP7.out.o.free 4 _ rfl
  have oc5 := HP7.out.o.cell 5 _ rfl
  have of5 := HP7.out.o.free 5 _ rfl
  have oc6 := HP7.out.o.cell 6 _ rfl
  have of6 := HP7.out.o.free 6 _ rfl
  have HP8 := Lib.hid (HP7.out.put2 5 6 (.int .i64 nt) (.int .i64 nr) (R' := (⟨t, r, ds, 2, nt, nr, 0, 0, ⟨#[]⟩, 0, 0⟩ : OpR)) rfl rfl)
  go_wp2_with fail
  refine (tnum_off h a n cap _ x _ HP8.out.t hx).mono ?_
  rintro e w9 ⟨rfl, hT, hg⟩
  have HP9 := Lib.hid (HP8.out.grown hg hT)
  clear hT hg
  clear tc2 tf2 oc4 of4 oc5 of5 oc6 of6
  have tc2 := HP9.out.t.cell 2 _ rfl
  have tf2 := HP9.out.t.free 2 _ rfl
  have oc10 := HP9.out.o.cell 10 _ rfl
  have of10 := HP9.out.o.free 10 _ rfl
  have HP10 := Lib.hid (HP9.out.put 10 (.int .i64 0) (R' := (⟨t, r, ds, 2, nt, nr, 0, 0, ⟨#[]⟩, 0, 0⟩ : OpR)) rfl rfl)
  go_wp2_with fail
  refine (tnum_off h a n cap _ x _ HP10.out.t hx).mono ?_
  rintro e w11 ⟨rfl, hT, hg⟩
  have HP11 := Lib.hid (HP10.out.grown hg hT)
  clear hT hg
  clear tc2 tf2 oc10 of10
  have tc1 := HP11.out.t.cell 1 _ rfl
  have tf1 := HP11.out.t.free 1 _ rfl
  have tc2 := HP11.out.t.cell 2 _ rfl
  have tf2 := HP11.out.t.free 2 _ rfl
  have oc11 := HP11.out.o.cell 11 _ rfl
  have of11 := HP11.out.o.free 11 _ rfl
  have HP12 := Lib.hid (HP11.out.put 11 (.int .i64 (-1)) (R' := (⟨t, r, ds, 2, nt, nr, 0, 0, ⟨#[]⟩, 0, (-1)⟩ : OpR)) rfl rfl)
  go_wp2_with fail
  generalize (w11.setCell ⟨b, 11, none⟩ (.int .i64 (-1))) = WZ at *
  clear tc1 tf1 tc2 tf2 oc11 of11
  have tc2 := HP12.out.t.cell 2 _ rfl
  have tf2 := HP12.out.t.free 2 _ rfl
  have hSx : WZ.drew.cell? ⟨h, 2, none⟩ = some (.int .i64 x) := tc2
  have HZ0 : Hid (Blk WZ g0 (zR.cells 0 (.slice none 0 0))) := HG.out ▸ HP12.out.rz
  have zc0 := HZ0.out.cell 0 _ rfl
  have zf0 := HZ0.out.free 0 _ rfl
  have zc1 := HZ0.out.cell 1 _ rfl
  have zf1 := HZ0.out.free 1 _ rfl
  have zc2 := HZ0.out.cell 2 _ rfl
  have zf2 := HZ0.out.free 2 _ rfl
  have zc3 := HZ0.out.cell 3 _ rfl
  have zf3 := HZ0.out.free 3 _ rfl
  have zc4 := HZ0.out.cell 4 _ rfl
  have zf4 := HZ0.out.free 4 _ rfl
  have zc5 := HZ0.out.cell 5 _ rfl
  have zf5 := HZ0.out.free 5 _ rfl
  have zc6 := HZ0.out.cell 6 _ rfl
  have zf6 := HZ0.out.free 6 _ rfl
  have zc7 := HZ0.out.cell 7 _ rfl
  have zf7 := HZ0.out.free 7 _ rfl
  have zc8 := HZ0.out.cell 8 _ rfl
  have zf8 := HZ0.out.free 8 _ rfl
  have zc9 := HZ0.out.cell 9 _ rfl
  have zf9 := HZ0.out.free 9 _ rfl
  have zc10 := HZ0.out.cell 10 _ rfl
  have zf10 := HZ0.out.free 10 _ rfl
  have zc11 := HZ0.out.cell 11 _ rfl
  have zf11 := HZ0.out.free 11 _ rfl
  go_region_held3 (fun w' => w'.cell? ⟨h, 2, none⟩ = some (.int .i64 x)) (first | with_reducible assumption | with_reducible exact far12 ne2 (by with_reducible assumption) _ _ _ _ _ _ _ _ _ _ _ _ | with_reducible exact far12d ne2 (by with_reducible assumption) _ _ _ _ _ _ _ _ _ _ _ _) (fail)
  go_wp2
  have HZ := ((((((((((((HZ0.out.set 0 (.int .i64 0)).set 1 (.int .i64 0)).set 2 (.int .i64 0)).set 3 (.slice none 0 0)).set 4 (.int .i64 0)).set 5 (.int .i64 0)).set 6 (.int .i64 0)).set 7 (.int .i64 0)).set 8 (.int .i64 0)).set 9 (.string ⟨#[]⟩)).set 10 (.int .i64 0)).set 11 (.int .i64 0))
  have z0 := HZ.cell 0 _ rfl
  have z1 := HZ.cell 1 _ rfl
  have z2 := HZ.cell 2 _ rfl
  have z3 := HZ.cell 3 _ rfl
  have z4 := HZ.cell 4 _ rfl
  have z5 := HZ.cell 5 _ rfl
  have z6 := HZ.cell 6 _ rfl
  have z7 := HZ.cell 7 _ rfl
  have z8 := HZ.cell 8 _ rfl
  have z9 := HZ.cell 9 _ rfl
  have z10 := HZ.cell 10 _ rfl
  have z11 := HZ.cell 11 _ rfl
  refine bodyPost_ret (v := .tuple #[.agg #[.int .i64 0, .int .i64 0, .int .i64 0, .slice none 0 0, .int .i64 0, .int .i64 0, .int .i64 0, .int .i64 0, .int .i64 0, .string ⟨#[]⟩, .int .i64 0, .int .i64 0], .int .i64 0, .int .i64 x]) (by simp [results, Tryd.results54, go_sem, z0, z1, z2, z3, z4, z5, z6, z7, z8, z9, z10, z11]) rfl ?_
  exact ⟨none, 0, 0, rfl, OwnK.nil _ _ _ _, ((((((((((((HP12.out.bel.setCell (p := ⟨g0, 0, none⟩) (Nat.le_of_eq HG.out) _).setCell (p := ⟨g0, 1, none⟩) (Nat.le_of_eq HG.out) _).setCell (p := ⟨g0, 2, none⟩) (Nat.le_of_eq HG.out) _).setCell (p := ⟨g0, 3, none⟩) (Nat.le_of_eq HG.out) _).setCell (p := ⟨g0, 4, none⟩) (Nat.le_of_eq HG.out) _).setCell (p := ⟨g0, 5, none⟩) (Nat.le_of_eq HG.out) _).setCell (p := ⟨g0, 6, none⟩) (Nat.le_of_eq HG.out) _).setCell (p := ⟨g0, 7, none⟩) (Nat.le_of_eq HG.out) _).setCell (p := ⟨g0, 8, none⟩) (Nat.le_of_eq HG.out) _).setCell (p := ⟨g0, 9, none⟩) (Nat.le_of_eq HG.out) _).setCell (p := ⟨g0, 10, none⟩) (Nat.le_of_eq HG.out) _).setCell (p := ⟨g0, 11, none⟩) (Nat.le_of_eq HG.out) _).drew⟩

set_option maxHeartbeats 4000000 in
set_option maxRecDepth 100000 in
theorem refTake_P7 (a : Option Addr) (bs : List Int) (n cap : Nat) (w : World) (hn : n = bs.length) (hr : RowK .u8 w a bs) (hb : IsB bs) (hcap : bs.length ≤ cap) (hlen : bs.length ≤ 140737488355328) {t r : Int} {ds : List Int} {nt nr : Int} {pt pr : Int} {k0 m1 k1 m2 k2 m3 k3 m4 k4 m5 : Nat} {x : Int} (h0 : St.tkSt bs = (t, r, k0, 0)) (e1 : k0 = m1) (b1 : m1 ≤ bs.length) (h1 : Hv.tkV (bs.drop m1) = (ds, k1, 0)) (e2 : m1 + k1 = m2) (b2 : m2 ≤ bs.length) (h2 : tkN (bs.drop m2) = (1, k2, 0)) (e3 : m2 + k2 = m3) (b3 : m3 ≤ bs.length) (h3 : St.tkSt (bs.drop m3) = (nt, nr, k3, 0)) (e4 : m3 + k3 = m4) (b4 : m4 ≤ bs.length) (h4 : St.tkSt (bs.drop m4) = (pt, pr, k4, x)) (e5 : m4 + k4 = m5) (hx : x ≠ 0) : Calls Tryd.prog 54 #[.slice a n cap] w (TakeO (zR, 0, 0, x) w) := by
  obtain ⟨g0, hg0⟩ : ∃ g, w.heap.size = g := ⟨_, rfl⟩
  obtain ⟨h, hh⟩ : ∃ h, g0 + 1 = h := ⟨_, rfl⟩
  have HH : Hid (w.heap.size + 1 = h) := (by rw [hg0, hh] : w.heap.size + 1 = h)
  have HG : Hid (w.heap.size = g0) := hg0
  have HROW := Lib.hid (fun (W : World) (hb : Below w.heap.size w W) => hr.below hb (Nat.le_refl _))
  have htb := tk_build
  have hb1 := op_build1
  have hb0 := op_build0
  have hx' : (x == 0) = false := by simpa using hx
  have hxn : (x != 0) = true := by simpa using hx
  have C0 := Lib.hid (tstamp_zero h a bs n cap ((w.alloc (.cells #[.int .i64 0, .int .i64 0, .int .i64 0, .slice none 0 0, .int .i64 0, .int .i64 0, .int .i64 0, .int .i64 0, .int .i64 0, .string ⟨#[]⟩, .int .i64 0, .int .i64 0] 27)).alloc (.cells #[.slice a n cap, .int .i64 0, .int .i64 0] 85)) (tkr_new w a n cap _ HH.out) hn (HROW.out _ (St.below2 w _ _)) hb hcap hlen h0)
  rw [e1] at C0
  have hsl1 := fun W => slice_l W a n cap m1 (m1 : Int) rfl (by rw [hn]; exact b1)
  have C1 := Lib.hid (fun (W : World) (hB : Below w.heap.size w W) => Hv.refTake_is (partA a m1 cap) (bs.drop m1) (n - m1) (cap - m1) W (by rw [List.length_drop, hn]) ((HROW.out W hB).rest m1 cap hcap) (hb.drop m1) (by rw [List.length_drop]; omega) (by rw [List.length_drop]; omega) h1)
  have hz2 : (m1 : Int) + (k1 : Int) = (m2 : Int) := by omega
  have hy2 : (m2 : Int) ≤ 140737488355328 := by have := tkV_k (bs.drop m1) (hb.drop m1); rw [h1, List.length_drop] at this; simp only at this; omega
  have C2 := Lib.hid (fun (W : World) (hB : Below w.heap.size w W) (hT : Blk W h (tkrV a n cap (m2 : Int) 0)) => tnum_is h a bs n cap m2 W hT hn (HROW.out W hB) hb hcap hlen b2 h2 e3)
  have C3 := Lib.hid (fun (W : World) (hB : Below w.heap.size w W) (hT : Blk W h (tkrV a n cap (m3 : Int) 0)) => tstamp_is h a bs n cap m3 W hT hn (HROW.out W hB) hb hcap hlen b3 h3 e4)
  have C4 := Lib.hid (fun (W : World) (hB : Below w.heap.size w W) (hT : Blk W h (tkrV a n cap (m4 : Int) 0)) => tstamp_is h a bs n cap m4 W hT hn (HROW.out W hB) hb hcap hlen b4 h4 e5)
  clear hn hr hb hcap hlen h0 e1 h1 e2 h2 e3 h3 e4 h4 e5 b1 b2 b3 b4
  go_enter Tryd.func54, Tryd.ntmps54
  go_wp2_with fail
  refine (C0.out).mono ?_
  rintro e w1 ⟨rfl, hT, hg⟩
  obtain ⟨b, hbb⟩ : ∃ b, w1.heap.size = b := ⟨_, rfl⟩
  have HP1 := Lib.hid (PI.first (t := t) (r := r) HH.out hbb hT hg)
  have ne1 : h ≠ b := by have := HP1.out.hb; omega
  have ne2 : g0 ≠ h := by omega
  have ne3 : g0 ≠ b := by have := HP1.out.hb; omega
  have ne1' := Ne.symm ne1
  have ne2' := Ne.symm ne2
  have ne3' := Ne.symm ne3
  have tc2 := HP1.out.t.cell 2 _ rfl
  have tc1 := HP1.out.t.cell 1 _ rfl
  have hlt := hT.lt
  clear hT hg
  go_wp2_with fail
  generalize w1.alloc (.cells #[.int .i64 t, .int .i64 r, .int .i64 0, .slice none 0 0, .int .i64 0, .int .i64 0, .int .i64 0, .int .i64 0, .int .i64 0, .string ⟨#[]⟩, .int .i64 0, .int .i64 0] 27) = W1 at *
  clear hlt hbb hg0 hh
  refine (C1.out _ HP1.out.bel).mono ?_
  rintro e w2 ⟨v2, rfl, ho, hbl⟩
  obtain ⟨a2, n2, c2, rfl, hn2, hr2, hc2⟩ := ho.form'
  have HN2 := Lib.hid hn2
  have HO2 := Lib.hid (ho.mono (show b + 1 ≤ _ from HP1.out.size))
  have HP3 := Lib.hid (HP1.out.next hbl)
  clear ho hbl hn2 hr2 hc2
  clear tc1 tc2
  have tc1 := HP3.out.t.cell 1 _ rfl
  have tf1 := HP3.out.t.free 1 _ rfl
  have tc2 := HP3.out.t.cell 2 _ rfl
  have tf2 := HP3.out.t.free 2 _ rfl
  have oc3 := HP3.out.o.cell 3 _ rfl
  have of3 := HP3.out.o.free 3 _ rfl
  have HP4 := Lib.hid (((HP3.out.putD HO2.out).setT (m2 : Int) 0))
  go_wp2_with fail
  refine (C2.out _ HP4.out.bel HP4.out.t).mono ?_
  rintro e w5 ⟨rfl, hT, hg⟩
  have HP5 := Lib.hid (HP4.out.grown hg hT)
  clear hT hg
  clear tc1 tf1 tc2 tf2 oc3 of3
  have tc1 := HP5.out.t.cell 1 _ rfl
  have tf1 := HP5.out.t.free 1 _ rfl
  have tc2 := HP5.out.t.cell 2 _ rfl
  have tf2 := HP5.out.t.free 2 _ rfl
  have oc4 := HP5.out.o.cell 4 _ rfl
  have of4 := HP5.out.o.free 4 _ rfl
  have HP6 := Lib.hid (HP5.out.put 4 (.int .i64 1) (R' := (⟨t, r, ds, 1, 0, 0, 0, 0, ⟨#[]⟩, 0, 0⟩ : OpR)) rfl rfl)
  go_wp2_with fail
  refine (C3.out _ HP6.out.bel HP6.out.t).mono ?_
  rintro e w7 ⟨rfl, hT, hg⟩
  have HP7 := Lib.hid (HP6.out.grown hg hT)
  clear hT hg
  clear tc1 tf1 tc2 tf2 oc4 of4
  have tc2 := HP7.out.t.cell 2 _ rfl
  have tf2 := HP7.out.t.free 2 _ rfl
  have oc4 := HP7.out.o.cell 4 _ rfl
  have of4 := HP7.out.o.free 4 _ rfl
  have oc5 := HP7.out.o.cell 5 _ rfl
  have of5 := HP7.out.o.free 5 _ rfl
  have oc6 := HP7.out.o.cell 6 _ rfl
  have of6 := HP7.out.o.free 6 _ rfl
  have HP8 := Lib.hid (HP7.out.put2 5 6 (.int .i64 nt) (.int .i64 nr) (R' := (⟨t, r, ds, 1, nt, nr, 0, 0, ⟨#[]⟩, 0, 0⟩ : OpR)) rfl rfl)
  go_wp2_with fail
  refine (C4.out _ HP8.out.bel HP8.out.t).mono ?_
  rintro e w9 ⟨rfl, hT, hg⟩
  have HP9 := Lib.hid (HP8.out.grown hg hT)
  clear hT hg
  clear tc2 tf2 oc4 of4 oc5 of5 oc6 of6
  have tc1 := HP9.out.t.cell 1 _ rfl
  have tf1 := HP9.out.t.free 1 _ rfl
  have tc2 := HP9.out.t.cell 2 _ rfl
  have tf2 := HP9.out.t.free 2 _ rfl
  have oc7 := HP9.out.o.cell 7 _ rfl
  have of7 := HP9.out.o.free 7 _ rfl
  have oc8 := HP9.out.o.cell 8 _ rfl
  have of8 := HP9.out.o.free 8 _ rfl
  have HP10 := Lib.hid (HP9.out.put2 7 8 (.int .i64 pt) (.int .i64 pr) (R' := (⟨t, r, ds, 1, nt, nr, pt, pr, ⟨#[]⟩, 0, 0⟩ : OpR)) rfl rfl)
  go_wp2_with fail
  generalize ((w9.setCell ⟨b, 7, none⟩ (.int .i64 pt)).setCell ⟨b, 8, none⟩ (.int .i64 pr)) = WZ at *
  clear tc1 tf1 tc2 tf2 oc7 of7 oc8 of8
  have tc2 := HP10.out.t.cell 2 _ rfl
  have tf2 := HP10.out.t.free 2 _ rfl
  have hSx : WZ.drew.cell? ⟨h, 2, none⟩ = some (.int .i64 x) := tc2
  have HZ0 : Hid (Blk WZ g0 (zR.cells 0 (.slice none 0 0))) := HG.out ▸ HP10.out.rz
  have zc0 := HZ0.out.cell 0 _ rfl
  have zf0 := HZ0.out.free 0 _ rfl
  have zc1 := HZ0.out.cell 1 _ rfl
  have zf1 := HZ0.out.free 1 _ rfl
  have zc2 := HZ0.out.cell 2 _ rfl
  have zf2 := HZ0.out.free 2 _ rfl
  have zc3 := HZ0.out.cell 3 _ rfl
  have zf3 := HZ0.out.free 3 _ rfl
  have zc4 := HZ0.out.cell 4 _ rfl
  have zf4 := HZ0.out.free 4 _ rfl
  have zc5 := HZ0.out.cell 5 _ rfl
  have zf5 := HZ0.out.free 5 _ rfl
  have zc6 := HZ0.out.cell 6 _ rfl
  have zf6 := HZ0.out.free 6 _ rfl
  have zc7 := HZ0.out.cell 7 _ rfl
  have zf7 := HZ0.out.free 7 _ rfl
  have zc8 := HZ0.out.cell 8 _ rfl
  have zf8 := HZ0.out.free 8 _ rfl
  have zc9 := HZ0.out.cell 9 _ rfl
  have zf9 := HZ0.out.free 9 _ rfl
  have zc10 := HZ0.out.cell 10 _ rfl
  have zf10 := HZ0.out.free 10 _ rfl
  have zc11 := HZ0.out.cell 11 _ rfl
  have zf11 := HZ0.out.free 11 _ rfl
  go_region_held3 (fun w' => w'.cell? ⟨h, 2, none⟩ = some (.int .i64 x)) (first | with_reducible assumption | with_reducible exact far12 ne2 (by with_reducible assumption) _ _ _ _ _ _ _ _ _ _ _ _ | with_reducible exact far12d ne2 (by with_reducible assumption) _ _ _ _ _ _ _ _ _ _ _ _) (fail)
  go_wp2
  have HZ := ((((((((((((HZ0.out.set 0 (.int .i64 0)).set 1 (.int .i64 0)).set 2 (.int .i64 0)).set 3 (.slice none 0 0)).set 4 (.int .i64 0)).set 5 (.int .i64 0)).set 6 (.int .i64 0)).set 7 (.int .i64 0)).set 8 (.int .i64 0)).set 9 (.string ⟨#[]⟩)).set 10 (.int .i64 0)).set 11 (.int .i64 0))
  have z0 := HZ.cell 0 _ rfl
  have z1 := HZ.cell 1 _ rfl
  have z2 := HZ.cell 2 _ rfl
  have z3 := HZ.cell 3 _ rfl
  have z4 := HZ.cell 4 _ rfl
  have z5 := HZ.cell 5 _ rfl
  have z6 := HZ.cell 6 _ rfl
  have z7 := HZ.cell 7 _ rfl
  have z8 := HZ.cell 8 _ rfl
  have z9 := HZ.cell 9 _ rfl
  have z10 := HZ.cell 10 _ rfl
  have z11 := HZ.cell 11 _ rfl
  refine bodyPost_ret (v := .tuple #[.agg #[.int .i64 0, .int .i64 0, .int .i64 0, .slice none 0 0, .int .i64 0, .int .i64 0, .int .i64 0, .int .i64 0, .int .i64 0, .string ⟨#[]⟩, .int .i64 0, .int .i64 0], .int .i64 0, .int .i64 x]) (by simp [results, Tryd.results54, go_sem, z0, z1, z2, z3, z4, z5, z6, z7, z8, z9, z10, z11]) rfl ?_
  exact ⟨none, 0, 0, rfl, OwnK.nil _ _ _ _, ((((((((((((HP10.out.bel.setCell (p := ⟨g0, 0, none⟩) (Nat.le_of_eq HG.out) _).setCell (p := ⟨g0, 1, none⟩) (Nat.le_of_eq HG.out) _).setCell (p := ⟨g0, 2, none⟩) (Nat.le_of_eq HG.out) _).setCell (p := ⟨g0, 3, none⟩) (Nat.le_of_eq HG.out) _).setCell (p := ⟨g0, 4, none⟩) (Nat.le_of_eq HG.out) _).setCell (p := ⟨g0, 5, none⟩) (Nat.le_of_eq HG.out) _).setCell (p := ⟨g0, 6, none⟩) (Nat.le_of_eq HG.out) _).setCell (p := ⟨g0, 7, none⟩) (Nat.le_of_eq HG.out) _).setCell (p := ⟨g0, 8, none⟩) (Nat.le_of_eq HG.out) _).setCell (p := ⟨g0, 9, none⟩) (Nat.le_of_eq HG.out) _).setCell (p := ⟨g0, 10, none⟩) (Nat.le_of_eq HG.out) _).setCell (p := ⟨g0, 11, none⟩) (Nat.le_of_eq HG.out) _).drew⟩

set_option maxHeartbeats 4000000 in
set_option maxRecDepth 100000 in
theorem refTake_P8 (a : Option Addr) (bs : List Int) (n cap : Nat) (w : World) (hn : n = bs.length) (hr : RowK .u8 w a bs) (hb : IsB bs) (hcap : bs.length ≤ cap) (hlen : bs.length ≤ 140737488355328) {t r : Int} {ds : List Int} {nt nr : Int} {pt pr : Int} {s : ByteArray} {k0 m1 k1 m2 k2 m3 k3 m4 k4 m5 k5 m6 : Nat} {x : Int} (h0 : St.tkSt bs = (t, r, k0, 0)) (e1 : k0 = m1) (b1 : m1 ≤ bs.length) (h1 : Hv.tkV (bs.drop m1) = (ds, k1, 0)) (e2 : m1 + k1 = m2) (b2 : m2 ≤ bs.length) (h2 : tkN (bs.drop m2) = (1, k2, 0)) (e3 : m2 + k2 = m3) (b3 : m3 ≤ bs.length) (h3 : St.tkSt (bs.drop m3) = (nt, nr, k3, 0)) (e4 : m3 + k3 = m4) (b4 : m4 ≤ bs.length) (h4 : St.tkSt (bs.drop m4) = (pt, pr, k4, 0)) (e5 : m4 + k4 = m5) (b5 : m5 ≤ bs.length) (h5 : tkS (bs.drop m5) = (s, k5, x)) (e6 : m5 + k5 = m6) (hx : x ≠ 0) : Calls Tryd.prog 54 #[.slice a n cap] w (TakeO (zR, 0, 0, x) w) := by
  obtain ⟨g0, hg0⟩ : ∃ g, w.heap.size = g := ⟨_, rfl⟩
  obtain ⟨h, hh⟩ : ∃ h, g0 + 1 = h := ⟨_, rfl⟩
  have HH : Hid (w.heap.size + 1 = h) := (by rw [hg0, hh] : w.heap.size + 1 = h)
  have HG : Hid (w.heap.size = g0) := hg0
  have HROW := Lib.hid (fun (W : World) (hb : Below w.heap.size w W) => hr.below hb (Nat.le_refl _))
  have htb := tk_build
  have hb1 := op_build1
  have hb0 := op_build0
  have hx' : (x == 0) = false := by simpa using hx
  have hxn : (x != 0) = true := by simpa using hx
  have C0 := Lib.hid (tstamp_zero h a bs n cap ((w.alloc (.cells #[.int .i64 0, .int .i64 0, .int .i64 0, .slice none 0 0, .int .i64 0, .int .i64 0, .int .i64 0, .int .i64 0, .int .i64 0, .string ⟨#[]⟩, .int .i64 0, .int .i64 0] 27)).alloc (.cells #[.slice a n cap, .int .i64 0, .int .i64 0] 85)) (tkr_new w a n cap _ HH.out) hn (HROW.out _ (St.below2 w _ _)) hb hcap hlen h0)
  rw [e1] at C0
  have hsl1 := fun W => slice_l W a n cap m1 (m1 : Int) rfl (by rw [hn]; exact b1)
  have C1 := Lib.hid (fun (W : World) (hB : Below w.heap.size w W) => Hv.refTake_is (partA a m1 cap) (bs.drop m1) (n - m1) (cap - m1) W (by rw [List.length_drop, hn]) ((HROW.out W hB).rest m1 cap hcap) (hb.drop m1) (by rw [List.length_drop]; omega) (by rw [List.length_drop]; omega) h1)
  have hz2 : (m1 : Int) + (k1 : Int) = (m2 : Int) := by omega
  have hy2 : (m2 : Int) ≤ 140737488355328 := by have := tkV_k (bs.drop m1) (hb.drop m1); rw [h1, List.length_drop] at this; simp only at this; omega
  have C2 := Lib.hid (fun (W : World) (hB : Below w.heap.size w W) (hT : Blk W h (tkrV a n cap (m2 : Int) 0)) => tnum_is h a bs n cap m2 W hT hn (HROW.out W hB) hb hcap hlen b2 h2 e3)
  have C3 := Lib.hid (fun (W : World) (hB : Below w.heap.size w W) (hT : Blk W h (tkrV a n cap (m3 : Int) 0)) => tstamp_is h a bs n cap m3 W hT hn (HROW.out W hB) hb hcap hlen b3 h3 e4)
  have C4 := Lib.hid (fun (W : World) (hB : Below w.heap.size w W) (hT : Blk W h (tkrV a n cap (m4 : Int) 0)) => tstamp_is h a bs n cap m4 W hT hn (HROW.out W hB) hb hcap hlen b4 h4 e5)
  have hsl5 := fun W => slice_l W a n cap m5 (m5 : Int) rfl (by rw [hn]; exact b5)
  have C5 := Lib.hid (fun (W : World) (hB : Below w.heap.size w W) => refTakeText_n (partA a m5 cap) (bs.drop m5) (n - m5) (cap - m5) W (by rw [List.length_drop, hn]) ((HROW.out W hB).rest m5 cap hcap) (hb.drop m5) (by rw [List.length_drop]; omega) (by rw [List.length_drop]; omega) h5)
  have hz6 : (m5 : Int) + (k5 : Int) = (m6 : Int) := by omega
  have hy6 : (m6 : Int) ≤ 140737488355328 := by have := tkS_k (bs.drop m5) (hb.drop m5); rw [h5, List.length_drop] at this; simp only at this; omega
  clear hn hr hb hcap hlen h0 e1 h1 e2 h2 e3 h3 e4 h4 e5 h5 e6 b1 b2 b3 b4 b5
  go_enter Tryd.func54, Tryd.ntmps54
  go_wp2_with fail
  refine (C0.out).mono ?_
  rintro e w1 ⟨rfl, hT, hg⟩
  obtain ⟨b, hbb⟩ : ∃ b, w1.heap.size = b := ⟨_, rfl⟩
  have HP1 := Lib.hid (PI.first (t := t) (r := r) HH.out hbb hT hg)
  have ne1 : h ≠ b := by have := HP1.out.hb; omega
  have ne2 : g0 ≠ h := by omega
  have ne3 : g0 ≠ b := by have := HP1.out.hb; omega
  have ne1' := Ne.symm ne1
  have ne2' := Ne.symm ne2
  have ne3' := Ne.symm ne3
  have tc2 := HP1.out.t.cell 2 _ rfl
  have tc1 := HP1.out.t.cell 1 _ rfl
  have hlt := hT.lt
  clear hT hg
  go_wp2_with fail
  generalize w1.alloc (.cells #[.int .i64 t, .int .i64 r, .int .i64 0, .slice none 0 0, .int .i64 0, .int .i64 0, .int .i64 0, .int .i64 0, .int .i64 0, .string ⟨#[]⟩, .int .i64 0, .int .i64 0] 27) = W1 at *
  clear hlt hbb hg0 hh
  refine (C1.out _ HP1.out.bel).mono ?_
  rintro e w2 ⟨v2, rfl, ho, hbl⟩
  obtain ⟨a2, n2, c2, rfl, hn2, hr2, hc2⟩ := ho.form'
  have HN2 := Lib.hid hn2
  have HO2 := Lib.hid (ho.mono (show b + 1 ≤ _ from HP1.out.size))
  have HP3 := Lib.hid (HP1.out.next hbl)
  clear ho hbl hn2 hr2 hc2
  clear tc1 tc2
  have tc1 := HP3.out.t.cell 1 _ rfl
  have tf1 := HP3.out.t.free 1 _ rfl
  have tc2 := HP3.out.t.cell 2 _ rfl
  have tf2 := HP3.out.t.free 2 _ rfl
  have oc3 := HP3.out.o.cell 3 _ rfl
  have of3 := HP3.out.o.free 3 _ rfl
  have HP4 := Lib.hid (((HP3.out.putD HO2.out).setT (m2 : Int) 0))
  go_wp2_with fail
  refine (C2.out _ HP4.out.bel HP4.out.t).mono ?_
  rintro e w5 ⟨rfl, hT, hg⟩
  have HP5 := Lib.hid (HP4.out.grown hg hT)
  clear hT hg
  clear tc1 tf1 tc2 tf2 oc3 of3
  have tc1 := HP5.out.t.cell 1 _ rfl
  have tf1 := HP5.out.t.free 1 _ rfl
  have tc2 := HP5.out.t.cell 2 _ rfl
  have tf2 := HP5.out.t.free 2 _ rfl
  have oc4 := HP5.out.o.cell 4 _ rfl
  have of4 := HP5.out.o.free 4 _ rfl
  have HP6 := Lib.hid (HP5.out.put 4 (.int .i64 1) (R' := (⟨t, r, ds, 1, 0, 0, 0, 0, ⟨#[]⟩, 0, 0⟩ : OpR)) rfl rfl)
  go_wp2_with fail
  refine (C3.out _ HP6.out.bel HP6.out.t).mono ?_
  rintro e w7 ⟨rfl, hT, hg⟩
  have HP7 := Lib.hid (HP6.out.grown hg hT)
  clear hT hg
  clear tc1 tf1 tc2 tf2 oc4 of4
  have tc2 := HP7.out.t.cell 2 _ rfl
  have tf2 := HP7.out.t.free 2 _ rfl
  have oc4 := HP7.out.o.cell 4 _ rfl
  have of4 := HP7.out.o.free 4 _ rfl
  have oc5 := HP7.out.o.cell 5 _ rfl
  have of5 := HP7.out.o.free 5 _ rfl
  have oc6 := HP7.out.o.cell 6 _ rfl
  have of6 := HP7.out.o.free 6 _ rfl
  have HP8 := Lib.hid (HP7.out.put2 5 6 (.int .i64 nt) (.int .i64 nr) (R' := (⟨t, r, ds, 1, nt, nr, 0, 0, ⟨#[]⟩, 0, 0⟩ : OpR)) rfl rfl)
  go_wp2_with fail
  refine (C4.out _ HP8.out.bel HP8.out.t).mono ?_
  rintro e w9 ⟨rfl, hT, hg⟩
  have HP9 := Lib.hid (HP8.out.grown hg hT)
  clear hT hg
  clear tc2 tf2 oc4 of4 oc5 of5 oc6 of6
  have tc1 := HP9.out.t.cell 1 _ rfl
  have tf1 := HP9.out.t.free 1 _ rfl
  have tc2 := HP9.out.t.cell 2 _ rfl
  have tf2 := HP9.out.t.free 2 _ rfl
  have oc7 := HP9.out.o.cell 7 _ rfl
  have of7 := HP9.out.o.free 7 _ rfl
  have oc8 := HP9.out.o.cell 8 _ rfl
  have of8 := HP9.out.o.free 8 _ rfl
  have HP10 := Lib.hid (HP9.out.put2 7 8 (.int .i64 pt) (.int .i64 pr) (R' := (⟨t, r, ds, 1, nt, nr, pt, pr, ⟨#[]⟩, 0, 0⟩ : OpR)) rfl rfl)
  go_wp2_with fail
  refine (C5.out _ HP10.out.bel).mono ?_
  rintro e w99 ⟨rfl, rfl⟩
  clear tc1 tf1 tc2 tf2 oc7 of7 oc8 of8
  have tc1 := HP10.out.t.cell 1 _ rfl
  have tf1 := HP10.out.t.free 1 _ rfl
  have tc2 := HP10.out.t.cell 2 _ rfl
  have tf2 := HP10.out.t.free 2 _ rfl
  have oc9 := HP10.out.o.cell 9 _ rfl
  have of9 := HP10.out.o.free 9 _ rfl
  have HP11 := Lib.hid ((HP10.out.put 9 (.string s) (R' := (⟨t, r, ds, 1, nt, nr, pt, pr, s, 0, 0⟩ : OpR)) rfl rfl).setT (m6 : Int) x)
  go_wp2_with fail
  generalize (((((w9.setCell ⟨b, 7, none⟩ (.int .i64 pt)).setCell ⟨b, 8, none⟩ (.int .i64 pr)).setCell ⟨b, 9, none⟩ (.string s)).setCell ⟨h, 1, none⟩ (.int .i64 (m6 : Int))).setCell ⟨h, 2, none⟩ (.int .i64 x)) = WZ at *
  clear tc1 tf1 tc2 tf2 oc9 of9
  have tc2 := HP11.out.t.cell 2 _ rfl
  have tf2 := HP11.out.t.free 2 _ rfl
  have hSx : WZ.drew.cell? ⟨h, 2, none⟩ = some (.int .i64 x) := tc2
  have HZ0 : Hid (Blk WZ g0 (zR.cells 0 (.slice none 0 0))) := HG.out ▸ HP11.out.rz
  have zc0 := HZ0.out.cell 0 _ rfl
  have zf0 := HZ0.out.free 0 _ rfl
  have zc1 := HZ0.out.cell 1 _ rfl
  have zf1 := HZ0.out.free 1 _ rfl
  have zc2 := HZ0.out.cell 2 _ rfl
  have zf2 := HZ0.out.free 2 _ rfl
  have zc3 := HZ0.out.cell 3 _ rfl
  have zf3 := HZ0.out.free 3 _ rfl
  have zc4 := HZ0.out.cell 4 _ rfl
  have zf4 := HZ0.out.free 4 _ rfl
  have zc5 := HZ0.out.cell 5 _ rfl
  have zf5 := HZ0.out.free 5 _ rfl
  have zc6 := HZ0.out.cell 6 _ rfl
  have zf6 := HZ0.out.free 6 _ rfl
  have zc7 := HZ0.out.cell 7 _ rfl
  have zf7 := HZ0.out.free 7 _ rfl
  have zc8 := HZ0.out.cell 8 _ rfl
  have zf8 := HZ0.out.free 8 _ rfl
  have zc9 := HZ0.out.cell 9 _ rfl
  have zf9 := HZ0.out.free 9 _ rfl
  have zc10 := HZ0.out.cell 10 _ rfl
  have zf10 := HZ0.out.free 10 _ rfl
  have zc11 := HZ0.out.cell 11 _ rfl
  have zf11 := HZ0.out.free 11 _ rfl
  go_region_held3 (fun w' => w'.cell? ⟨h, 2, none⟩ = some (.int .i64 x)) (first | with_reducible assumption | with_reducible exact far12 ne2 (by with_reducible assumption) _ _ _ _ _ _ _ _ _ _ _ _ | with_reducible exact far12d ne2 (by with_reducible assumption) _ _ _ _ _ _ _ _ _ _ _ _) (fail)
  go_wp2
  have HZ := ((((((((((((HZ0.out.set 0 (.int .i64 0)).set 1 (.int .i64 0)).set 2 (.int .i64 0)).set 3 (.slice none 0 0)).set 4 (.int .i64 0)).set 5 (.int .i64 0)).set 6 (.int .i64 0)).set 7 (.int .i64 0)).set 8 (.int .i64 0)).set 9 (.string ⟨#[]⟩)).set 10 (.int .i64 0)).set 11 (.int .i64 0))
  have z0 := HZ.cell 0 _ rfl
  have z1 := HZ.cell 1 _ rfl
  have z2 := HZ.cell 2 _ rfl
  have z3 := HZ.cell 3 _ rfl
  have z4 := HZ.cell 4 _ rfl
  have z5 := HZ.cell 5 _ rfl
  have z6 := HZ.cell 6 _ rfl
  have z7 := HZ.cell 7 _ rfl
  have z8 := HZ.cell 8 _ rfl
  have z9 := HZ.cell 9 _ rfl
  have z10 := HZ.cell 10 _ rfl
  have z11 := HZ.cell 11 _ rfl
  refine bodyPost_ret (v := .tuple #[.agg #[.int .i64 0, .int .i64 0, .int .i64 0, .slice none 0 0, .int .i64 0, .int .i64 0, .int .i64 0, .int .i64 0, .int .i64 0, .string ⟨#[]⟩, .int .i64 0, .int .i64 0], .int .i64 0, .int .i64 x]) (by simp [results, Tryd.results54, go_sem, z0, z1, z2, z3, z4, z5, z6, z7, z8, z9, z10, z11]) rfl ?_
  exact ⟨none, 0, 0, rfl, OwnK.nil _ _ _ _, ((((((((((((HP11.out.bel.setCell (p := ⟨g0, 0, none⟩) (Nat.le_of_eq HG.out) _).setCell (p := ⟨g0, 1, none⟩) (Nat.le_of_eq HG.out) _).setCell (p := ⟨g0, 2, none⟩) (Nat.le_of_eq HG.out) _).setCell (p := ⟨g0, 3, none⟩) (Nat.le_of_eq HG.out) _).setCell (p := ⟨g0, 4, none⟩) (Nat.le_of_eq HG.out) _).setCell (p := ⟨g0, 5, none⟩) (Nat.le_of_eq HG.out) _).setCell (p := ⟨g0, 6, none⟩) (Nat.le_of_eq HG.out) _).setCell (p := ⟨g0, 7, none⟩) (Nat.le_of_eq HG.out) _).setCell (p := ⟨g0, 8, none⟩) (Nat.le_of_eq HG.out) _).setCell (p := ⟨g0, 9, none⟩) (Nat.le_of_eq HG.out) _).setCell (p := ⟨g0, 10, none⟩) (Nat.le_of_eq HG.out) _).setCell (p := ⟨g0, 11, none⟩) (Nat.le_of_eq HG.out) _).drew⟩
end Go.Proofs.YtfhppfbmnnkikaaDoor
