/- Joined: OPb. -/
import Derived.Test.YtfhppfbmnnkikaaDoorZF
import Derived.Test.YtfhppfbmnnkikaaDoorZG

/- The page's Take, way by way, and as a whole. -/
namespace Go.Proofs.YtfhppfbmnnkikaaDoor
open Go.RowKit Go.Lib
set_option linter.unusedVariables false

set_option maxHeartbeats 4000000 in
set_option maxRecDepth 100000 in
theorem refTake_P9 (a : Option Addr) (bs : List Int) (n cap : Nat) (w : World) (hn : n = bs.length) (hr : RowK .u8 w a bs) (hb : IsB bs) (hcap : bs.length ≤ cap) (hlen : bs.length ≤ 140737488355328) {t r : Int} {ds : List Int} {nt nr : Int} {p : Int} {k0 m1 k1 m2 k2 m3 k3 m4 k4 m5 : Nat} {x : Int} (h0 : St.tkSt bs = (t, r, k0, 0)) (e1 : k0 = m1) (b1 : m1 ≤ bs.length) (h1 : Hv.tkV (bs.drop m1) = (ds, k1, 0)) (e2 : m1 + k1 = m2) (b2 : m2 ≤ bs.length) (h2 : tkN (bs.drop m2) = (2, k2, 0)) (e3 : m2 + k2 = m3) (b3 : m3 ≤ bs.length) (h3 : St.tkSt (bs.drop m3) = (nt, nr, k3, 0)) (e4 : m3 + k3 = m4) (b4 : m4 ≤ bs.length) (h4 : tkN (bs.drop m4) = (p, k4, x)) (e5 : m4 + k4 = m5) (hx : x ≠ 0) : Calls Tryd.prog 54 #[.slice a n cap] w (TakeO (zR, 0, 0, x) w) := by
  obtain ⟨g0, hg0⟩ : ∃ g, w.heap.size = g := ⟨_, rfl⟩
  obtain ⟨h, hh⟩ : ∃ h, g0 + 1 = h := ⟨_, rfl⟩
  have HH : Hid (w.heap.size + 1 = h) := (by rw [hg0, hh] : w.heap.size + 1 = h)
  have HG : Hid (w.heap.size = g0) := hg0
  have HROW := Lib.hid (fun (W : World) (hb : Below w.heap.size w W) => hr.below hb (Nat.le_refl _))
  have htb := tk_build
  have hb1 := op_build1
  have hb0 := op_build0
  have hx' : (x == 0) = false := by simpa using hx
  have hxn : (x != 0) = true := by simpa using hx
  have C0 := Lib.hid (tstamp_zero h a bs n cap ((w.alloc (.cells #[.int .i64 0, .int .i64 0, .int .i64 0, .slice none 0 0, .int .i64 0, .int .i64 0, .int .i64 0, .int .i64 0, .int .i64 0, .string ⟨#[]⟩, .int .i64 0, .int .i64 0] 27)).alloc (.cells #[.slice a n cap, .int .i64 0, .int .i64 0] 85)) (tkr_new w a n cap _ HH.out) hn (HROW.out _ (St.below2 w _ _)) hb hcap hlen h0)
  rw [e1] at C0
  have hsl1 := fun W => slice_l W a n cap m1 (m1 : Int) rfl (by rw [hn]; exact b1)
  have C1 := Lib.hid (fun (W : World) (hB : Below w.heap.size w W) => Hv.refTake_is (partA a m1 cap) (bs.drop m1) (n - m1) (cap - m1) W (by rw [List.length_drop, hn]) ((HROW.out W hB).rest m1 cap hcap) (hb.drop m1) (by rw [List.length_drop]; omega) (by rw [List.length_drop]; omega) h1)
  have hz2 : (m1 : Int) + (k1 : Int) = (m2 : Int) := by omega
  have hy2 : (m2 : Int) ≤ 140737488355328 := by have := tkV_k (bs.drop m1) (hb.drop m1); rw [h1, List.length_drop] at this; simp only at this; omega
  have C2 := Lib.hid (fun (W : World) (hB : Below w.heap.size w W) (hT : Blk W h (tkrV a n cap (m2 : Int) 0)) => tnum_is h a bs n cap m2 W hT hn (HROW.out W hB) hb hcap hlen b2 h2 e3)
  have C3 := Lib.hid (fun (W : World) (hB : Below w.heap.size w W) (hT : Blk W h (tkrV a n cap (m3 : Int) 0)) => tstamp_is h a bs n cap m3 W hT hn (HROW.out W hB) hb hcap hlen b3 h3 e4)
  have C4 := Lib.hid (fun (W : World) (hB : Below w.heap.size w W) (hT : Blk W h (tkrV a n cap (m4 : Int) 0)) => tnum_is h a bs n cap m4 W hT hn (HROW.out W hB) hb hcap hlen b4 h4 e5)
  clear hn hr hb hcap hlen h0 e1 h1 e2 h2 e3 h3 e4 h4 e5 b1 b2 b3 b4
  go_enter Tryd.func54, Tryd.ntmps54
  go_wp2_with fail
  refine (C0.out).mono ?_
  rintro e w1 ⟨rfl, hT, hg⟩
  obtain ⟨b, hbb⟩ : ∃ b, w1.heap.size = b := ⟨_, rfl⟩
  have HP1 := Lib.hid (PI.first (t := t) (r := r) HH.out hbb hT hg)
  have ne1 : h ≠ b := by have := HP1.out.hb; omega
  have ne2 : g0 ≠ h := by omega
  have ne3 : g0 ≠ b := by have := HP1.out.hb; omega
  have ne1' := Ne.symm ne1
  have ne2' := Ne.symm ne2
  have ne3' := Ne.symm ne3
  have tc2 := HP1.out.t.cell 2 _ rfl
  have tc1 := HP1.out.t.cell 1 _ rfl
  have hlt := hT.lt
  clear hT hg
  go_wp2_with fail
  generalize w1.alloc (.cells #[.int .i64 t, .int .i64 r, .int .i64 0, .slice none 0 0, .int .i64 0, .int .i64 0, .int .i64 0, .int .i64 0, .int .i64 0, .string ⟨#[]⟩, .int .i64 0, .int .i64 0] 27) = W1 at *
  clear hlt hbb hg0 hh
  refine (C1.out _ HP1.out.bel).mono ?_
  rintro e w2 ⟨v2, rfl, ho, hbl⟩
  obtain ⟨a2, n2, c2, rfl, hn2, hr2, hc2⟩ := ho.form'
  have HN2 := Lib.hid hn2
  have HO2 := Lib.hid (ho.mono (show b + 1 ≤ _ from HP1.out.size))
  have HP3 := Lib.hid (HP1.out.next hbl)
  clear ho hbl hn2 hr2 hc2
  clear tc1 tc2
  have tc1 := HP3.out.t.cell 1 _ rfl
  have tf1 := HP3.out.t.free 1 _ rfl
  have tc2 := HP3.out.t.cell 2 _ rfl
  have tf2 := HP3.out.t.free 2 _ rfl
  have oc3 := HP3.out.o.cell 3 _ rfl
  have of3 := HP3.out.o.free 3 _ rfl
  have HP4 := Lib.hid (((HP3.out.putD HO2.out).setT (m2 : Int) 0))
  go_wp2_with fail
  refine (C2.out _ HP4.out.bel HP4.out.t).mono ?_
  rintro e w5 ⟨rfl, hT, hg⟩
  have HP5 := Lib.hid (HP4.out.grown hg hT)
  clear hT hg
  clear tc1 tf1 tc2 tf2 oc3 of3
  have tc1 := HP5.out.t.cell 1 _ rfl
  have tf1 := HP5.out.t.free 1 _ rfl
  have tc2 := HP5.out.t.cell 2 _ rfl
  have tf2 := HP5.out.t.free 2 _ rfl
  have oc4 := HP5.out.o.cell 4 _ rfl
  have of4 := HP5.out.o.free 4 _ rfl
  have HP6 := Lib.hid (HP5.out.put 4 (.int .i64 2) (R' := (⟨t, r, ds, 2, 0, 0, 0, 0, ⟨#[]⟩, 0, 0⟩ : OpR)) rfl rfl)
  go_wp2_with fail
  refine (C3.out _ HP6.out.bel HP6.out.t).mono ?_
  rintro e w7 ⟨rfl, hT, hg⟩
  have HP7 := Lib.hid (HP6.out.grown hg hT)
  clear hT hg
  clear tc1 tf1 tc2 tf2 oc4 of4
  have tc2 := HP7.out.t.cell 2 _ rfl
  have tf2 := HP7.out.t.free 2 _ rfl
  have oc4 := HP7.out.o.cell 4 _ rfl
  have of4 := HP7.out.o.free 4 _ rfl
  have oc5 := HP7.out.o.cell 5 _ rfl
  have of5 := HP7.out.o.free 5 _ rfl
  have oc6 := HP7.out.o.cell 6 _ rfl
  have of6 := HP7.out.o.free 6 _ rfl
  have HP8 := Lib.hid (HP7.out.put2 5 6 (.int .i64 nt) (.int .i64 nr) (R' := (⟨t, r, ds, 2, nt, nr, 0, 0, ⟨#[]⟩, 0, 0⟩ : OpR)) rfl rfl)
  go_wp2_with fail
  refine (C4.out _ HP8.out.bel HP8.out.t).mono ?_
  rintro e w9 ⟨rfl, hT, hg⟩
  have HP9 := Lib.hid (HP8.out.grown hg hT)
  clear hT hg
  clear tc2 tf2 oc4 of4 oc5 of5 oc6 of6
  have tc2 := HP9.out.t.cell 2 _ rfl
  have tf2 := HP9.out.t.free 2 _ rfl
  have oc10 := HP9.out.o.cell 10 _ rfl
  have of10 := HP9.out.o.free 10 _ rfl
  have HP10 := Lib.hid (HP9.out.put 10 (.int .i64 p) (R' := (⟨t, r, ds, 2, nt, nr, 0, 0, ⟨#[]⟩, p, 0⟩ : OpR)) rfl rfl)
  go_wp2_with fail
  refine (tnum_off h a n cap _ x _ HP10.out.t hx).mono ?_
  rintro e w11 ⟨rfl, hT, hg⟩
  have HP11 := Lib.hid (HP10.out.grown hg hT)
  clear hT hg
  clear tc2 tf2 oc10 of10
  have tc1 := HP11.out.t.cell 1 _ rfl
  have tf1 := HP11.out.t.free 1 _ rfl
  have tc2 := HP11.out.t.cell 2 _ rfl
  have tf2 := HP11.out.t.free 2 _ rfl
  have oc11 := HP11.out.o.cell 11 _ rfl
  have of11 := HP11.out.o.free 11 _ rfl
  have HP12 := Lib.hid (HP11.out.put 11 (.int .i64 (-1)) (R' := (⟨t, r, ds, 2, nt, nr, 0, 0, ⟨#[]⟩, p, (-1)⟩ : OpR)) rfl rfl)
  go_wp2_with fail
  generalize (w11.setCell ⟨b, 11, none⟩ (.int .i64 (-1))) = WZ at *
  clear tc1 tf1 tc2 tf2 oc11 of11
  have tc2 := HP12.out.t.cell 2 _ rfl
  have tf2 := HP12.out.t.free 2 _ rfl
  have hSx : WZ.drew.cell? ⟨h, 2, none⟩ = some (.int .i64 x) := tc2
  have HZ0 : Hid (Blk WZ g0 (zR.cells 0 (.slice none 0 0))) := HG.out ▸ HP12.out.rz
  have zc0 := HZ0.out.cell 0 _ rfl
  have zf0 := HZ0.out.free 0 _ rfl
  have zc1 := HZ0.out.cell 1 _ rfl
  have zf1 := HZ0.out.free 1 _ rfl
  have zc2 := HZ0.out.cell 2 _ rfl
  have zf2 := HZ0.out.free 2 _ rfl
  have zc3 := HZ0.out.cell 3 _ rfl
  have zf3 := HZ0.out.free 3 _ rfl
  have zc4 := HZ0.out.cell 4 _ rfl
  have zf4 := HZ0.out.free 4 _ rfl
  have zc5 := HZ0.out.cell 5 _ rfl
  have zf5 := HZ0.out.free 5 _ rfl
  have zc6 := HZ0.out.cell 6 _ rfl
  have zf6 := HZ0.out.free 6 _ rfl
  have zc7 := HZ0.out.cell 7 _ rfl
  have zf7 := HZ0.out.free 7 _ rfl
  have zc8 := HZ0.out.cell 8 _ rfl
  have zf8 := HZ0.out.free 8 _ rfl
  have zc9 := HZ0.out.cell 9 _ rfl
  have zf9 := HZ0.out.free 9 _ rfl
  have zc10 := HZ0.out.cell 10 _ rfl
  have zf10 := HZ0.out.free 10 _ rfl
  have zc11 := HZ0.out.cell 11 _ rfl
  have zf11 := HZ0.out.free 11 _ rfl
  go_region_held3 (fun w' => w'.cell? ⟨h, 2, none⟩ = some (.int .i64 x)) (first | with_reducible assumption | with_reducible exact far12 ne2 (by with_reducible assumption) _ _ _ _ _ _ _ _ _ _ _ _ | with_reducible exact far12d ne2 (by with_reducible assumption) _ _ _ _ _ _ _ _ _ _ _ _) (fail)
  go_wp2
  have HZ := ((((((((((((HZ0.out.set 0 (.int .i64 0)).set 1 (.int .i64 0)).set 2 (.int .i64 0)).set 3 (.slice none 0 0)).set 4 (.int .i64 0)).set 5 (.int .i64 0)).set 6 (.int .i64 0)).set 7 (.int .i64 0)).set 8 (.int .i64 0)).set 9 (.string ⟨#[]⟩)).set 10 (.int .i64 0)).set 11 (.int .i64 0))
  have z0 := HZ.cell 0 _ rfl
  have z1 := HZ.cell 1 _ rfl
  have z2 := HZ.cell 2 _ rfl
  have z3 := HZ.cell 3 _ rfl
  have z4 := HZ.cell 4 _ rfl
  have z5 := HZ.cell 5 _ rfl
  have z6 := HZ.cell 6 _ rfl
  have z7 := HZ.cell 7 _ rfl
  have z8 := HZ.cell 8 _ rfl
  have z9 := HZ.cell 9 _ rfl
  have z10 := HZ.cell 10 _ rfl
  have z11 := HZ.cell 11 _ rfl
  refine bodyPost_ret (v := .tuple #[.agg #[.int .i64 0, .int .i64 0, .int .i64 0, .slice none 0 0, .int .i64 0, .int .i64 0, .int .i64 0, .int .i64 0, .int .i64 0, .string ⟨#[]⟩, .int .i64 0, .int .i64 0], .int .i64 0, .int .i64 x]) (by simp [results, Tryd.results54, go_sem, z0, z1, z2, z3, z4, z5, z6, z7, z8, z9, z10, z11]) rfl ?_
  exact ⟨none, 0, 0, rfl, OwnK.nil _ _ _ _, ((((((((((((HP12.out.bel.setCell (p := ⟨g0, 0, none⟩) (Nat.le_of_eq HG.out) _).setCell (p := ⟨g0, 1, none⟩) (Nat.le_of_eq HG.out) _).setCell (p := ⟨g0, 2, none⟩) (Nat.le_of_eq HG.out) _).setCell (p := ⟨g0, 3, none⟩) (Nat.le_of_eq HG.out) _).setCell (p := ⟨g0, 4, none⟩) (Nat.le_of_eq HG.out) _).setCell (p := ⟨g0, 5, none⟩) (Nat.le_of_eq HG.out) _).setCell (p := ⟨g0, 6, none⟩) (Nat.le_of_eq HG.out) _).setCell (p := ⟨g0, 7, none⟩) (Nat.le_of_eq HG.out) _).setCell (p := ⟨g0, 8, none⟩) (Nat.le_of_eq HG.out) _).setCell (p := ⟨g0, 9, none⟩) (Nat.le_of_eq HG.out) _).setCell (p := ⟨g0, 10, none⟩) (Nat.le_of_eq HG.out) _).setCell (p := ⟨g0, 11, none⟩) (Nat.le_of_eq HG.out) _).drew⟩

set_option maxHeartbeats 4000000 in
set_option maxRecDepth 100000 in
theorem refTake_P10 (a : Option Addr) (bs : List Int) (n cap : Nat) (w : World) (hn : n = bs.length) (hr : RowK .u8 w a bs) (hb : IsB bs) (hcap : bs.length ≤ cap) (hlen : bs.length ≤ 140737488355328) {t r : Int} {ds : List Int} {nt nr : Int} {p : Int} {v : Int} {k0 m1 k1 m2 k2 m3 k3 m4 k4 m5 k5 m6 : Nat} {x : Int} (h0 : St.tkSt bs = (t, r, k0, 0)) (e1 : k0 = m1) (b1 : m1 ≤ bs.length) (h1 : Hv.tkV (bs.drop m1) = (ds, k1, 0)) (e2 : m1 + k1 = m2) (b2 : m2 ≤ bs.length) (h2 : tkN (bs.drop m2) = (2, k2, 0)) (e3 : m2 + k2 = m3) (b3 : m3 ≤ bs.length) (h3 : St.tkSt (bs.drop m3) = (nt, nr, k3, 0)) (e4 : m3 + k3 = m4) (b4 : m4 ≤ bs.length) (h4 : tkN (bs.drop m4) = (p, k4, 0)) (e5 : m4 + k4 = m5) (b5 : m5 ≤ bs.length) (h5 : tkN (bs.drop m5) = (v, k5, x)) (e6 : m5 + k5 = m6) (hx : x ≠ 0) : Calls Tryd.prog 54 #[.slice a n cap] w (TakeO (zR, 0, 0, x) w) := by
  obtain ⟨g0, hg0⟩ : ∃ g, w.heap.size = g := ⟨_, rfl⟩
  obtain ⟨h, hh⟩ : ∃ h, g0 + 1 = h := ⟨_, rfl⟩
  have HH : Hid (w.heap.size + 1 = h) := (by rw [hg0, hh] : w.heap.size + 1 = h)
  have HG : Hid (w.heap.size = g0) := hg0
  have HROW := Lib.hid (fun (W : World) (hb : Below w.heap.size w W) => hr.below hb (Nat.le_refl _))
  have htb := tk_build
  have hb1 := op_build1
  have hb0 := op_build0
  have hx' : (x == 0) = false := by simpa using hx
  have hxn : (x != 0) = true := by simpa using hx
  have C0 := Lib.hid (tstamp_zero h a bs n cap ((w.alloc (.cells #[.int .i64 0, .int .i64 0, .int .i64 0, .slice none 0 0, .int .i64 0, .int .i64 0, .int .i64 0, .int .i64 0, .int .i64 0, .string ⟨#[]⟩, .int .i64 0, .int .i64 0] 27)).alloc (.cells #[.slice a n cap, .int .i64 0, .int .i64 0] 85)) (tkr_new w a n cap _ HH.out) hn (HROW.out _ (St.below2 w _ _)) hb hcap hlen h0)
  rw [e1] at C0
  have hsl1 := fun W => slice_l W a n cap m1 (m1 : Int) rfl (by rw [hn]; exact b1)
  have C1 := Lib.hid (fun (W : World) (hB : Below w.heap.size w W) => Hv.refTake_is (partA a m1 cap) (bs.drop m1) (n - m1) (cap - m1) W (by rw [List.length_drop, hn]) ((HROW.out W hB).rest m1 cap hcap) (hb.drop m1) (by rw [List.length_drop]; omega) (by rw [List.length_drop]; omega) h1)
  have hz2 : (m1 : Int) + (k1 : Int) = (m2 : Int) := by omega
  have hy2 : (m2 : Int) ≤ 140737488355328 := by have := tkV_k (bs.drop m1) (hb.drop m1); rw [h1, List.length_drop] at this; simp only at this; omega
  have C2 := Lib.hid (fun (W : World) (hB : Below w.heap.size w W) (hT : Blk W h (tkrV a n cap (m2 : Int) 0)) => tnum_is h a bs n cap m2 W hT hn (HROW.out W hB) hb hcap hlen b2 h2 e3)
  have C3 := Lib.hid (fun (W : World) (hB : Below w.heap.size w W) (hT : Blk W h (tkrV a n cap (m3 : Int) 0)) => tstamp_is h a bs n cap m3 W hT hn (HROW.out W hB) hb hcap hlen b3 h3 e4)
  have C4 := Lib.hid (fun (W : World) (hB : Below w.heap.size w W) (hT : Blk W h (tkrV a n cap (m4 : Int) 0)) => tnum_is h a bs n cap m4 W hT hn (HROW.out W hB) hb hcap hlen b4 h4 e5)
  have C5 := Lib.hid (fun (W : World) (hB : Below w.heap.size w W) (hT : Blk W h (tkrV a n cap (m5 : Int) 0)) => tnum_is h a bs n cap m5 W hT hn (HROW.out W hB) hb hcap hlen b5 h5 e6)
  have hvb : 0 ≤ v ∧ v ≤ 4611686018427387904 := by have := tkN_k (bs.drop m5) (hb.drop m5); rw [h5] at this; exact this.2
  have hvw : IntKind.i64.wrap (v - 1) = v - 1 := IntWalk.i64_in _ (by omega)
  clear hn hr hb hcap hlen h0 e1 h1 e2 h2 e3 h3 e4 h4 e5 h5 e6 b1 b2 b3 b4 b5
  go_enter Tryd.func54, Tryd.ntmps54
  go_wp2_with fail
  refine (C0.out).mono ?_
  rintro e w1 ⟨rfl, hT, hg⟩
  obtain ⟨b, hbb⟩ : ∃ b, w1.heap.size = b := ⟨_, rfl⟩
  have HP1 := Lib.hid (PI.first (t := t) (r := r) HH.out hbb hT hg)
  have ne1 : h ≠ b := by have := HP1.out.hb; omega
  have ne2 : g0 ≠ h := by omega
  have ne3 : g0 ≠ b := by have := HP1.out.hb; omega
  have ne1' := Ne.symm ne1
  have ne2' := Ne.symm ne2
  have ne3' := Ne.symm ne3
  have tc2 := HP1.out.t.cell 2 _ rfl
  have tc1 := HP1.out.t.cell 1 _ rfl
  have hlt := hT.lt
  clear hT hg
  go_wp2_with fail
  generalize w1.alloc (.cells #[.int .i64 t, .int .i64 r, .int .i64 0, .slice none 0 0, .int .i64 0, .int .i64 0, .int .i64 0, .int .i64 0, .int .i64 0, .string ⟨#[]⟩, .int .i64 0, .int .i64 0] 27) = W1 at *
  clear hlt hbb hg0 hh
  refine (C1.out _ HP1.out.bel).mono ?_
  rintro e w2 ⟨v2, rfl, ho, hbl⟩
  obtain ⟨a2, n2, c2, rfl, hn2, hr2, hc2⟩ := ho.form'
  have HN2 := Lib.hid hn2
  have HO2 := Lib.hid (ho.mono (show b + 1 ≤ _ from HP1.out.size))
  have HP3 := Lib.hid (HP1.out.next hbl)
  clear ho hbl hn2 hr2 hc2
  clear tc1 tc2
  have tc1 := HP3.out.t.cell 1 _ rfl
  have tf1 := HP3.out.t.free 1 _ rfl
  have tc2 := HP3.out.t.cell 2 _ rfl
  have tf2 := HP3.out.t.free 2 _ rfl
  have oc3 := HP3.out.o.cell 3 _ rfl
  have of3 := HP3.out.o.free 3 _ rfl
  have HP4 := Lib.hid (((HP3.out.putD HO2.out).setT (m2 : Int) 0))
  go_wp2_with fail
  refine (C2.out _ HP4.out.bel HP4.out.t).mono ?_
  rintro e w5 ⟨rfl, hT, hg⟩
  have HP5 := Lib.hid (HP4.out.grown hg hT)
  clear hT hg
  clear tc1 tf1 tc2 tf2 oc3 of3
  have tc1 := HP5.out.t.cell 1 _ rfl
  have tf1 := HP5.out.t.free 1 _ rfl
  have tc2 := HP5.out.t.cell 2 _ rfl
  have tf2 := HP5.out.t.free 2 _ rfl
  have oc4 := HP5.out.o.cell 4 _ rfl
  have of4 := HP5.out.o.free 4 _ rfl
  have HP6 := Lib.hid (HP5.out.put 4 (.int .i64 2) (R' := (⟨t, r, ds, 2, 0, 0, 0, 0, ⟨#[]⟩, 0, 0⟩ : OpR)) rfl rfl)
  go_wp2_with fail
  refine (C3.out _ HP6.out.bel HP6.out.t).mono ?_
  rintro e w7 ⟨rfl, hT, hg⟩
  have HP7 := Lib.hid (HP6.out.grown hg hT)
  clear hT hg
  clear tc1 tf1 tc2 tf2 oc4 of4
  have tc2 := HP7.out.t.cell 2 _ rfl
  have tf2 := HP7.out.t.free 2 _ rfl
  have oc4 := HP7.out.o.cell 4 _ rfl
  have of4 := HP7.out.o.free 4 _ rfl
  have oc5 := HP7.out.o.cell 5 _ rfl
  have of5 := HP7.out.o.free 5 _ rfl
  have oc6 := HP7.out.o.cell 6 _ rfl
  have of6 := HP7.out.o.free 6 _ rfl
  have HP8 := Lib.hid (HP7.out.put2 5 6 (.int .i64 nt) (.int .i64 nr) (R' := (⟨t, r, ds, 2, nt, nr, 0, 0, ⟨#[]⟩, 0, 0⟩ : OpR)) rfl rfl)
  go_wp2_with fail
  refine (C4.out _ HP8.out.bel HP8.out.t).mono ?_
  rintro e w9 ⟨rfl, hT, hg⟩
  have HP9 := Lib.hid (HP8.out.grown hg hT)
  clear hT hg
  clear tc2 tf2 oc4 of4 oc5 of5 oc6 of6
  have tc2 := HP9.out.t.cell 2 _ rfl
  have tf2 := HP9.out.t.free 2 _ rfl
  have oc10 := HP9.out.o.cell 10 _ rfl
  have of10 := HP9.out.o.free 10 _ rfl
  have HP10 := Lib.hid (HP9.out.put 10 (.int .i64 p) (R' := (⟨t, r, ds, 2, nt, nr, 0, 0, ⟨#[]⟩, p, 0⟩ : OpR)) rfl rfl)
  go_wp2_with fail
  refine (C5.out _ HP10.out.bel HP10.out.t).mono ?_
  rintro e w11 ⟨rfl, hT, hg⟩
  have HP11 := Lib.hid (HP10.out.grown hg hT)
  clear hT hg
  clear tc2 tf2 oc10 of10
  have tc1 := HP11.out.t.cell 1 _ rfl
  have tf1 := HP11.out.t.free 1 _ rfl
  have tc2 := HP11.out.t.cell 2 _ rfl
  have tf2 := HP11.out.t.free 2 _ rfl
  have oc11 := HP11.out.o.cell 11 _ rfl
  have of11 := HP11.out.o.free 11 _ rfl
  have HP12 := Lib.hid (HP11.out.put 11 (.int .i64 (v - 1)) (R' := (⟨t, r, ds, 2, nt, nr, 0, 0, ⟨#[]⟩, p, (v - 1)⟩ : OpR)) rfl rfl)
  go_wp2_with fail
  generalize (w11.setCell ⟨b, 11, none⟩ (.int .i64 (v - 1))) = WZ at *
  clear tc1 tf1 tc2 tf2 oc11 of11
  have tc2 := HP12.out.t.cell 2 _ rfl
  have tf2 := HP12.out.t.free 2 _ rfl
  have hSx : WZ.drew.cell? ⟨h, 2, none⟩ = some (.int .i64 x) := tc2
  have HZ0 : Hid (Blk WZ g0 (zR.cells 0 (.slice none 0 0))) := HG.out ▸ HP12.out.rz
  have zc0 := HZ0.out.cell 0 _ rfl
  have zf0 := HZ0.out.free 0 _ rfl
  have zc1 := HZ0.out.cell 1 _ rfl
  have zf1 := HZ0.out.free 1 _ rfl
  have zc2 := HZ0.out.cell 2 _ rfl
  have zf2 := HZ0.out.free 2 _ rfl
  have zc3 := HZ0.out.cell 3 _ rfl
  have zf3 := HZ0.out.free 3 _ rfl
  have zc4 := HZ0.out.cell 4 _ rfl
  have zf4 := HZ0.out.free 4 _ rfl
  have zc5 := HZ0.out.cell 5 _ rfl
  have zf5 := HZ0.out.free 5 _ rfl
  have zc6 := HZ0.out.cell 6 _ rfl
  have zf6 := HZ0.out.free 6 _ rfl
  have zc7 := HZ0.out.cell 7 _ rfl
  have zf7 := HZ0.out.free 7 _ rfl
  have zc8 := HZ0.out.cell 8 _ rfl
  have zf8 := HZ0.out.free 8 _ rfl
  have zc9 := HZ0.out.cell 9 _ rfl
  have zf9 := HZ0.out.free 9 _ rfl
  have zc10 := HZ0.out.cell 10 _ rfl
  have zf10 := HZ0.out.free 10 _ rfl
  have zc11 := HZ0.out.cell 11 _ rfl
  have zf11 := HZ0.out.free 11 _ rfl
  go_region_held3 (fun w' => w'.cell? ⟨h, 2, none⟩ = some (.int .i64 x)) (first | with_reducible assumption | with_reducible exact far12 ne2 (by with_reducible assumption) _ _ _ _ _ _ _ _ _ _ _ _ | with_reducible exact far12d ne2 (by with_reducible assumption) _ _ _ _ _ _ _ _ _ _ _ _) (fail)
  go_wp2
  have HZ := ((((((((((((HZ0.out.set 0 (.int .i64 0)).set 1 (.int .i64 0)).set 2 (.int .i64 0)).set 3 (.slice none 0 0)).set 4 (.int .i64 0)).set 5 (.int .i64 0)).set 6 (.int .i64 0)).set 7 (.int .i64 0)).set 8 (.int .i64 0)).set 9 (.string ⟨#[]⟩)).set 10 (.int .i64 0)).set 11 (.int .i64 0))
  have z0 := HZ.cell 0 _ rfl
  have z1 := HZ.cell 1 _ rfl
  have z2 := HZ.cell 2 _ rfl
  have z3 := HZ.cell 3 _ rfl
  have z4 := HZ.cell 4 _ rfl
  have z5 := HZ.cell 5 _ rfl
  have z6 := HZ.cell 6 _ rfl
  have z7 := HZ.cell 7 _ rfl
  have z8 := HZ.cell 8 _ rfl
  have z9 := HZ.cell 9 _ rfl
  have z10 := HZ.cell 10 _ rfl
  have z11 := HZ.cell 11 _ rfl
  refine bodyPost_ret (v := .tuple #[.agg #[.int .i64 0, .int .i64 0, .int .i64 0, .slice none 0 0, .int .i64 0, .int .i64 0, .int .i64 0, .int .i64 0, .int .i64 0, .string ⟨#[]⟩, .int .i64 0, .int .i64 0], .int .i64 0, .int .i64 x]) (by simp [results, Tryd.results54, go_sem, z0, z1, z2, z3, z4, z5, z6, z7, z8, z9, z10, z11]) rfl ?_
  exact ⟨none, 0, 0, rfl, OwnK.nil _ _ _ _, ((((((((((((HP12.out.bel.setCell (p := ⟨g0, 0, none⟩) (Nat.le_of_eq HG.out) _).setCell (p := ⟨g0, 1, none⟩) (Nat.le_of_eq HG.out) _).setCell (p := ⟨g0, 2, none⟩) (Nat.le_of_eq HG.out) _).setCell (p := ⟨g0, 3, none⟩) (Nat.le_of_eq HG.out) _).setCell (p := ⟨g0, 4, none⟩) (Nat.le_of_eq HG.out) _).setCell (p := ⟨g0, 5, none⟩) (Nat.le_of_eq HG.out) _).setCell (p := ⟨g0, 6, none⟩) (Nat.le_of_eq HG.out) _).setCell (p := ⟨g0, 7, none⟩) (Nat.le_of_eq HG.out) _).setCell (p := ⟨g0, 8, none⟩) (Nat.le_of_eq HG.out) _).setCell (p := ⟨g0, 9, none⟩) (Nat.le_of_eq HG.out) _).setCell (p := ⟨g0, 10, none⟩) (Nat.le_of_eq HG.out) _).setCell (p := ⟨g0, 11, none⟩) (Nat.le_of_eq HG.out) _).drew⟩

set_option maxHeartbeats 4000000 in
set_option maxRecDepth 100000 in
theorem refTake_A1 (a : Option Addr) (bs : List Int) (n cap : Nat) (w : World) (hn : n = bs.length) (hr : RowK .u8 w a bs) (hb : IsB bs) (hcap : bs.length ≤ cap) (hlen : bs.length ≤ 140737488355328) {t : Int} {rn : Nat} {ds : List Int} {nt nr : Int} {pt pr : Int} {s : ByteArray} {k0 m1 k1 m2 k2 m3 k3 m4 k4 m5 k5 m6 : Nat} (h0 : St.tkSt bs = (t, (rn : Int), k0, 0)) (e1 : k0 = m1) (b1 : m1 ≤ bs.length) (h1 : Hv.tkV (bs.drop m1) = (ds, k1, 0)) (e2 : m1 + k1 = m2) (b2 : m2 ≤ bs.length) (h2 : tkN (bs.drop m2) = (1, k2, 0)) (e3 : m2 + k2 = m3) (b3 : m3 ≤ bs.length) (h3 : St.tkSt (bs.drop m3) = (nt, nr, k3, 0)) (e4 : m3 + k3 = m4) (b4 : m4 ≤ bs.length) (h4 : St.tkSt (bs.drop m4) = (pt, pr, k4, 0)) (e5 : m4 + k4 = m5) (b5 : m5 ≤ bs.length) (h5 : tkS (bs.drop m5) = (s, k5, 0)) (e6 : m5 + k5 = m6) (b6 : m6 ≤ bs.length) (hve : Hv.vecB ds = true) (hrl : (rn : Int) < ds.length) (hok : opB t rn (ds.getD rn 0 + 1) ds 1 nt nr pt pr s 0 0 = true) : Calls Tryd.prog 54 #[.slice a n cap] w (TakeO (⟨t, rn, ds, 1, nt, nr, pt, pr, s, 0, 0⟩, ds.getD rn 0 + 1, m6, 0) w) := by
  obtain ⟨g0, hg0⟩ : ∃ g, w.heap.size = g := ⟨_, rfl⟩
  obtain ⟨h, hh⟩ : ∃ h, g0 + 1 = h := ⟨_, rfl⟩
  have HH : Hid (w.heap.size + 1 = h) := (by rw [hg0, hh] : w.heap.size + 1 = h)
  have HG : Hid (w.heap.size = g0) := hg0
  have HROW := Lib.hid (fun (W : World) (hb : Below w.heap.size w W) => hr.below hb (Nat.le_refl _))
  have htb := tk_build
  have hb1 := op_build1
  have hb0 := op_build0
  have C0 := Lib.hid (tstamp_zero h a bs n cap ((w.alloc (.cells #[.int .i64 0, .int .i64 0, .int .i64 0, .slice none 0 0, .int .i64 0, .int .i64 0, .int .i64 0, .int .i64 0, .int .i64 0, .string ⟨#[]⟩, .int .i64 0, .int .i64 0] 27)).alloc (.cells #[.slice a n cap, .int .i64 0, .int .i64 0] 85)) (tkr_new w a n cap _ HH.out) hn (HROW.out _ (St.below2 w _ _)) hb hcap hlen h0)
  rw [e1] at C0
  have hsl1 := fun W => slice_l W a n cap m1 (m1 : Int) rfl (by rw [hn]; exact b1)
  have C1 := Lib.hid (fun (W : World) (hB : Below w.heap.size w W) => Hv.refTake_is (partA a m1 cap) (bs.drop m1) (n - m1) (cap - m1) W (by rw [List.length_drop, hn]) ((HROW.out W hB).rest m1 cap hcap) (hb.drop m1) (by rw [List.length_drop]; omega) (by rw [List.length_drop]; omega) h1)
  have hz2 : (m1 : Int) + (k1 : Int) = (m2 : Int) := by omega
  have hy2 : (m2 : Int) ≤ 140737488355328 := by have := tkV_k (bs.drop m1) (hb.drop m1); rw [h1, List.length_drop] at this; simp only at this; omega
  have C2 := Lib.hid (fun (W : World) (hB : Below w.heap.size w W) (hT : Blk W h (tkrV a n cap (m2 : Int) 0)) => tnum_is h a bs n cap m2 W hT hn (HROW.out W hB) hb hcap hlen b2 h2 e3)
  have C3 := Lib.hid (fun (W : World) (hB : Below w.heap.size w W) (hT : Blk W h (tkrV a n cap (m3 : Int) 0)) => tstamp_is h a bs n cap m3 W hT hn (HROW.out W hB) hb hcap hlen b3 h3 e4)
  have C4 := Lib.hid (fun (W : World) (hB : Below w.heap.size w W) (hT : Blk W h (tkrV a n cap (m4 : Int) 0)) => tstamp_is h a bs n cap m4 W hT hn (HROW.out W hB) hb hcap hlen b4 h4 e5)
  have hsl5 := fun W => slice_l W a n cap m5 (m5 : Int) rfl (by rw [hn]; exact b5)
  have C5 := Lib.hid (fun (W : World) (hB : Below w.heap.size w W) => refTakeText_n (partA a m5 cap) (bs.drop m5) (n - m5) (cap - m5) W (by rw [List.length_drop, hn]) ((HROW.out W hB).rest m5 cap hcap) (hb.drop m5) (by rw [List.length_drop]; omega) (by rw [List.length_drop]; omega) h5)
  have hz6 : (m5 : Int) + (k5 : Int) = (m6 : Int) := by omega
  have hy6 : (m6 : Int) ≤ 140737488355328 := by have := tkS_k (bs.drop m5) (hb.drop m5); rw [h5, List.length_drop] at this; simp only at this; omega
  clear hn hr hb hcap hlen h0 e1 h1 e2 h2 e3 h3 e4 h4 e5 h5 e6 b1 b2 b3 b4 b5 b6
  go_enter Tryd.func54, Tryd.ntmps54
  go_wp2_with fail
  refine (C0.out).mono ?_
  rintro e w1 ⟨rfl, hT, hg⟩
  obtain ⟨b, hbb⟩ : ∃ b, w1.heap.size = b := ⟨_, rfl⟩
  have HP1 := Lib.hid (PI.first (t := t) (r := (rn : Int)) HH.out hbb hT hg)
  have ne1 : h ≠ b := by have := HP1.out.hb; omega
  have ne2 : g0 ≠ h := by omega
  have ne3 : g0 ≠ b := by have := HP1.out.hb; omega
  have ne1' := Ne.symm ne1
  have ne2' := Ne.symm ne2
  have ne3' := Ne.symm ne3
  have tc2 := HP1.out.t.cell 2 _ rfl
  have tc1 := HP1.out.t.cell 1 _ rfl
  have hlt := hT.lt
  clear hT hg
  go_wp2_with fail
  generalize w1.alloc (.cells #[.int .i64 t, .int .i64 (rn : Int), .int .i64 0, .slice none 0 0, .int .i64 0, .int .i64 0, .int .i64 0, .int .i64 0, .int .i64 0, .string ⟨#[]⟩, .int .i64 0, .int .i64 0] 27) = W1 at *
  clear hlt hbb hg0 hh
  refine (C1.out _ HP1.out.bel).mono ?_
  rintro e w2 ⟨v2, rfl, ho, hbl⟩
  obtain ⟨a2, n2, c2, rfl, hn2, hr2, hc2⟩ := ho.form'
  have HN2 := Lib.hid hn2
  have HO2 := Lib.hid (ho.mono (show b + 1 ≤ _ from HP1.out.size))
  have HP3 := Lib.hid (HP1.out.next hbl)
  clear ho hbl hn2 hr2 hc2
  clear tc1 tc2
  have tc1 := HP3.out.t.cell 1 _ rfl
  have tf1 := HP3.out.t.free 1 _ rfl
  have tc2 := HP3.out.t.cell 2 _ rfl
  have tf2 := HP3.out.t.free 2 _ rfl
  have oc3 := HP3.out.o.cell 3 _ rfl
  have of3 := HP3.out.o.free 3 _ rfl
  have HP4 := Lib.hid (((HP3.out.putD HO2.out).setT (m2 : Int) 0))
  go_wp2_with fail
  refine (C2.out _ HP4.out.bel HP4.out.t).mono ?_
  rintro e w5 ⟨rfl, hT, hg⟩
  have HP5 := Lib.hid (HP4.out.grown hg hT)
  clear hT hg
  clear tc1 tf1 tc2 tf2 oc3 of3
  have tc1 := HP5.out.t.cell 1 _ rfl
  have tf1 := HP5.out.t.free 1 _ rfl
  have tc2 := HP5.out.t.cell 2 _ rfl
  have tf2 := HP5.out.t.free 2 _ rfl
  have oc4 := HP5.out.o.cell 4 _ rfl
  have of4 := HP5.out.o.free 4 _ rfl
  have HP6 := Lib.hid (HP5.out.put 4 (.int .i64 1) (R' := (⟨t, (rn : Int), ds, 1, 0, 0, 0, 0, ⟨#[]⟩, 0, 0⟩ : OpR)) rfl rfl)
  go_wp2_with fail
  refine (C3.out _ HP6.out.bel HP6.out.t).mono ?_
  rintro e w7 ⟨rfl, hT, hg⟩
  have HP7 := Lib.hid (HP6.out.grown hg hT)
  clear hT hg
  clear tc1 tf1 tc2 tf2 oc4 of4
  have tc2 := HP7.out.t.cell 2 _ rfl
  have tf2 := HP7.out.t.free 2 _ rfl
  have oc4 := HP7.out.o.cell 4 _ rfl
  have of4 := HP7.out.o.free 4 _ rfl
  have oc5 := HP7.out.o.cell 5 _ rfl
  have of5 := HP7.out.o.free 5 _ rfl
  have oc6 := HP7.out.o.cell 6 _ rfl
  have of6 := HP7.out.o.free 6 _ rfl
  have HP8 := Lib.hid (HP7.out.put2 5 6 (.int .i64 nt) (.int .i64 nr) (R' := (⟨t, (rn : Int), ds, 1, nt, nr, 0, 0, ⟨#[]⟩, 0, 0⟩ : OpR)) rfl rfl)
  go_wp2_with fail
  refine (C4.out _ HP8.out.bel HP8.out.t).mono ?_
  rintro e w9 ⟨rfl, hT, hg⟩
  have HP9 := Lib.hid (HP8.out.grown hg hT)
  clear hT hg
  clear tc2 tf2 oc4 of4 oc5 of5 oc6 of6
  have tc1 := HP9.out.t.cell 1 _ rfl
  have tf1 := HP9.out.t.free 1 _ rfl
  have tc2 := HP9.out.t.cell 2 _ rfl
  have tf2 := HP9.out.t.free 2 _ rfl
  have oc7 := HP9.out.o.cell 7 _ rfl
  have of7 := HP9.out.o.free 7 _ rfl
  have oc8 := HP9.out.o.cell 8 _ rfl
  have of8 := HP9.out.o.free 8 _ rfl
  have HP10 := Lib.hid (HP9.out.put2 7 8 (.int .i64 pt) (.int .i64 pr) (R' := (⟨t, (rn : Int), ds, 1, nt, nr, pt, pr, ⟨#[]⟩, 0, 0⟩ : OpR)) rfl rfl)
  go_wp2_with fail
  refine (C5.out _ HP10.out.bel).mono ?_
  rintro e w99 ⟨rfl, rfl⟩
  clear tc1 tf1 tc2 tf2 oc7 of7 oc8 of8
  have tc1 := HP10.out.t.cell 1 _ rfl
  have tf1 := HP10.out.t.free 1 _ rfl
  have tc2 := HP10.out.t.cell 2 _ rfl
  have tf2 := HP10.out.t.free 2 _ rfl
  have oc0 := HP10.out.o.cell 0 _ rfl
  have of0 := HP10.out.o.free 0 _ rfl
  have oc1 := HP10.out.o.cell 1 _ rfl
  have of1 := HP10.out.o.free 1 _ rfl
  have oc2 := HP10.out.o.cell 2 _ rfl
  have of2 := HP10.out.o.free 2 _ rfl
  have oc3 := HP10.out.o.cell 3 _ rfl
  have of3 := HP10.out.o.free 3 _ rfl
  have oc4 := HP10.out.o.cell 4 _ rfl
  have of4 := HP10.out.o.free 4 _ rfl
  have oc5 := HP10.out.o.cell 5 _ rfl
  have of5 := HP10.out.o.free 5 _ rfl
  have oc6 := HP10.out.o.cell 6 _ rfl
  have of6 := HP10.out.o.free 6 _ rfl
  have oc7 := HP10.out.o.cell 7 _ rfl
  have of7 := HP10.out.o.free 7 _ rfl
  have oc8 := HP10.out.o.cell 8 _ rfl
  have of8 := HP10.out.o.free 8 _ rfl
  have oc9 := HP10.out.o.cell 9 _ rfl
  have of9 := HP10.out.o.free 9 _ rfl
  have oc10 := HP10.out.o.cell 10 _ rfl
  have of10 := HP10.out.o.free 10 _ rfl
  have oc11 := HP10.out.o.cell 11 _ rfl
  have of11 := HP10.out.o.free 11 _ rfl
  have HRD := Lib.hid (RowK.ofOwn HP10.out.d).1
  have hn2 : n2 = ds.length := HN2.out
  have hdl := Hv.vecB_len hve
  have hdr : decide ((rn : Int) < (n2 : Int)) = true := decide_eq_true (by rw [hn2]; exact hrl)
  have hdr' : (rn : Int) < (n2 : Int) := by rw [hn2]; exact hrl
  have hrn2 : rn < n2 := by omega
  obtain ⟨bb, off, ha2, hc⟩ := HRD.out rn (show rn < ds.length by omega)
  have hge : b + 1 ≤ bb := by
    obtain ⟨b', off', hb', hge⟩ := HP10.out.d.rowGe (show 0 < ds.length by omega)
    rw [ha2] at hb'
    simp only [Option.some.injEq, Addr.mk.injEq] at hb'
    omega
  subst ha2
  have nb1 : b ≠ bb := by omega
  have nb1' := Ne.symm nb1
  have nb2 : h ≠ bb := by have := HP10.out.hb; omega
  have nb2' := Ne.symm nb2
  have hxx := Hv.vecB_at hve (k := rn) (by omega)
  have hw2 : IntKind.i64.wrap (ds.getD rn 0 + 1) = ds.getD rn 0 + 1 := IntWalk.i64_in _ (by omega)
  have hw1 : wrap64 (ds.getD rn 0 + 1) = ds.getD rn 0 + 1 := IntWalk.wrap64_in _ (by omega)
  generalize hxq : ds.getD rn 0 = xq at *
  have HLE : Hid (ds.length ≤ 140737488355328) := (by omega : ds.length ≤ 140737488355328)
  have HNN := Lib.hid hn2
  clear hn2 hrl hdl
  have HP11 := Lib.hid ((HP10.out.put 9 (.string s) (R' := (⟨t, (rn : Int), ds, 1, nt, nr, pt, pr, s, 0, 0⟩ : OpR)) rfl rfl).setT (m6 : Int) 0)
  have HP12 := Lib.hid (HP11.out.put 2 (.int .i64 (xq + 1)) (R' := (⟨t, (rn : Int), ds, 1, nt, nr, pt, pr, s, 0, 0⟩ : OpR)) (q' := xq + 1) rfl rfl)
  go_wp2_with fail
  refine (refOp_any t rn (xq + 1) (some ⟨bb, off, none⟩) ds n2 c2 1 nt nr pt pr s 0 0 _ (RowK.ofOwn HP12.out.d).1 HNN.out HLE.out).mono ?_
  rw [hok]
  rintro e wz ⟨rfl, hbl⟩
  have HP13 := Lib.hid (HP12.out.next hbl)
  clear hbl hc hdr hdr' hrn2
  clear tc1 tf1 tc2 tf2 oc0 of0 oc1 of1 oc2 of2 oc3 of3 oc4 of4 oc5 of5 oc6 of6 oc7 of7 oc8 of8 oc9 of9 oc10 of10 oc11 of11
  have tc1 := HP13.out.t.cell 1 _ rfl
  have tf1 := HP13.out.t.free 1 _ rfl
  have tc2 := HP13.out.t.cell 2 _ rfl
  have tf2 := HP13.out.t.free 2 _ rfl
  have oc0 := HP13.out.o.cell 0 _ rfl
  have of0 := HP13.out.o.free 0 _ rfl
  have oc1 := HP13.out.o.cell 1 _ rfl
  have of1 := HP13.out.o.free 1 _ rfl
  have oc2 := HP13.out.o.cell 2 _ rfl
  have of2 := HP13.out.o.free 2 _ rfl
  have oc3 := HP13.out.o.cell 3 _ rfl
  have of3 := HP13.out.o.free 3 _ rfl
  have oc4 := HP13.out.o.cell 4 _ rfl
  have of4 := HP13.out.o.free 4 _ rfl
  have oc5 := HP13.out.o.cell 5 _ rfl
  have of5 := HP13.out.o.free 5 _ rfl
  have oc6 := HP13.out.o.cell 6 _ rfl
  have of6 := HP13.out.o.free 6 _ rfl
  have oc7 := HP13.out.o.cell 7 _ rfl
  have of7 := HP13.out.o.free 7 _ rfl
  have oc8 := HP13.out.o.cell 8 _ rfl
  have of8 := HP13.out.o.free 8 _ rfl
  have oc9 := HP13.out.o.cell 9 _ rfl
  have of9 := HP13.out.o.free 9 _ rfl
  have oc10 := HP13.out.o.cell 10 _ rfl
  have of10 := HP13.out.o.free 10 _ rfl
  have oc11 := HP13.out.o.cell 11 _ rfl
  have of11 := HP13.out.o.free 11 _ rfl
  have HZ0 : Hid (Blk wz g0 (zR.cells 0 (.slice none 0 0))) := HG.out ▸ HP13.out.rz
  have zc0 := HZ0.out.cell 0 _ rfl
  have zf0 := HZ0.out.free 0 _ rfl
  have zc1 := HZ0.out.cell 1 _ rfl
  have zf1 := HZ0.out.free 1 _ rfl
  have zc2 := HZ0.out.cell 2 _ rfl
  have zf2 := HZ0.out.free 2 _ rfl
  have zc3 := HZ0.out.cell 3 _ rfl
  have zf3 := HZ0.out.free 3 _ rfl
  have zc4 := HZ0.out.cell 4 _ rfl
  have zf4 := HZ0.out.free 4 _ rfl
  have zc5 := HZ0.out.cell 5 _ rfl
  have zf5 := HZ0.out.free 5 _ rfl
  have zc6 := HZ0.out.cell 6 _ rfl
  have zf6 := HZ0.out.free 6 _ rfl
  have zc7 := HZ0.out.cell 7 _ rfl
  have zf7 := HZ0.out.free 7 _ rfl
  have zc8 := HZ0.out.cell 8 _ rfl
  have zf8 := HZ0.out.free 8 _ rfl
  have zc9 := HZ0.out.cell 9 _ rfl
  have zf9 := HZ0.out.free 9 _ rfl
  have zc10 := HZ0.out.cell 10 _ rfl
  have zf10 := HZ0.out.free 10 _ rfl
  have zc11 := HZ0.out.cell 11 _ rfl
  have zf11 := HZ0.out.free 11 _ rfl
  have hSx : wz.drew.cell? ⟨b, 0, none⟩ = some (.int .i64 t) ∧ wz.drew.cell? ⟨b, 1, none⟩ = some (.int .i64 (rn : Int)) ∧ wz.drew.cell? ⟨b, 2, none⟩ = some (.int .i64 (xq + 1)) ∧ wz.drew.cell? ⟨b, 3, none⟩ = some (.slice (some ⟨bb, off, none⟩) n2 c2) ∧ wz.drew.cell? ⟨b, 4, none⟩ = some (.int .i64 1) ∧ wz.drew.cell? ⟨b, 5, none⟩ = some (.int .i64 nt) ∧ wz.drew.cell? ⟨b, 6, none⟩ = some (.int .i64 nr) ∧ wz.drew.cell? ⟨b, 7, none⟩ = some (.int .i64 pt) ∧ wz.drew.cell? ⟨b, 8, none⟩ = some (.int .i64 pr) ∧ wz.drew.cell? ⟨b, 9, none⟩ = some (.string s) ∧ wz.drew.cell? ⟨b, 10, none⟩ = some (.int .i64 0) ∧ wz.drew.cell? ⟨b, 11, none⟩ = some (.int .i64 0) ∧ wz.drew.cell? ⟨h, 1, none⟩ = some (.int .i64 (m6 : Int)) := ⟨oc0, oc1, oc2, oc3, oc4, oc5, oc6, oc7, oc8, oc9, oc10, oc11, tc1⟩
  go_wp2_with fail
  go_region_held3 (fun w' => w'.cell? ⟨b, 0, none⟩ = some (.int .i64 t) ∧ w'.cell? ⟨b, 1, none⟩ = some (.int .i64 (rn : Int)) ∧ w'.cell? ⟨b, 2, none⟩ = some (.int .i64 (xq + 1)) ∧ w'.cell? ⟨b, 3, none⟩ = some (.slice (some ⟨bb, off, none⟩) n2 c2) ∧ w'.cell? ⟨b, 4, none⟩ = some (.int .i64 1) ∧ w'.cell? ⟨b, 5, none⟩ = some (.int .i64 nt) ∧ w'.cell? ⟨b, 6, none⟩ = some (.int .i64 nr) ∧ w'.cell? ⟨b, 7, none⟩ = some (.int .i64 pt) ∧ w'.cell? ⟨b, 8, none⟩ = some (.int .i64 pr) ∧ w'.cell? ⟨b, 9, none⟩ = some (.string s) ∧ w'.cell? ⟨b, 10, none⟩ = some (.int .i64 0) ∧ w'.cell? ⟨b, 11, none⟩ = some (.int .i64 0) ∧ w'.cell? ⟨h, 1, none⟩ = some (.int .i64 (m6 : Int))) (first | with_reducible assumption | with_reducible exact held13 ne3 ne2 (by with_reducible assumption) _ _ _ _ _ _ _ _ _ _ _ _) (fail)
  go_wp2
  have HZ := ((((((((((((HZ0.out.set 0 (.int .i64 t)).set 1 (.int .i64 (rn : Int))).set 2 (.int .i64 (xq + 1))).set 3 (.slice (some ⟨bb, off, none⟩) n2 c2)).set 4 (.int .i64 1)).set 5 (.int .i64 nt)).set 6 (.int .i64 nr)).set 7 (.int .i64 pt)).set 8 (.int .i64 pr)).set 9 (.string s)).set 10 (.int .i64 0)).set 11 (.int .i64 0))
  have z0 := HZ.cell 0 _ rfl
  have z1 := HZ.cell 1 _ rfl
  have z2 := HZ.cell 2 _ rfl
  have z3 := HZ.cell 3 _ rfl
  have z4 := HZ.cell 4 _ rfl
  have z5 := HZ.cell 5 _ rfl
  have z6 := HZ.cell 6 _ rfl
  have z7 := HZ.cell 7 _ rfl
  have z8 := HZ.cell 8 _ rfl
  have z9 := HZ.cell 9 _ rfl
  have z10 := HZ.cell 10 _ rfl
  have z11 := HZ.cell 11 _ rfl
  refine bodyPost_ret (v := .tuple #[.agg #[.int .i64 t, .int .i64 (rn : Int), .int .i64 (xq + 1), .slice (some ⟨bb, off, none⟩) n2 c2, .int .i64 1, .int .i64 nt, .int .i64 nr, .int .i64 pt, .int .i64 pr, .string s, .int .i64 0, .int .i64 0], .int .i64 (m6 : Int), .int .i64 0]) (by simp [results, Tryd.results54, go_sem, z0, z1, z2, z3, z4, z5, z6, z7, z8, z9, z10, z11]) rfl ?_
  exact ⟨_, _, _, rfl, (OwnK.drewN (((((((((((((HP13.out.d.far (show g0 < b + 1 by have h1 := HP13.out.hb; have h2 := HH.out; have h3 := HG.out; omega) 0 (.int .i64 t)).far (show g0 < b + 1 by have h1 := HP13.out.hb; have h2 := HH.out; have h3 := HG.out; omega) 1 (.int .i64 (rn : Int))).far (show g0 < b + 1 by have h1 := HP13.out.hb; have h2 := HH.out; have h3 := HG.out; omega) 2 (.int .i64 (xq + 1))).far (show g0 < b + 1 by have h1 := HP13.out.hb; have h2 := HH.out; have h3 := HG.out; omega) 3 (.slice (some ⟨bb, off, none⟩) n2 c2)).far (show g0 < b + 1 by have h1 := HP13.out.hb; have h2 := HH.out; have h3 := HG.out; omega) 4 (.int .i64 1)).far (show g0 < b + 1 by have h1 := HP13.out.hb; have h2 := HH.out; have h3 := HG.out; omega) 5 (.int .i64 nt)).far (show g0 < b + 1 by have h1 := HP13.out.hb; have h2 := HH.out; have h3 := HG.out; omega) 6 (.int .i64 nr)).far (show g0 < b + 1 by have h1 := HP13.out.hb; have h2 := HH.out; have h3 := HG.out; omega) 7 (.int .i64 pt)).far (show g0 < b + 1 by have h1 := HP13.out.hb; have h2 := HH.out; have h3 := HG.out; omega) 8 (.int .i64 pr)).far (show g0 < b + 1 by have h1 := HP13.out.hb; have h2 := HH.out; have h3 := HG.out; omega) 9 (.string s)).far (show g0 < b + 1 by have h1 := HP13.out.hb; have h2 := HH.out; have h3 := HG.out; omega) 10 (.int .i64 0)).far (show g0 < b + 1 by have h1 := HP13.out.hb; have h2 := HH.out; have h3 := HG.out; omega) 11 (.int .i64 0))) 1).mono (by have h1 := HP13.out.hb; have h2 := HH.out; omega), ((((((((((((HP13.out.bel.setCell (p := ⟨g0, 0, none⟩) (Nat.le_of_eq HG.out) _).setCell (p := ⟨g0, 1, none⟩) (Nat.le_of_eq HG.out) _).setCell (p := ⟨g0, 2, none⟩) (Nat.le_of_eq HG.out) _).setCell (p := ⟨g0, 3, none⟩) (Nat.le_of_eq HG.out) _).setCell (p := ⟨g0, 4, none⟩) (Nat.le_of_eq HG.out) _).setCell (p := ⟨g0, 5, none⟩) (Nat.le_of_eq HG.out) _).setCell (p := ⟨g0, 6, none⟩) (Nat.le_of_eq HG.out) _).setCell (p := ⟨g0, 7, none⟩) (Nat.le_of_eq HG.out) _).setCell (p := ⟨g0, 8, none⟩) (Nat.le_of_eq HG.out) _).setCell (p := ⟨g0, 9, none⟩) (Nat.le_of_eq HG.out) _).setCell (p := ⟨g0, 10, none⟩) (Nat.le_of_eq HG.out) _).setCell (p := ⟨g0, 11, none⟩) (Nat.le_of_eq HG.out) _).drew⟩

set_option maxHeartbeats 4000000 in
set_option maxRecDepth 100000 in
theorem refTake_B1 (a : Option Addr) (bs : List Int) (n cap : Nat) (w : World) (hn : n = bs.length) (hr : RowK .u8 w a bs) (hb : IsB bs) (hcap : bs.length ≤ cap) (hlen : bs.length ≤ 140737488355328) {t : Int} {rn : Nat} {ds : List Int} {nt nr : Int} {pt pr : Int} {s : ByteArray} {k0 m1 k1 m2 k2 m3 k3 m4 k4 m5 k5 m6 : Nat} (h0 : St.tkSt bs = (t, (rn : Int), k0, 0)) (e1 : k0 = m1) (b1 : m1 ≤ bs.length) (h1 : Hv.tkV (bs.drop m1) = (ds, k1, 0)) (e2 : m1 + k1 = m2) (b2 : m2 ≤ bs.length) (h2 : tkN (bs.drop m2) = (1, k2, 0)) (e3 : m2 + k2 = m3) (b3 : m3 ≤ bs.length) (h3 : St.tkSt (bs.drop m3) = (nt, nr, k3, 0)) (e4 : m3 + k3 = m4) (b4 : m4 ≤ bs.length) (h4 : St.tkSt (bs.drop m4) = (pt, pr, k4, 0)) (e5 : m4 + k4 = m5) (b5 : m5 ≤ bs.length) (h5 : tkS (bs.drop m5) = (s, k5, 0)) (e6 : m5 + k5 = m6) (b6 : m6 ≤ bs.length) (hve : Hv.vecB ds = true) (hrl : (rn : Int) < ds.length) (hok : opB t rn (ds.getD rn 0 + 1) ds 1 nt nr pt pr s 0 0 = false) : Calls Tryd.prog 54 #[.slice a n cap] w (TakeO (zR, 0, 0, 1) w) := by
  obtain ⟨g0, hg0⟩ : ∃ g, w.heap.size = g := ⟨_, rfl⟩
  obtain ⟨h, hh⟩ : ∃ h, g0 + 1 = h := ⟨_, rfl⟩
  have HH : Hid (w.heap.size + 1 = h) := (by rw [hg0, hh] : w.heap.size + 1 = h)
  have HG : Hid (w.heap.size = g0) := hg0
  have HROW := Lib.hid (fun (W : World) (hb : Below w.heap.size w W) => hr.below hb (Nat.le_refl _))
  have htb := tk_build
  have hb1 := op_build1
  have hb0 := op_build0
  have C0 := Lib.hid (tstamp_zero h a bs n cap ((w.alloc (.cells #[.int .i64 0, .int .i64 0, .int .i64 0, .slice none 0 0, .int .i64 0, .int .i64 0, .int .i64 0, .int .i64 0, .int .i64 0, .string ⟨#[]⟩, .int .i64 0, .int .i64 0] 27)).alloc (.cells #[.slice a n cap, .int .i64 0, .int .i64 0] 85)) (tkr_new w a n cap _ HH.out) hn (HROW.out _ (St.below2 w _ _)) hb hcap hlen h0)
  rw [e1] at C0
  have hsl1 := fun W => slice_l W a n cap m1 (m1 : Int) rfl (by rw [hn]; exact b1)
  have C1 := Lib.hid (fun (W : World) (hB : Below w.heap.size w W) => Hv.refTake_is (partA a m1 cap) (bs.drop m1) (n - m1) (cap - m1) W (by rw [List.length_drop, hn]) ((HROW.out W hB).rest m1 cap hcap) (hb.drop m1) (by rw [List.length_drop]; omega) (by rw [List.length_drop]; omega) h1)
  have hz2 : (m1 : Int) + (k1 : Int) = (m2 : Int) := by omega
  have hy2 : (m2 : Int) ≤ 140737488355328 := by have := tkV_k (bs.drop m1) (hb.drop m1); rw [h1, List.length_drop] at this; simp only at this; omega
  have C2 := Lib.hid (fun (W : World) (hB : Below w.heap.size w W) (hT : Blk W h (tkrV a n cap (m2 : Int) 0)) => tnum_is h a bs n cap m2 W hT hn (HROW.out W hB) hb hcap hlen b2 h2 e3)
  have C3 := Lib.hid (fun (W : World) (hB : Below w.heap.size w W) (hT : Blk W h (tkrV a n cap (m3 : Int) 0)) => tstamp_is h a bs n cap m3 W hT hn (HROW.out W hB) hb hcap hlen b3 h3 e4)
  have C4 := Lib.hid (fun (W : World) (hB : Below w.heap.size w W) (hT : Blk W h (tkrV a n cap (m4 : Int) 0)) => tstamp_is h a bs n cap m4 W hT hn (HROW.out W hB) hb hcap hlen b4 h4 e5)
  have hsl5 := fun W => slice_l W a n cap m5 (m5 : Int) rfl (by rw [hn]; exact b5)
  have C5 := Lib.hid (fun (W : World) (hB : Below w.heap.size w W) => refTakeText_n (partA a m5 cap) (bs.drop m5) (n - m5) (cap - m5) W (by rw [List.length_drop, hn]) ((HROW.out W hB).rest m5 cap hcap) (hb.drop m5) (by rw [List.length_drop]; omega) (by rw [List.length_drop]; omega) h5)
  have hz6 : (m5 : Int) + (k5 : Int) = (m6 : Int) := by omega
  have hy6 : (m6 : Int) ≤ 140737488355328 := by have := tkS_k (bs.drop m5) (hb.drop m5); rw [h5, List.length_drop] at this; simp only at this; omega
  clear hn hr hb hcap hlen h0 e1 h1 e2 h2 e3 h3 e4 h4 e5 h5 e6 b1 b2 b3 b4 b5 b6
  go_enter Tryd.func54, Tryd.ntmps54
  go_wp2_with fail
  refine (C0.out).mono ?_
  rintro e w1 ⟨rfl, hT, hg⟩
  obtain ⟨b, hbb⟩ : ∃ b, w1.heap.size = b := ⟨_, rfl⟩
  have HP1 := Lib.hid (PI.first (t := t) (r := (rn : Int)) HH.out hbb hT hg)
  have ne1 : h ≠ b := by have := HP1.out.hb; omega
  have ne2 : g0 ≠ h := by omega
  have ne3 : g0 ≠ b := by have := HP1.out.hb; omega
  have ne1' := Ne.symm ne1
  have ne2' := Ne.symm ne2
  have ne3' := Ne.symm ne3
  have tc2 := HP1.out.t.cell 2 _ rfl
  have tc1 := HP1.out.t.cell 1 _ rfl
  have hlt := hT.lt
  clear hT hg
  go_wp2_with fail
  generalize w1.alloc (.cells #[.int .i64 t, .int .i64 (rn : Int), .int .i64 0, .slice none 0 0, .int .i64 0, .int .i64 0, .int .i64 0, .int .i64 0, .int .i64 0, .string ⟨#[]⟩, .int .i64 0, .int .i64 0] 27) = W1 at *
  clear hlt hbb hg0 hh
  refine (C1.out _ HP1.out.bel).mono ?_
  rintro e w2 ⟨v2, rfl, ho, hbl⟩
  obtain ⟨a2, n2, c2, rfl, hn2, hr2, hc2⟩ := ho.form'
  have HN2 := Lib.hid hn2
  have HO2 := Lib.hid (ho.mono (show b + 1 ≤ _ from HP1.out.size))
  have HP3 := Lib.hid (HP1.out.next hbl)
  clear ho hbl hn2 hr2 hc2
  clear tc1 tc2
  have tc1 := HP3.out.t.cell 1 _ rfl
  have tf1 := HP3.out.t.free 1 _ rfl
  have tc2 := HP3.out.t.cell 2 _ rfl
  have tf2 := HP3.out.t.free 2 _ rfl
  have oc3 := HP3.out.o.cell 3 _ rfl
  have of3 := HP3.out.o.free 3 _ rfl
  have HP4 := Lib.hid (((HP3.out.putD HO2.out).setT (m2 : Int) 0))
  go_wp2_with fail
  refine (C2.out _ HP4.out.bel HP4.out.t).mono ?_
  rintro e w5 ⟨rfl, hT, hg⟩
  have HP5 := Lib.hid (HP4.out.grown hg hT)
  clear hT hg
  clear tc1 tf1 tc2 tf2 oc3 of3
  have tc1 := HP5.out.t.cell 1 _ rfl
  have tf1 := HP5.out.t.free 1 _ rfl
  have tc2 := HP5.out.t.cell 2 _ rfl
  have tf2 := HP5.out.t.free 2 _ rfl
  have oc4 := HP5.out.o.cell 4 _ rfl
  have of4 := HP5.out.o.free 4 _ rfl
  have HP6 := Lib.hid (HP5.out.put 4 (.int .i64 1) (R' := (⟨t, (rn : Int), ds, 1, 0, 0, 0, 0, ⟨#[]⟩, 0, 0⟩ : OpR)) rfl rfl)
  go_wp2_with fail
  refine (C3.out _ HP6.out.bel HP6.out.t).mono ?_
  rintro e w7 ⟨rfl, hT, hg⟩
  have HP7 := Lib.hid (HP6.out.grown hg hT)
  clear hT hg
  clear tc1 tf1 tc2 tf2 oc4 of4
  have tc2 := HP7.out.t.cell 2 _ rfl
  have tf2 := HP7.out.t.free 2 _ rfl
  have oc4 := HP7.out.o.cell 4 _ rfl
  have of4 := HP7.out.o.free 4 _ rfl
  have oc5 := HP7.out.o.cell 5 _ rfl
  have of5 := HP7.out.o.free 5 _ rfl
  have oc6 := HP7.out.o.cell 6 _ rfl
  have of6 := HP7.out.o.free 6 _ rfl
  have HP8 := Lib.hid (HP7.out.put2 5 6 (.int .i64 nt) (.int .i64 nr) (R' := (⟨t, (rn : Int), ds, 1, nt, nr, 0, 0, ⟨#[]⟩, 0, 0⟩ : OpR)) rfl rfl)
  go_wp2_with fail
  refine (C4.out _ HP8.out.bel HP8.out.t).mono ?_
  rintro e w9 ⟨rfl, hT, hg⟩
  have HP9 := Lib.hid (HP8.out.grown hg hT)
  clear hT hg
  clear tc2 tf2 oc4 of4 oc5 of5 oc6 of6
  have tc1 := HP9.out.t.cell 1 _ rfl
  have tf1 := HP9.out.t.free 1 _ rfl
  have tc2 := HP9.out.t.cell 2 _ rfl
  have tf2 := HP9.out.t.free 2 _ rfl
  have oc7 := HP9.out.o.cell 7 _ rfl
  have of7 := HP9.out.o.free 7 _ rfl
  have oc8 := HP9.out.o.cell 8 _ rfl
  have of8 := HP9.out.o.free 8 _ rfl
  have HP10 := Lib.hid (HP9.out.put2 7 8 (.int .i64 pt) (.int .i64 pr) (R' := (⟨t, (rn : Int), ds, 1, nt, nr, pt, pr, ⟨#[]⟩, 0, 0⟩ : OpR)) rfl rfl)
  go_wp2_with fail
  refine (C5.out _ HP10.out.bel).mono ?_
  rintro e w99 ⟨rfl, rfl⟩
  clear tc1 tf1 tc2 tf2 oc7 of7 oc8 of8
  have tc1 := HP10.out.t.cell 1 _ rfl
  have tf1 := HP10.out.t.free 1 _ rfl
  have tc2 := HP10.out.t.cell 2 _ rfl
  have tf2 := HP10.out.t.free 2 _ rfl
  have oc0 := HP10.out.o.cell 0 _ rfl
  have of0 := HP10.out.o.free 0 _ rfl
  have oc1 := HP10.out.o.cell 1 _ rfl
  have of1 := HP10.out.o.free 1 _ rfl
  have oc2 := HP10.out.o.cell 2 _ rfl
  have of2 := HP10.out.o.free 2 _ rfl
  have oc3 := HP10.out.o.cell 3 _ rfl
  have of3 := HP10.out.o.free 3 _ rfl
  have oc4 := HP10.out.o.cell 4 _ rfl
  have of4 := HP10.out.o.free 4 _ rfl
  have oc5 := HP10.out.o.cell 5 _ rfl
  have of5 := HP10.out.o.free 5 _ rfl
  have oc6 := HP10.out.o.cell 6 _ rfl
  have of6 := HP10.out.o.free 6 _ rfl
  have oc7 := HP10.out.o.cell 7 _ rfl
  have of7 := HP10.out.o.free 7 _ rfl
  have oc8 := HP10.out.o.cell 8 _ rfl
  have of8 := HP10.out.o.free 8 _ rfl
  have oc9 := HP10.out.o.cell 9 _ rfl
  have of9 := HP10.out.o.free 9 _ rfl
  have oc10 := HP10.out.o.cell 10 _ rfl
  have of10 := HP10.out.o.free 10 _ rfl
  have oc11 := HP10.out.o.cell 11 _ rfl
  have of11 := HP10.out.o.free 11 _ rfl
  have HRD := Lib.hid (RowK.ofOwn HP10.out.d).1
  have hn2 : n2 = ds.length := HN2.out
  have hdl := Hv.vecB_len hve
  have hdr : decide ((rn : Int) < (n2 : Int)) = true := decide_eq_true (by rw [hn2]; exact hrl)
  have hdr' : (rn : Int) < (n2 : Int) := by rw [hn2]; exact hrl
  have hrn2 : rn < n2 := by omega
  obtain ⟨bb, off, ha2, hc⟩ := HRD.out rn (show rn < ds.length by omega)
  have hge : b + 1 ≤ bb := by
    obtain ⟨b', off', hb', hge⟩ := HP10.out.d.rowGe (show 0 < ds.length by omega)
    rw [ha2] at hb'
    simp only [Option.some.injEq, Addr.mk.injEq] at hb'
    omega
  subst ha2
  have nb1 : b ≠ bb := by omega
  have nb1' := Ne.symm nb1
  have nb2 : h ≠ bb := by have := HP10.out.hb; omega
  have nb2' := Ne.symm nb2
  have hxx := Hv.vecB_at hve (k := rn) (by omega)
  have hw2 : IntKind.i64.wrap (ds.getD rn 0 + 1) = ds.getD rn 0 + 1 := IntWalk.i64_in _ (by omega)
  have hw1 : wrap64 (ds.getD rn 0 + 1) = ds.getD rn 0 + 1 := IntWalk.wrap64_in _ (by omega)
  generalize hxq : ds.getD rn 0 = xq at *
  have HLE : Hid (ds.length ≤ 140737488355328) := (by omega : ds.length ≤ 140737488355328)
  have HNN := Lib.hid hn2
  clear hn2 hrl hdl
  have HP11 := Lib.hid ((HP10.out.put 9 (.string s) (R' := (⟨t, (rn : Int), ds, 1, nt, nr, pt, pr, s, 0, 0⟩ : OpR)) rfl rfl).setT (m6 : Int) 0)
  have HP12 := Lib.hid (HP11.out.put 2 (.int .i64 (xq + 1)) (R' := (⟨t, (rn : Int), ds, 1, nt, nr, pt, pr, s, 0, 0⟩ : OpR)) (q' := xq + 1) rfl rfl)
  go_wp2_with fail
  refine (refOp_any t rn (xq + 1) (some ⟨bb, off, none⟩) ds n2 c2 1 nt nr pt pr s 0 0 _ (RowK.ofOwn HP12.out.d).1 HNN.out HLE.out).mono ?_
  rw [hok]
  rintro e wz ⟨rfl, hbl⟩
  have HP13 := Lib.hid (HP12.out.next hbl)
  clear hbl hc hdr hdr' hrn2
  clear tc1 tf1 tc2 tf2 oc0 of0 oc1 of1 oc2 of2 oc3 of3 oc4 of4 oc5 of5 oc6 of6 oc7 of7 oc8 of8 oc9 of9 oc10 of10 oc11 of11
  have tc1 := HP13.out.t.cell 1 _ rfl
  have tf1 := HP13.out.t.free 1 _ rfl
  have tc2 := HP13.out.t.cell 2 _ rfl
  have tf2 := HP13.out.t.free 2 _ rfl
  have HZ0 : Hid (Blk wz g0 (zR.cells 0 (.slice none 0 0))) := HG.out ▸ HP13.out.rz
  have zc0 := HZ0.out.cell 0 _ rfl
  have zf0 := HZ0.out.free 0 _ rfl
  have zc1 := HZ0.out.cell 1 _ rfl
  have zf1 := HZ0.out.free 1 _ rfl
  have zc2 := HZ0.out.cell 2 _ rfl
  have zf2 := HZ0.out.free 2 _ rfl
  have zc3 := HZ0.out.cell 3 _ rfl
  have zf3 := HZ0.out.free 3 _ rfl
  have zc4 := HZ0.out.cell 4 _ rfl
  have zf4 := HZ0.out.free 4 _ rfl
  have zc5 := HZ0.out.cell 5 _ rfl
  have zf5 := HZ0.out.free 5 _ rfl
  have zc6 := HZ0.out.cell 6 _ rfl
  have zf6 := HZ0.out.free 6 _ rfl
  have zc7 := HZ0.out.cell 7 _ rfl
  have zf7 := HZ0.out.free 7 _ rfl
  have zc8 := HZ0.out.cell 8 _ rfl
  have zf8 := HZ0.out.free 8 _ rfl
  have zc9 := HZ0.out.cell 9 _ rfl
  have zf9 := HZ0.out.free 9 _ rfl
  have zc10 := HZ0.out.cell 10 _ rfl
  have zf10 := HZ0.out.free 10 _ rfl
  have zc11 := HZ0.out.cell 11 _ rfl
  have zf11 := HZ0.out.free 11 _ rfl
  go_wp2
  have HZ := ((((((((((((HZ0.out.set 0 (.int .i64 0)).set 1 (.int .i64 0)).set 2 (.int .i64 0)).set 3 (.slice none 0 0)).set 4 (.int .i64 0)).set 5 (.int .i64 0)).set 6 (.int .i64 0)).set 7 (.int .i64 0)).set 8 (.int .i64 0)).set 9 (.string ⟨#[]⟩)).set 10 (.int .i64 0)).set 11 (.int .i64 0))
  have z0 := HZ.cell 0 _ rfl
  have z1 := HZ.cell 1 _ rfl
  have z2 := HZ.cell 2 _ rfl
  have z3 := HZ.cell 3 _ rfl
  have z4 := HZ.cell 4 _ rfl
  have z5 := HZ.cell 5 _ rfl
  have z6 := HZ.cell 6 _ rfl
  have z7 := HZ.cell 7 _ rfl
  have z8 := HZ.cell 8 _ rfl
  have z9 := HZ.cell 9 _ rfl
  have z10 := HZ.cell 10 _ rfl
  have z11 := HZ.cell 11 _ rfl
  refine bodyPost_ret (v := .tuple #[.agg #[.int .i64 0, .int .i64 0, .int .i64 0, .slice none 0 0, .int .i64 0, .int .i64 0, .int .i64 0, .int .i64 0, .int .i64 0, .string ⟨#[]⟩, .int .i64 0, .int .i64 0], .int .i64 0, .int .i64 1]) (by simp [results, Tryd.results54, go_sem, z0, z1, z2, z3, z4, z5, z6, z7, z8, z9, z10, z11]) rfl ?_
  exact ⟨none, 0, 0, rfl, OwnK.nil _ _ _ _, ((((((((((((HP13.out.bel.setCell (p := ⟨g0, 0, none⟩) (Nat.le_of_eq HG.out) _).setCell (p := ⟨g0, 1, none⟩) (Nat.le_of_eq HG.out) _).setCell (p := ⟨g0, 2, none⟩) (Nat.le_of_eq HG.out) _).setCell (p := ⟨g0, 3, none⟩) (Nat.le_of_eq HG.out) _).setCell (p := ⟨g0, 4, none⟩) (Nat.le_of_eq HG.out) _).setCell (p := ⟨g0, 5, none⟩) (Nat.le_of_eq HG.out) _).setCell (p := ⟨g0, 6, none⟩) (Nat.le_of_eq HG.out) _).setCell (p := ⟨g0, 7, none⟩) (Nat.le_of_eq HG.out) _).setCell (p := ⟨g0, 8, none⟩) (Nat.le_of_eq HG.out) _).setCell (p := ⟨g0, 9, none⟩) (Nat.le_of_eq HG.out) _).setCell (p := ⟨g0, 10, none⟩) (Nat.le_of_eq HG.out) _).setCell (p := ⟨g0, 11, none⟩) (Nat.le_of_eq HG.out) _)⟩

set_option maxHeartbeats 4000000 in
set_option maxRecDepth 100000 in
theorem refTake_C1 (a : Option Addr) (bs : List Int) (n cap : Nat) (w : World) (hn : n = bs.length) (hr : RowK .u8 w a bs) (hb : IsB bs) (hcap : bs.length ≤ cap) (hlen : bs.length ≤ 140737488355328) {t : Int} {rn : Nat} {ds : List Int} {nt nr : Int} {pt pr : Int} {s : ByteArray} {k0 m1 k1 m2 k2 m3 k3 m4 k4 m5 k5 m6 : Nat} (h0 : St.tkSt bs = (t, (rn : Int), k0, 0)) (e1 : k0 = m1) (b1 : m1 ≤ bs.length) (h1 : Hv.tkV (bs.drop m1) = (ds, k1, 0)) (e2 : m1 + k1 = m2) (b2 : m2 ≤ bs.length) (h2 : tkN (bs.drop m2) = (1, k2, 0)) (e3 : m2 + k2 = m3) (b3 : m3 ≤ bs.length) (h3 : St.tkSt (bs.drop m3) = (nt, nr, k3, 0)) (e4 : m3 + k3 = m4) (b4 : m4 ≤ bs.length) (h4 : St.tkSt (bs.drop m4) = (pt, pr, k4, 0)) (e5 : m4 + k4 = m5) (b5 : m5 ≤ bs.length) (h5 : tkS (bs.drop m5) = (s, k5, 0)) (e6 : m5 + k5 = m6) (b6 : m6 ≤ bs.length) (hve : Hv.vecB ds = true) (hrl : ¬ (rn : Int) < ds.length) (hok : opB t rn (0) ds 1 nt nr pt pr s 0 0 = false) : Calls Tryd.prog 54 #[.slice a n cap] w (TakeO (zR, 0, 0, 1) w) := by
  obtain ⟨g0, hg0⟩ : ∃ g, w.heap.size = g := ⟨_, rfl⟩
  obtain ⟨h, hh⟩ : ∃ h, g0 + 1 = h := ⟨_, rfl⟩
  have HH : Hid (w.heap.size + 1 = h) := (by rw [hg0, hh] : w.heap.size + 1 = h)
  have HG : Hid (w.heap.size = g0) := hg0
  have HROW := Lib.hid (fun (W : World) (hb : Below w.heap.size w W) => hr.below hb (Nat.le_refl _))
  have htb := tk_build
  have hb1 := op_build1
  have hb0 := op_build0
  have C0 := Lib.hid (tstamp_zero h a bs n cap ((w.alloc (.cells #[.int .i64 0, .int .i64 0, .int .i64 0, .slice none 0 0, .int .i64 0, .int .i64 0, .int .i64 0, .int .i64 0, .int .i64 0, .string ⟨#[]⟩, .int .i64 0, .int .i64 0] 27)).alloc (.cells #[.slice a n cap, .int .i64 0, .int .i64 0] 85)) (tkr_new w a n cap _ HH.out) hn (HROW.out _ (St.below2 w _ _)) hb hcap hlen h0)
  rw [e1] at C0
  have hsl1 := fun W => slice_l W a n cap m1 (m1 : Int) rfl (by rw [hn]; exact b1)
  have C1 := Lib.hid (fun (W : World) (hB : Below w.heap.size w W) => Hv.refTake_is (partA a m1 cap) (bs.drop m1) (n - m1) (cap - m1) W (by rw [List.length_drop, hn]) ((HROW.out W hB).rest m1 cap hcap) (hb.drop m1) (by rw [List.length_drop]; omega) (by rw [List.length_drop]; omega) h1)
  have hz2 : (m1 : Int) + (k1 : Int) = (m2 : Int) := by omega
  have hy2 : (m2 : Int) ≤ 140737488355328 := by have := tkV_k (bs.drop m1) (hb.drop m1); rw [h1, List.length_drop] at this; simp only at this; omega
  have C2 := Lib.hid (fun (W : World) (hB : Below w.heap.size w W) (hT : Blk W h (tkrV a n cap (m2 : Int) 0)) => tnum_is h a bs n cap m2 W hT hn (HROW.out W hB) hb hcap hlen b2 h2 e3)
  have C3 := Lib.hid (fun (W : World) (hB : Below w.heap.size w W) (hT : Blk W h (tkrV a n cap (m3 : Int) 0)) => tstamp_is h a bs n cap m3 W hT hn (HROW.out W hB) hb hcap hlen b3 h3 e4)
  have C4 := Lib.hid (fun (W : World) (hB : Below w.heap.size w W) (hT : Blk W h (tkrV a n cap (m4 : Int) 0)) => tstamp_is h a bs n cap m4 W hT hn (HROW.out W hB) hb hcap hlen b4 h4 e5)
  have hsl5 := fun W => slice_l W a n cap m5 (m5 : Int) rfl (by rw [hn]; exact b5)
  have C5 := Lib.hid (fun (W : World) (hB : Below w.heap.size w W) => refTakeText_n (partA a m5 cap) (bs.drop m5) (n - m5) (cap - m5) W (by rw [List.length_drop, hn]) ((HROW.out W hB).rest m5 cap hcap) (hb.drop m5) (by rw [List.length_drop]; omega) (by rw [List.length_drop]; omega) h5)
  have hz6 : (m5 : Int) + (k5 : Int) = (m6 : Int) := by omega
  have hy6 : (m6 : Int) ≤ 140737488355328 := by have := tkS_k (bs.drop m5) (hb.drop m5); rw [h5, List.length_drop] at this; simp only at this; omega
  clear hn hr hb hcap hlen h0 e1 h1 e2 h2 e3 h3 e4 h4 e5 h5 e6 b1 b2 b3 b4 b5 b6
  go_enter Tryd.func54, Tryd.ntmps54
  go_wp2_with fail
  refine (C0.out).mono ?_
  rintro e w1 ⟨rfl, hT, hg⟩
  obtain ⟨b, hbb⟩ : ∃ b, w1.heap.size = b := ⟨_, rfl⟩
  have HP1 := Lib.hid (PI.first (t := t) (r := (rn : Int)) HH.out hbb hT hg)
  have ne1 : h ≠ b := by have := HP1.out.hb; omega
  have ne2 : g0 ≠ h := by omega
  have ne3 : g0 ≠ b := by have := HP1.out.hb; omega
  have ne1' := Ne.symm ne1
  have ne2' := Ne.symm ne2
  have ne3' := Ne.symm ne3
  have tc2 := HP1.out.t.cell 2 _ rfl
  have tc1 := HP1.out.t.cell 1 _ rfl
  have hlt := hT.lt
  clear hT hg
  go_wp2_with fail
  generalize w1.alloc (.cells #[.int .i64 t, .int .i64 (rn : Int), .int .i64 0, .slice none 0 0, .int .i64 0, .int .i64 0, .int .i64 0, .int .i64 0, .int .i64 0, .string ⟨#[]⟩, .int .i64 0, .int .i64 0] 27) = W1 at *
  clear hlt hbb hg0 hh
  refine (C1.out _ HP1.out.bel).mono ?_
  rintro e w2 ⟨v2, rfl, ho, hbl⟩
  obtain ⟨a2, n2, c2, rfl, hn2, hr2, hc2⟩ := ho.form'
  have HN2 := Lib.hid hn2
  have HO2 := Lib.hid (ho.mono (show b + 1 ≤ _ from HP1.out.size))
  have HP3 := Lib.hid (HP1.out.next hbl)
  clear ho hbl hn2 hr2 hc2
  clear tc1 tc2
  have tc1 := HP3.out.t.cell 1 _ rfl
  have tf1 := HP3.out.t.free 1 _ rfl
  have tc2 := HP3.out.t.cell 2 _ rfl
  have tf2 := HP3.out.t.free 2 _ rfl
  have oc3 := HP3.out.o.cell 3 _ rfl
  have of3 := HP3.out.o.free 3 _ rfl
  have HP4 := Lib.hid (((HP3.out.putD HO2.out).setT (m2 : Int) 0))
  go_wp2_with fail
  refine (C2.out _ HP4.out.bel HP4.out.t).mono ?_
  rintro e w5 ⟨rfl, hT, hg⟩
  have HP5 := Lib.hid (HP4.out.grown hg hT)
  clear hT hg
  clear tc1 tf1 tc2 tf2 oc3 of3
  have tc1 := HP5.out.t.cell 1 _ rfl
  have tf1 := HP5.out.t.free 1 _ rfl
  have tc2 := HP5.out.t.cell 2 _ rfl
  have tf2 := HP5.out.t.free 2 _ rfl
  have oc4 := HP5.out.o.cell 4 _ rfl
  have of4 := HP5.out.o.free 4 _ rfl
  have HP6 := Lib.hid (HP5.out.put 4 (.int .i64 1) (R' := (⟨t, (rn : Int), ds, 1, 0, 0, 0, 0, ⟨#[]⟩, 0, 0⟩ : OpR)) rfl rfl)
  go_wp2_with fail
  refine (C3.out _ HP6.out.bel HP6.out.t).mono ?_
  rintro e w7 ⟨rfl, hT, hg⟩
  have HP7 := Lib.hid (HP6.out.grown hg hT)
  clear hT hg
  clear tc1 tf1 tc2 tf2 oc4 of4
  have tc2 := HP7.out.t.cell 2 _ rfl
  have tf2 := HP7.out.t.free 2 _ rfl
  have oc4 := HP7.out.o.cell 4 _ rfl
  have of4 := HP7.out.o.free 4 _ rfl
  have oc5 := HP7.out.o.cell 5 _ rfl
  have of5 := HP7.out.o.free 5 _ rfl
  have oc6 := HP7.out.o.cell 6 _ rfl
  have of6 := HP7.out.o.free 6 _ rfl
  have HP8 := Lib.hid (HP7.out.put2 5 6 (.int .i64 nt) (.int .i64 nr) (R' := (⟨t, (rn : Int), ds, 1, nt, nr, 0, 0, ⟨#[]⟩, 0, 0⟩ : OpR)) rfl rfl)
  go_wp2_with fail
  refine (C4.out _ HP8.out.bel HP8.out.t).mono ?_
  rintro e w9 ⟨rfl, hT, hg⟩
  have HP9 := Lib.hid (HP8.out.grown hg hT)
  clear hT hg
  clear tc2 tf2 oc4 of4 oc5 of5 oc6 of6
  have tc1 := HP9.out.t.cell 1 _ rfl
  have tf1 := HP9.out.t.free 1 _ rfl
  have tc2 := HP9.out.t.cell 2 _ rfl
  have tf2 := HP9.out.t.free 2 _ rfl
  have oc7 := HP9.out.o.cell 7 _ rfl
  have of7 := HP9.out.o.free 7 _ rfl
  have oc8 := HP9.out.o.cell 8 _ rfl
  have of8 := HP9.out.o.free 8 _ rfl
  have HP10 := Lib.hid (HP9.out.put2 7 8 (.int .i64 pt) (.int .i64 pr) (R' := (⟨t, (rn : Int), ds, 1, nt, nr, pt, pr, ⟨#[]⟩, 0, 0⟩ : OpR)) rfl rfl)
  go_wp2_with fail
  refine (C5.out _ HP10.out.bel).mono ?_
  rintro e w99 ⟨rfl, rfl⟩
  clear tc1 tf1 tc2 tf2 oc7 of7 oc8 of8
  have tc1 := HP10.out.t.cell 1 _ rfl
  have tf1 := HP10.out.t.free 1 _ rfl
  have tc2 := HP10.out.t.cell 2 _ rfl
  have tf2 := HP10.out.t.free 2 _ rfl
  have oc0 := HP10.out.o.cell 0 _ rfl
  have of0 := HP10.out.o.free 0 _ rfl
  have oc1 := HP10.out.o.cell 1 _ rfl
  have of1 := HP10.out.o.free 1 _ rfl
  have oc2 := HP10.out.o.cell 2 _ rfl
  have of2 := HP10.out.o.free 2 _ rfl
  have oc3 := HP10.out.o.cell 3 _ rfl
  have of3 := HP10.out.o.free 3 _ rfl
  have oc4 := HP10.out.o.cell 4 _ rfl
  have of4 := HP10.out.o.free 4 _ rfl
  have oc5 := HP10.out.o.cell 5 _ rfl
  have of5 := HP10.out.o.free 5 _ rfl
  have oc6 := HP10.out.o.cell 6 _ rfl
  have of6 := HP10.out.o.free 6 _ rfl
  have oc7 := HP10.out.o.cell 7 _ rfl
  have of7 := HP10.out.o.free 7 _ rfl
  have oc8 := HP10.out.o.cell 8 _ rfl
  have of8 := HP10.out.o.free 8 _ rfl
  have oc9 := HP10.out.o.cell 9 _ rfl
  have of9 := HP10.out.o.free 9 _ rfl
  have oc10 := HP10.out.o.cell 10 _ rfl
  have of10 := HP10.out.o.free 10 _ rfl
  have oc11 := HP10.out.o.cell 11 _ rfl
  have of11 := HP10.out.o.free 11 _ rfl
  have HRD := Lib.hid (RowK.ofOwn HP10.out.d).1
  have hn2 : n2 = ds.length := HN2.out
  have hdl := Hv.vecB_len hve
  have hdr : decide ((rn : Int) < (n2 : Int)) = false := decide_eq_false (by omega)
  have hdr' : ¬ (rn : Int) < (n2 : Int) := by omega
  have HLE : Hid (ds.length ≤ 140737488355328) := (by omega : ds.length ≤ 140737488355328)
  have HNN := Lib.hid hn2
  clear hn2 hrl hdl
  have HP11 := Lib.hid ((HP10.out.put 9 (.string s) (R' := (⟨t, (rn : Int), ds, 1, nt, nr, pt, pr, s, 0, 0⟩ : OpR)) rfl rfl).setT (m6 : Int) 0)
  go_wp2_with fail
  refine (refOp_any t rn 0 a2 ds n2 c2 1 nt nr pt pr s 0 0 _ (RowK.ofOwn HP11.out.d).1 HNN.out HLE.out).mono ?_
  rw [hok]
  rintro e wz ⟨rfl, hbl⟩
  have HP12 := Lib.hid (HP11.out.next hbl)
  clear hbl hdr hdr'
  clear tc1 tf1 tc2 tf2 oc0 of0 oc1 of1 oc2 of2 oc3 of3 oc4 of4 oc5 of5 oc6 of6 oc7 of7 oc8 of8 oc9 of9 oc10 of10 oc11 of11
  have tc1 := HP12.out.t.cell 1 _ rfl
  have tf1 := HP12.out.t.free 1 _ rfl
  have tc2 := HP12.out.t.cell 2 _ rfl
  have tf2 := HP12.out.t.free 2 _ rfl
  have HZ0 : Hid (Blk wz g0 (zR.cells 0 (.slice none 0 0))) := HG.out ▸ HP12.out.rz
  have zc0 := HZ0.out.cell 0 _ rfl
  have zf0 := HZ0.out.free 0 _ rfl
  have zc1 := HZ0.out.cell 1 _ rfl
  have zf1 := HZ0.out.free 1 _ rfl
  have zc2 := HZ0.out.cell 2 _ rfl
  have zf2 := HZ0.out.free 2 _ rfl
  have zc3 := HZ0.out.cell 3 _ rfl
  have zf3 := HZ0.out.free 3 _ rfl
  have zc4 := HZ0.out.cell 4 _ rfl
  have zf4 := HZ0.out.free 4 _ rfl
  have zc5 := HZ0.out.cell 5 _ rfl
  have zf5 := HZ0.out.free 5 _ rfl
  have zc6 := HZ0.out.cell 6 _ rfl
  have zf6 := HZ0.out.free 6 _ rfl
  have zc7 := HZ0.out.cell 7 _ rfl
  have zf7 := HZ0.out.free 7 _ rfl
  have zc8 := HZ0.out.cell 8 _ rfl
  have zf8 := HZ0.out.free 8 _ rfl
  have zc9 := HZ0.out.cell 9 _ rfl
  have zf9 := HZ0.out.free 9 _ rfl
  have zc10 := HZ0.out.cell 10 _ rfl
  have zf10 := HZ0.out.free 10 _ rfl
  have zc11 := HZ0.out.cell 11 _ rfl
  have zf11 := HZ0.out.free 11 _ rfl
  go_wp2
  have HZ := ((((((((((((HZ0.out.set 0 (.int .i64 0)).set 1 (.int .i64 0)).set 2 (.int .i64 0)).set 3 (.slice none 0 0)).set 4 (.int .i64 0)).set 5 (.int .i64 0)).set 6 (.int .i64 0)).set 7 (.int .i64 0)).set 8 (.int .i64 0)).set 9 (.string ⟨#[]⟩)).set 10 (.int .i64 0)).set 11 (.int .i64 0))
  have z0 := HZ.cell 0 _ rfl
  have z1 := HZ.cell 1 _ rfl
  have z2 := HZ.cell 2 _ rfl
  have z3 := HZ.cell 3 _ rfl
  have z4 := HZ.cell 4 _ rfl
  have z5 := HZ.cell 5 _ rfl
  have z6 := HZ.cell 6 _ rfl
  have z7 := HZ.cell 7 _ rfl
  have z8 := HZ.cell 8 _ rfl
  have z9 := HZ.cell 9 _ rfl
  have z10 := HZ.cell 10 _ rfl
  have z11 := HZ.cell 11 _ rfl
  refine bodyPost_ret (v := .tuple #[.agg #[.int .i64 0, .int .i64 0, .int .i64 0, .slice none 0 0, .int .i64 0, .int .i64 0, .int .i64 0, .int .i64 0, .int .i64 0, .string ⟨#[]⟩, .int .i64 0, .int .i64 0], .int .i64 0, .int .i64 1]) (by simp [results, Tryd.results54, go_sem, z0, z1, z2, z3, z4, z5, z6, z7, z8, z9, z10, z11]) rfl ?_
  exact ⟨none, 0, 0, rfl, OwnK.nil _ _ _ _, ((((((((((((HP12.out.bel.setCell (p := ⟨g0, 0, none⟩) (Nat.le_of_eq HG.out) _).setCell (p := ⟨g0, 1, none⟩) (Nat.le_of_eq HG.out) _).setCell (p := ⟨g0, 2, none⟩) (Nat.le_of_eq HG.out) _).setCell (p := ⟨g0, 3, none⟩) (Nat.le_of_eq HG.out) _).setCell (p := ⟨g0, 4, none⟩) (Nat.le_of_eq HG.out) _).setCell (p := ⟨g0, 5, none⟩) (Nat.le_of_eq HG.out) _).setCell (p := ⟨g0, 6, none⟩) (Nat.le_of_eq HG.out) _).setCell (p := ⟨g0, 7, none⟩) (Nat.le_of_eq HG.out) _).setCell (p := ⟨g0, 8, none⟩) (Nat.le_of_eq HG.out) _).setCell (p := ⟨g0, 9, none⟩) (Nat.le_of_eq HG.out) _).setCell (p := ⟨g0, 10, none⟩) (Nat.le_of_eq HG.out) _).setCell (p := ⟨g0, 11, none⟩) (Nat.le_of_eq HG.out) _)⟩

set_option maxHeartbeats 4000000 in
set_option maxRecDepth 100000 in
theorem refTake_A2 (a : Option Addr) (bs : List Int) (n cap : Nat) (w : World) (hn : n = bs.length) (hr : RowK .u8 w a bs) (hb : IsB bs) (hcap : bs.length ≤ cap) (hlen : bs.length ≤ 140737488355328) {t : Int} {rn : Nat} {ds : List Int} {nt nr : Int} {p : Int} {v : Int} {k0 m1 k1 m2 k2 m3 k3 m4 k4 m5 k5 m6 : Nat} (h0 : St.tkSt bs = (t, (rn : Int), k0, 0)) (e1 : k0 = m1) (b1 : m1 ≤ bs.length) (h1 : Hv.tkV (bs.drop m1) = (ds, k1, 0)) (e2 : m1 + k1 = m2) (b2 : m2 ≤ bs.length) (h2 : tkN (bs.drop m2) = (2, k2, 0)) (e3 : m2 + k2 = m3) (b3 : m3 ≤ bs.length) (h3 : St.tkSt (bs.drop m3) = (nt, nr, k3, 0)) (e4 : m3 + k3 = m4) (b4 : m4 ≤ bs.length) (h4 : tkN (bs.drop m4) = (p, k4, 0)) (e5 : m4 + k4 = m5) (b5 : m5 ≤ bs.length) (h5 : tkN (bs.drop m5) = (v, k5, 0)) (e6 : m5 + k5 = m6) (b6 : m6 ≤ bs.length) (hve : Hv.vecB ds = true) (hrl : (rn : Int) < ds.length) (hok : opB t rn (ds.getD rn 0 + 1) ds 2 nt nr 0 0 ⟨#[]⟩ p (v - 1) = true) : Calls Tryd.prog 54 #[.slice a n cap] w (TakeO (⟨t, rn, ds, 2, nt, nr, 0, 0, ⟨#[]⟩, p, v - 1⟩, ds.getD rn 0 + 1, m6, 0) w) := by
  obtain ⟨g0, hg0⟩ : ∃ g, w.heap.size = g := ⟨_, rfl⟩
  obtain ⟨h, hh⟩ : ∃ h, g0 + 1 = h := ⟨_, rfl⟩
  have HH : Hid (w.heap.size + 1 = h) := (by rw [hg0, hh] : w.heap.size + 1 = h)
  have HG : Hid (w.heap.size = g0) := hg0
  have HROW := Lib.hid (fun (W : World) (hb : Below w.heap.size w W) => hr.below hb (Nat.le_refl _))
  have htb := tk_build
  have hb1 := op_build1
  have hb0 := op_build0
  have C0 := Lib.hid (tstamp_zero h a bs n cap ((w.alloc (.cells #[.int .i64 0, .int .i64 0, .int .i64 0, .slice none 0 0, .int .i64 0, .int .i64 0, .int .i64 0, .int .i64 0, .int .i64 0, .string ⟨#[]⟩, .int .i64 0, .int .i64 0] 27)).alloc (.cells #[.slice a n cap, .int .i64 0, .int .i64 0] 85)) (tkr_new w a n cap _ HH.out) hn (HROW.out _ (St.below2 w _ _)) hb hcap hlen h0)
  rw [e1] at C0
  have hsl1 := fun W => slice_l W a n cap m1 (m1 : Int) rfl (by rw [hn]; exact b1)
  have C1 := Lib.hid (fun (W : World) (hB : Below w.heap.size w W) => Hv.refTake_is (partA a m1 cap) (bs.drop m1) (n - m1) (cap - m1) W (by rw [List.length_drop, hn]) ((HROW.out W hB).rest m1 cap hcap) (hb.drop m1) (by rw [List.length_drop]; omega) (by rw [List.length_drop]; omega) h1)
  have hz2 : (m1 : Int) + (k1 : Int) = (m2 : Int) := by omega
  have hy2 : (m2 : Int) ≤ 140737488355328 := by have := tkV_k (bs.drop m1) (hb.drop m1); rw [h1, List.length_drop] at this; simp only at this; omega
  have C2 := Lib.hid (fun (W : World) (hB : Below w.heap.size w W) (hT : Blk W h (tkrV a n cap (m2 : Int) 0)) => tnum_is h a bs n cap m2 W hT hn (HROW.out W hB) hb hcap hlen b2 h2 e3)
  have C3 := Lib.hid (fun (W : World) (hB : Below w.heap.size w W) (hT : Blk W h (tkrV a n cap (m3 : Int) 0)) => tstamp_is h a bs n cap m3 W hT hn (HROW.out W hB) hb hcap hlen b3 h3 e4)
  have C4 := Lib.hid (fun (W : World) (hB : Below w.heap.size w W) (hT : Blk W h (tkrV a n cap (m4 : Int) 0)) => tnum_is h a bs n cap m4 W hT hn (HROW.out W hB) hb hcap hlen b4 h4 e5)
  have C5 := Lib.hid (fun (W : World) (hB : Below w.heap.size w W) (hT : Blk W h (tkrV a n cap (m5 : Int) 0)) => tnum_is h a bs n cap m5 W hT hn (HROW.out W hB) hb hcap hlen b5 h5 e6)
  have hvb : 0 ≤ v ∧ v ≤ 4611686018427387904 := by have := tkN_k (bs.drop m5) (hb.drop m5); rw [h5] at this; exact this.2
  have hvw : IntKind.i64.wrap (v - 1) = v - 1 := IntWalk.i64_in _ (by omega)
  clear hn hr hb hcap hlen h0 e1 h1 e2 h2 e3 h3 e4 h4 e5 h5 e6 b1 b2 b3 b4 b5 b6
  go_enter Tryd.func54, Tryd.ntmps54
  go_wp2_with fail
  refine (C0.out).mono ?_
  rintro e w1 ⟨rfl, hT, hg⟩
  obtain ⟨b, hbb⟩ : ∃ b, w1.heap.size = b := ⟨_, rfl⟩
  have HP1 := Lib.hid (PI.first (t := t) (r := (rn : Int)) HH.out hbb hT hg)
  have ne1 : h ≠ b := by have := HP1.out.hb; omega
  have ne2 : g0 ≠ h := by omega
  have ne3 : g0 ≠ b := by have := HP1.out.hb; omega
  have ne1' := Ne.symm ne1
  have ne2' := Ne.symm ne2
  have ne3' := Ne.symm ne3
  have tc2 := HP1.out.t.cell 2 _ rfl
  have tc1 := HP1.out.t.cell 1 _ rfl
  have hlt := hT.lt
  clear hT hg
  go_wp2_with fail
  generalize w1.alloc (.cells #[.int .i64 t, .int .i64 (rn : Int), .int .i64 0, .slice none 0 0, .int .i64 0, .int .i64 0, .int .i64 0, .int .i64 0, .int .i64 0, .string ⟨#[]⟩, .int .i64 0, .int .i64 0] 27) = W1 at *
  clear hlt hbb hg0 hh
  refine (C1.out _ HP1.out.bel).mono ?_
  rintro e w2 ⟨v2, rfl, ho, hbl⟩
  obtain ⟨a2, n2, c2, rfl, hn2, hr2, hc2⟩ := ho.form'
  have HN2 := Lib.hid hn2
  have HO2 := Lib.hid (ho.mono (show b + 1 ≤ _ from HP1.out.size))
  have HP3 := Lib.hid (HP1.out.next hbl)
  clear ho hbl hn2 hr2 hc2
  clear tc1 tc2
  have tc1 := HP3.out.t.cell 1 _ rfl
  have tf1 := HP3.out.t.free 1 _ rfl
  have tc2 := HP3.out.t.cell 2 _ rfl
  have tf2 := HP3.out.t.free 2 _ rfl
  have oc3 := HP3.out.o.cell 3 _ rfl
  have of3 := HP3.out.o.free 3 _ rfl
  have HP4 := Lib.hid (((HP3.out.putD HO2.out).setT (m2 : Int) 0))
  go_wp2_with fail
  refine (C2.out _ HP4.out.bel HP4.out.t).mono ?_
  rintro e w5 ⟨rfl, hT, hg⟩
  have HP5 := Lib.hid (HP4.out.grown hg hT)
  clear hT hg
  clear tc1 tf1 tc2 tf2 oc3 of3
  have tc1 := HP5.out.t.cell 1 _ rfl
  have tf1 := HP5.out.t.free 1 _ rfl
  have tc2 := HP5.out.t.cell 2 _ rfl
  have tf2 := HP5.out.t.free 2 _ rfl
  have oc4 := HP5.out.o.cell 4 _ rfl
  have of4 := HP5.out.o.free 4 _ rfl
  have HP6 := Lib.hid (HP5.out.put 4 (.int .i64 2) (R' := (⟨t, (rn : Int), ds, 2, 0, 0, 0, 0, ⟨#[]⟩, 0, 0⟩ : OpR)) rfl rfl)
  go_wp2_with fail
  refine (C3.out _ HP6.out.bel HP6.out.t).mono ?_
  rintro e w7 ⟨rfl, hT, hg⟩
  have HP7 := Lib.hid (HP6.out.grown hg hT)
  clear hT hg
  clear tc1 tf1 tc2 tf2 oc4 of4
  have tc2 := HP7.out.t.cell 2 _ rfl
  have tf2 := HP7.out.t.free 2 _ rfl
  have oc4 := HP7.out.o.cell 4 _ rfl
  have of4 := HP7.out.o.free 4 _ rfl
  have oc5 := HP7.out.o.cell 5 _ rfl
  have of5 := HP7.out.o.free 5 _ rfl
  have oc6 := HP7.out.o.cell 6 _ rfl
  have of6 := HP7.out.o.free 6 _ rfl
  have HP8 := Lib.hid (HP7.out.put2 5 6 (.int .i64 nt) (.int .i64 nr) (R' := (⟨t, (rn : Int), ds, 2, nt, nr, 0, 0, ⟨#[]⟩, 0, 0⟩ : OpR)) rfl rfl)
  go_wp2_with fail
  refine (C4.out _ HP8.out.bel HP8.out.t).mono ?_
  rintro e w9 ⟨rfl, hT, hg⟩
  have HP9 := Lib.hid (HP8.out.grown hg hT)
  clear hT hg
  clear tc2 tf2 oc4 of4 oc5 of5 oc6 of6
  have tc2 := HP9.out.t.cell 2 _ rfl
  have tf2 := HP9.out.t.free 2 _ rfl
  have oc10 := HP9.out.o.cell 10 _ rfl
  have of10 := HP9.out.o.free 10 _ rfl
  have HP10 := Lib.hid (HP9.out.put 10 (.int .i64 p) (R' := (⟨t, (rn : Int), ds, 2, nt, nr, 0, 0, ⟨#[]⟩, p, 0⟩ : OpR)) rfl rfl)
  go_wp2_with fail
  refine (C5.out _ HP10.out.bel HP10.out.t).mono ?_
  rintro e w11 ⟨rfl, hT, hg⟩
  have HP11 := Lib.hid (HP10.out.grown hg hT)
  clear hT hg
  clear tc2 tf2 oc10 of10
  have tc1 := HP11.out.t.cell 1 _ rfl
  have tf1 := HP11.out.t.free 1 _ rfl
  have tc2 := HP11.out.t.cell 2 _ rfl
  have tf2 := HP11.out.t.free 2 _ rfl
  have oc0 := HP11.out.o.cell 0 _ rfl
  have of0 := HP11.out.o.free 0 _ rfl
  have oc1 := HP11.out.o.cell 1 _ rfl
  have of1 := HP11.out.o.free 1 _ rfl
  have oc2 := HP11.out.o.cell 2 _ rfl
  have of2 := HP11.out.o.free 2 _ rfl
  have oc3 := HP11.out.o.cell 3 _ rfl
  have of3 := HP11.out.o.free 3 _ rfl
  have oc4 := HP11.out.o.cell 4 _ rfl
  have of4 := HP11.out.o.free 4 _ rfl
  have oc5 := HP11.out.o.cell 5 _ rfl
  have of5 := HP11.out.o.free 5 _ rfl
  have oc6 := HP11.out.o.cell 6 _ rfl
  have of6 := HP11.out.o.free 6 _ rfl
  have oc7 := HP11.out.o.cell 7 _ rfl
  have of7 := HP11.out.o.free 7 _ rfl
  have oc8 := HP11.out.o.cell 8 _ rfl
  have of8 := HP11.out.o.free 8 _ rfl
  have oc9 := HP11.out.o.cell 9 _ rfl
  have of9 := HP11.out.o.free 9 _ rfl
  have oc10 := HP11.out.o.cell 10 _ rfl
  have of10 := HP11.out.o.free 10 _ rfl
  have oc11 := HP11.out.o.cell 11 _ rfl
  have of11 := HP11.out.o.free 11 _ rfl
  have HRD := Lib.hid (RowK.ofOwn HP11.out.d).1
  have hn2 : n2 = ds.length := HN2.out
  have hdl := Hv.vecB_len hve
  have hdr : decide ((rn : Int) < (n2 : Int)) = true := decide_eq_true (by rw [hn2]; exact hrl)
  have hdr' : (rn : Int) < (n2 : Int) := by rw [hn2]; exact hrl
  have hrn2 : rn < n2 := by omega
  obtain ⟨bb, off, ha2, hc⟩ := HRD.out rn (show rn < ds.length by omega)
  have hge : b + 1 ≤ bb := by
    obtain ⟨b', off', hb', hge⟩ := HP11.out.d.rowGe (show 0 < ds.length by omega)
    rw [ha2] at hb'
    simp only [Option.some.injEq, Addr.mk.injEq] at hb'
    omega
  subst ha2
  have nb1 : b ≠ bb := by omega
  have nb1' := Ne.symm nb1
  have nb2 : h ≠ bb := by have := HP11.out.hb; omega
  have nb2' := Ne.symm nb2
  have hxx := Hv.vecB_at hve (k := rn) (by omega)
  have hw2 : IntKind.i64.wrap (ds.getD rn 0 + 1) = ds.getD rn 0 + 1 := IntWalk.i64_in _ (by omega)
  have hw1 : wrap64 (ds.getD rn 0 + 1) = ds.getD rn 0 + 1 := IntWalk.wrap64_in _ (by omega)
  generalize hxq : ds.getD rn 0 = xq at *
  have HLE : Hid (ds.length ≤ 140737488355328) := (by omega : ds.length ≤ 140737488355328)
  have HNN := Lib.hid hn2
  clear hn2 hrl hdl
  have HP12 := Lib.hid (HP11.out.put 11 (.int .i64 (v - 1)) (R' := (⟨t, (rn : Int), ds, 2, nt, nr, 0, 0, ⟨#[]⟩, p, (v - 1)⟩ : OpR)) rfl rfl)
  have HP13 := Lib.hid (HP12.out.put 2 (.int .i64 (xq + 1)) (R' := (⟨t, (rn : Int), ds, 2, nt, nr, 0, 0, ⟨#[]⟩, p, (v - 1)⟩ : OpR)) (q' := xq + 1) rfl rfl)
  go_wp2_with fail
  refine (refOp_any t rn (xq + 1) (some ⟨bb, off, none⟩) ds n2 c2 2 nt nr 0 0 ⟨#[]⟩ p (v - 1) _ (RowK.ofOwn HP13.out.d).1 HNN.out HLE.out).mono ?_
  rw [hok]
  rintro e wz ⟨rfl, hbl⟩
  have HP14 := Lib.hid (HP13.out.next hbl)
  clear hbl hc hdr hdr' hrn2
  clear tc1 tf1 tc2 tf2 oc0 of0 oc1 of1 oc2 of2 oc3 of3 oc4 of4 oc5 of5 oc6 of6 oc7 of7 oc8 of8 oc9 of9 oc10 of10 oc11 of11
  have tc1 := HP14.out.t.cell 1 _ rfl
  have tf1 := HP14.out.t.free 1 _ rfl
  have tc2 := HP14.out.t.cell 2 _ rfl
  have tf2 := HP14.out.t.free 2 _ rfl
  have oc0 := HP14.out.o.cell 0 _ rfl
  have of0 := HP14.out.o.free 0 _ rfl
  have oc1 := HP14.out.o.cell 1 _ rfl
  have of1 := HP14.out.o.free 1 _ rfl
  have oc2 := HP14.out.o.cell 2 _ rfl
  have of2 := HP14.out.o.free 2 _ rfl
  have oc3 := HP14.out.o.cell 3 _ rfl
  have of3 := HP14.out.o.free 3 _ rfl
  have oc4 := HP14.out.o.cell 4 _ rfl
  have of4 := HP14.out.o.free 4 _ rfl
  have oc5 := HP14.out.o.cell 5 _ rfl
  have of5 := HP14.out.o.free 5 _ rfl
  have oc6 := HP14.out.o.cell 6 _ rfl
  have of6 := HP14.out.o.free 6 _ rfl
  have oc7 := HP14.out.o.cell 7 _ rfl
  have of7 := HP14.out.o.free 7 _ rfl
  have oc8 := HP14.out.o.cell 8 _ rfl
  have of8 := HP14.out.o.free 8 _ rfl
  have oc9 := HP14.out.o.cell 9 _ rfl
  have of9 := HP14.out.o.free 9 _ rfl
  have oc10 := HP14.out.o.cell 10 _ rfl
  have of10 := HP14.out.o.free 10 _ rfl
  have oc11 := HP14.out.o.cell 11 _ rfl
  have of11 := HP14.out.o.free 11 _ rfl
  have HZ0 : Hid (Blk wz g0 (zR.cells 0 (.slice none 0 0))) := HG.out ▸ HP14.out.rz
  have zc0 := HZ0.out.cell 0 _ rfl
  have zf0 := HZ0.out.free 0 _ rfl
  have zc1 := HZ0.out.cell 1 _ rfl
  have zf1 := HZ0.out.free 1 _ rfl
  have zc2 := HZ0.out.cell 2 _ rfl
  have zf2 := HZ0.out.free 2 _ rfl
  have zc3 := HZ0.out.cell 3 _ rfl
  have zf3 := HZ0.out.free 3 _ rfl
  have zc4 := HZ0.out.cell 4 _ rfl
  have zf4 := HZ0.out.free 4 _ rfl
  have zc5 := HZ0.out.cell 5 _ rfl
  have zf5 := HZ0.out.free 5 _ rfl
  have zc6 := HZ0.out.cell 6 _ rfl
  have zf6 := HZ0.out.free 6 _ rfl
  have zc7 := HZ0.out.cell 7 _ rfl
  have zf7 := HZ0.out.free 7 _ rfl
  have zc8 := HZ0.out.cell 8 _ rfl
  have zf8 := HZ0.out.free 8 _ rfl
  have zc9 := HZ0.out.cell 9 _ rfl
  have zf9 := HZ0.out.free 9 _ rfl
  have zc10 := HZ0.out.cell 10 _ rfl
  have zf10 := HZ0.out.free 10 _ rfl
  have zc11 := HZ0.out.cell 11 _ rfl
  have zf11 := HZ0.out.free 11 _ rfl
  have hSx : wz.drew.cell? ⟨b, 0, none⟩ = some (.int .i64 t) ∧ wz.drew.cell? ⟨b, 1, none⟩ = some (.int .i64 (rn : Int)) ∧ wz.drew.cell? ⟨b, 2, none⟩ = some (.int .i64 (xq + 1)) ∧ wz.drew.cell? ⟨b, 3, none⟩ = some (.slice (some ⟨bb, off, none⟩) n2 c2) ∧ wz.drew.cell? ⟨b, 4, none⟩ = some (.int .i64 2) ∧ wz.drew.cell? ⟨b, 5, none⟩ = some (.int .i64 nt) ∧ wz.drew.cell? ⟨b, 6, none⟩ = some (.int .i64 nr) ∧ wz.drew.cell? ⟨b, 7, none⟩ = some (.int .i64 0) ∧ wz.drew.cell? ⟨b, 8, none⟩ = some (.int .i64 0) ∧ wz.drew.cell? ⟨b, 9, none⟩ = some (.string ⟨#[]⟩) ∧ wz.drew.cell? ⟨b, 10, none⟩ = some (.int .i64 p) ∧ wz.drew.cell? ⟨b, 11, none⟩ = some (.int .i64 (v - 1)) ∧ wz.drew.cell? ⟨h, 1, none⟩ = some (.int .i64 (m6 : Int)) := ⟨oc0, oc1, oc2, oc3, oc4, oc5, oc6, oc7, oc8, oc9, oc10, oc11, tc1⟩
  go_wp2_with fail
  go_region_held3 (fun w' => w'.cell? ⟨b, 0, none⟩ = some (.int .i64 t) ∧ w'.cell? ⟨b, 1, none⟩ = some (.int .i64 (rn : Int)) ∧ w'.cell? ⟨b, 2, none⟩ = some (.int .i64 (xq + 1)) ∧ w'.cell? ⟨b, 3, none⟩ = some (.slice (some ⟨bb, off, none⟩) n2 c2) ∧ w'.cell? ⟨b, 4, none⟩ = some (.int .i64 2) ∧ w'.cell? ⟨b, 5, none⟩ = some (.int .i64 nt) ∧ w'.cell? ⟨b, 6, none⟩ = some (.int .i64 nr) ∧ w'.cell? ⟨b, 7, none⟩ = some (.int .i64 0) ∧ w'.cell? ⟨b, 8, none⟩ = some (.int .i64 0) ∧ w'.cell? ⟨b, 9, none⟩ = some (.string ⟨#[]⟩) ∧ w'.cell? ⟨b, 10, none⟩ = some (.int .i64 p) ∧ w'.cell? ⟨b, 11, none⟩ = some (.int .i64 (v - 1)) ∧ w'.cell? ⟨h, 1, none⟩ = some (.int .i64 (m6 : Int))) (first | with_reducible assumption | with_reducible exact held13 ne3 ne2 (by with_reducible assumption) _ _ _ _ _ _ _ _ _ _ _ _) (fail)
  go_wp2
  have HZ := ((((((((((((HZ0.out.set 0 (.int .i64 t)).set 1 (.int .i64 (rn : Int))).set 2 (.int .i64 (xq + 1))).set 3 (.slice (some ⟨bb, off, none⟩) n2 c2)).set 4 (.int .i64 2)).set 5 (.int .i64 nt)).set 6 (.int .i64 nr)).set 7 (.int .i64 0)).set 8 (.int .i64 0)).set 9 (.string ⟨#[]⟩)).set 10 (.int .i64 p)).set 11 (.int .i64 (v - 1)))
  have z0 := HZ.cell 0 _ rfl
  have z1 := HZ.cell 1 _ rfl
  have z2 := HZ.cell 2 _ rfl
  have z3 := HZ.cell 3 _ rfl
  have z4 := HZ.cell 4 _ rfl
  have z5 := HZ.cell 5 _ rfl
  have z6 := HZ.cell 6 _ rfl
  have z7 := HZ.cell 7 _ rfl
  have z8 := HZ.cell 8 _ rfl
  have z9 := HZ.cell 9 _ rfl
  have z10 := HZ.cell 10 _ rfl
  have z11 := HZ.cell 11 _ rfl
  refine bodyPost_ret (v := .tuple #[.agg #[.int .i64 t, .int .i64 (rn : Int), .int .i64 (xq + 1), .slice (some ⟨bb, off, none⟩) n2 c2, .int .i64 2, .int .i64 nt, .int .i64 nr, .int .i64 0, .int .i64 0, .string ⟨#[]⟩, .int .i64 p, .int .i64 (v - 1)], .int .i64 (m6 : Int), .int .i64 0]) (by simp [results, Tryd.results54, go_sem, z0, z1, z2, z3, z4, z5, z6, z7, z8, z9, z10, z11]) rfl ?_
  exact ⟨_, _, _, rfl, (OwnK.drewN (((((((((((((HP14.out.d.far (show g0 < b + 1 by have h1 := HP14.out.hb; have h2 := HH.out; have h3 := HG.out; omega) 0 (.int .i64 t)).far (show g0 < b + 1 by have h1 := HP14.out.hb; have h2 := HH.out; have h3 := HG.out; omega) 1 (.int .i64 (rn : Int))).far (show g0 < b + 1 by have h1 := HP14.out.hb; have h2 := HH.out; have h3 := HG.out; omega) 2 (.int .i64 (xq + 1))).far (show g0 < b + 1 by have h1 := HP14.out.hb; have h2 := HH.out; have h3 := HG.out; omega) 3 (.slice (some ⟨bb, off, none⟩) n2 c2)).far (show g0 < b + 1 by have h1 := HP14.out.hb; have h2 := HH.out; have h3 := HG.out; omega) 4 (.int .i64 2)).far (show g0 < b + 1 by have h1 := HP14.out.hb; have h2 := HH.out; have h3 := HG.out; omega) 5 (.int .i64 nt)).far (show g0 < b + 1 by have h1 := HP14.out.hb; have h2 := HH.out; have h3 := HG.out; omega) 6 (.int .i64 nr)).far (show g0 < b + 1 by have h1 := HP14.out.hb; have h2 := HH.out; have h3 := HG.out; omega) 7 (.int .i64 0)).far (show g0 < b + 1 by have h1 := HP14.out.hb; have h2 := HH.out; have h3 := HG.out; omega) 8 (.int .i64 0)).far (show g0 < b + 1 by have h1 := HP14.out.hb; have h2 := HH.out; have h3 := HG.out; omega) 9 (.string ⟨#[]⟩)).far (show g0 < b + 1 by have h1 := HP14.out.hb; have h2 := HH.out; have h3 := HG.out; omega) 10 (.int .i64 p)).far (show g0 < b + 1 by have h1 := HP14.out.hb; have h2 := HH.out; have h3 := HG.out; omega) 11 (.int .i64 (v - 1)))) 1).mono (by have h1 := HP14.out.hb; have h2 := HH.out; omega), ((((((((((((HP14.out.bel.setCell (p := ⟨g0, 0, none⟩) (Nat.le_of_eq HG.out) _).setCell (p := ⟨g0, 1, none⟩) (Nat.le_of_eq HG.out) _).setCell (p := ⟨g0, 2, none⟩) (Nat.le_of_eq HG.out) _).setCell (p := ⟨g0, 3, none⟩) (Nat.le_of_eq HG.out) _).setCell (p := ⟨g0, 4, none⟩) (Nat.le_of_eq HG.out) _).setCell (p := ⟨g0, 5, none⟩) (Nat.le_of_eq HG.out) _).setCell (p := ⟨g0, 6, none⟩) (Nat.le_of_eq HG.out) _).setCell (p := ⟨g0, 7, none⟩) (Nat.le_of_eq HG.out) _).setCell (p := ⟨g0, 8, none⟩) (Nat.le_of_eq HG.out) _).setCell (p := ⟨g0, 9, none⟩) (Nat.le_of_eq HG.out) _).setCell (p := ⟨g0, 10, none⟩) (Nat.le_of_eq HG.out) _).setCell (p := ⟨g0, 11, none⟩) (Nat.le_of_eq HG.out) _).drew⟩

set_option maxHeartbeats 4000000 in
set_option maxRecDepth 100000 in
theorem refTake_B2 (a : Option Addr) (bs : List Int) (n cap : Nat) (w : World) (hn : n = bs.length) (hr : RowK .u8 w a bs) (hb : IsB bs) (hcap : bs.length ≤ cap) (hlen : bs.length ≤ 140737488355328) {t : Int} {rn : Nat} {ds : List Int} {nt nr : Int} {p : Int} {v : Int} {k0 m1 k1 m2 k2 m3 k3 m4 k4 m5 k5 m6 : Nat} (h0 : St.tkSt bs = (t, (rn : Int), k0, 0)) (e1 : k0 = m1) (b1 : m1 ≤ bs.length) (h1 : Hv.tkV (bs.drop m1) = (ds, k1, 0)) (e2 : m1 + k1 = m2) (b2 : m2 ≤ bs.length) (h2 : tkN (bs.drop m2) = (2, k2, 0)) (e3 : m2 + k2 = m3) (b3 : m3 ≤ bs.length) (h3 : St.tkSt (bs.drop m3) = (nt, nr, k3, 0)) (e4 : m3 + k3 = m4) (b4 : m4 ≤ bs.length) (h4 : tkN (bs.drop m4) = (p, k4, 0)) (e5 : m4 + k4 = m5) (b5 : m5 ≤ bs.length) (h5 : tkN (bs.drop m5) = (v, k5, 0)) (e6 : m5 + k5 = m6) (b6 : m6 ≤ bs.length) (hve : Hv.vecB ds = true) (hrl : (rn : Int) < ds.length) (hok : opB t rn (ds.getD rn 0 + 1) ds 2 nt nr 0 0 ⟨#[]⟩ p (v - 1) = false) : Calls Tryd.prog 54 #[.slice a n cap] w (TakeO (zR, 0, 0, 1) w) := by
  obtain ⟨g0, hg0⟩ : ∃ g, w.heap.size = g := ⟨_, rfl⟩
  obtain ⟨h, hh⟩ : ∃ h, g0 + 1 = h := ⟨_, rfl⟩
  have HH : Hid (w.heap.size + 1 = h) := (by rw [hg0, hh] : w.heap.size + 1 = h)
  have HG : Hid (w.heap.size = g0) := hg0
  have HROW := Lib.hid (fun (W : World) (hb : Below w.heap.size w W) => hr.below hb (Nat.le_refl _))
  have htb := tk_build
  have hb1 := op_build1
  have hb0 := op_build0
  have C0 := Lib.hid (tstamp_zero h a bs n cap ((w.alloc (.cells #[.int .i64 0, .int .i64 0, .int .i64 0, .slice none 0 0, .int .i64 0, .int .i64 0, .int .i64 0, .int .i64 0, .int .i64 0, .string ⟨#[]⟩, .int .i64 0, .int .i64 0] 27)).alloc (.cells #[.slice a n cap, .int .i64 0, .int .i64 0] 85)) (tkr_new w a n cap _ HH.out) hn (HROW.out _ (St.below2 w _ _)) hb hcap hlen h0)
  rw [e1] at C0
  have hsl1 := fun W => slice_l W a n cap m1 (m1 : Int) rfl (by rw [hn]; exact b1)
  have C1 := Lib.hid (fun (W : World) (hB : Below w.heap.size w W) => Hv.refTake_is (partA a m1 cap) (bs.drop m1) (n - m1) (cap - m1) W (by rw [List.length_drop, hn]) ((HROW.out W hB).rest m1 cap hcap) (hb.drop m1) (by rw [List.length_drop]; omega) (by rw [List.length_drop]; omega) h1)
  have hz2 : (m1 : Int) + (k1 : Int) = (m2 : Int) := by omega
  have hy2 : (m2 : Int) ≤ 140737488355328 := by have := tkV_k (bs.drop m1) (hb.drop m1); rw [h1, List.length_drop] at this; simp only at this; omega
  have C2 := Lib.hid (fun (W : World) (hB : Below w.heap.size w W) (hT : Blk W h (tkrV a n cap (m2 : Int) 0)) => tnum_is h a bs n cap m2 W hT hn (HROW.out W hB) hb hcap hlen b2 h2 e3)
  have C3 := Lib.hid (fun (W : World) (hB : Below w.heap.size w W) (hT : Blk W h (tkrV a n cap (m3 : Int) 0)) => tstamp_is h a bs n cap m3 W hT hn (HROW.out W hB) hb hcap hlen b3 h3 e4)
  have C4 := Lib.hid (fun (W : World) (hB : Below w.heap.size w W) (hT : Blk W h (tkrV a n cap (m4 : Int) 0)) => tnum_is h a bs n cap m4 W hT hn (HROW.out W hB) hb hcap hlen b4 h4 e5)
  have C5 := Lib.hid (fun (W : World) (hB : Below w.heap.size w W) (hT : Blk W h (tkrV a n cap (m5 : Int) 0)) => tnum_is h a bs n cap m5 W hT hn (HROW.out W hB) hb hcap hlen b5 h5 e6)
  have hvb : 0 ≤ v ∧ v ≤ 4611686018427387904 := by have := tkN_k (bs.drop m5) (hb.drop m5); rw [h5] at this; exact this.2
  have hvw : IntKind.i64.wrap (v - 1) = v - 1 := IntWalk.i64_in _ (by omega)
  clear hn hr hb hcap hlen h0 e1 h1 e2 h2 e3 h3 e4 h4 e5 h5 e6 b1 b2 b3 b4 b5 b6
  go_enter Tryd.func54, Tryd.ntmps54
  go_wp2_with fail
  refine (C0.out).mono ?_
  rintro e w1 ⟨rfl, hT, hg⟩
  obtain ⟨b, hbb⟩ : ∃ b, w1.heap.size = b := ⟨_, rfl⟩
  have HP1 := Lib.hid (PI.first (t := t) (r := (rn : Int)) HH.out hbb hT hg)
  have ne1 : h ≠ b := by have := HP1.out.hb; omega
  have ne2 : g0 ≠ h := by omega
  have ne3 : g0 ≠ b := by have := HP1.out.hb; omega
  have ne1' := Ne.symm ne1
  have ne2' := Ne.symm ne2
  have ne3' := Ne.symm ne3
  have tc2 := HP1.out.t.cell 2 _ rfl
  have tc1 := HP1.out.t.cell 1 _ rfl
  have hlt := hT.lt
  clear hT hg
  go_wp2_with fail
  generalize w1.alloc (.cells #[.int .i64 t, .int .i64 (rn : Int), .int .i64 0, .slice none 0 0, .int .i64 0, .int .i64 0, .int .i64 0, .int .i64 0, .int .i64 0, .string ⟨#[]⟩, .int .i64 0, .int .i64 0] 27) = W1 at *
  clear hlt hbb hg0 hh
  refine (C1.out _ HP1.out.bel).mono ?_
  rintro e w2 ⟨v2, rfl, ho, hbl⟩
  obtain ⟨a2, n2, c2, rfl, hn2, hr2, hc2⟩ := ho.form'
  have HN2 := Lib.hid hn2
  have HO2 := Lib.hid (ho.mono (show b + 1 ≤ _ from HP1.out.size))
  have HP3 := Lib.hid (HP1.out.next hbl)
  clear ho hbl hn2 hr2 hc2
  clear tc1 tc2
  have tc1 := HP3.out.t.cell 1 _ rfl
  have tf1 := HP3.out.t.free 1 _ rfl
  have tc2 := HP3.out.t.cell 2 _ rfl
  have tf2 := HP3.out.t.free 2 _ rfl
  have oc3 := HP3.out.o.cell 3 _ rfl
  have of3 := HP3.out.o.free 3 _ rfl
  have HP4 := Lib.hid (((HP3.out.putD HO2.out).setT (m2 : Int) 0))
  go_wp2_with fail
  refine (C2.out _ HP4.out.bel HP4.out.t).mono ?_
  rintro e w5 ⟨rfl, hT, hg⟩
  have HP5 := Lib.hid (HP4.out.grown hg hT)
  clear hT hg
  clear tc1 tf1 tc2 tf2 oc3 of3
  have tc1 := HP5.out.t.cell 1 _ rfl
  have tf1 := HP5.out.t.free 1 _ rfl
  have tc2 := HP5.out.t.cell 2 _ rfl
  have tf2 := HP5.out.t.free 2 _ rfl
  have oc4 := HP5.out.o.cell 4 _ rfl
  have of4 := HP5.out.o.free 4 _ rfl
  have HP6 := Lib.hid (HP5.out.put 4 (.int .i64 2) (R' := (⟨t, (rn : Int), ds, 2, 0, 0, 0, 0, ⟨#[]⟩, 0, 0⟩ : OpR)) rfl rfl)
  go_wp2_with fail
  refine (C3.out _ HP6.out.bel HP6.out.t).mono ?_
  rintro e w7 ⟨rfl, hT, hg⟩
  have HP7 := Lib.hid (HP6.out.grown hg hT)
  clear hT hg
  clear tc1 tf1 tc2 tf2 oc4 of4
  have tc2 := HP7.out.t.cell 2 _ rfl
  have tf2 := HP7.out.t.free 2 _ rfl
  have oc4 := HP7.out.o.cell 4 _ rfl
  have of4 := HP7.out.o.free 4 _ rfl
  have oc5 := HP7.out.o.cell 5 _ rfl
  have of5 := HP7.out.o.free 5 _ rfl
  have oc6 := HP7.out.o.cell 6 _ rfl
  have of6 := HP7.out.o.free 6 _ rfl
  have HP8 := Lib.hid (HP7.out.put2 5 6 (.int .i64 nt) (.int .i64 nr) (R' := (⟨t, (rn : Int), ds, 2, nt, nr, 0, 0, ⟨#[]⟩, 0, 0⟩ : OpR)) rfl rfl)
  go_wp2_with fail
  refine (C4.out _ HP8.out.bel HP8.out.t).mono ?_
  rintro e w9 ⟨rfl, hT, hg⟩
  have HP9 := Lib.hid (HP8.out.grown hg hT)
  clear hT hg
  clear tc2 tf2 oc4 of4 oc5 of5 oc6 of6
  have tc2 := HP9.out.t.cell 2 _ rfl
  have tf2 := HP9.out.t.free 2 _ rfl
  have oc10 := HP9.out.o.cell 10 _ rfl
  have of10 := HP9.out.o.free 10 _ rfl
  have HP10 := Lib.hid (HP9.out.put 10 (.int .i64 p) (R' := (⟨t, (rn : Int), ds, 2, nt, nr, 0, 0, ⟨#[]⟩, p, 0⟩ : OpR)) rfl rfl)
  go_wp2_with fail
  refine (C5.out _ HP10.out.bel HP10.out.t).mono ?_
  rintro e w11 ⟨rfl, hT, hg⟩
  have HP11 := Lib.hid (HP10.out.grown hg hT)
  clear hT hg
  clear tc2 tf2 oc10 of10
  have tc1 := HP11.out.t.cell 1 _ rfl
  have tf1 := HP11.out.t.free 1 _ rfl
  have tc2 := HP11.out.t.cell 2 _ rfl
  have tf2 := HP11.out.t.free 2 _ rfl
  have oc0 := HP11.out.o.cell 0 _ rfl
  have of0 := HP11.out.o.free 0 _ rfl
  have oc1 := HP11.out.o.cell 1 _ rfl
  have of1 := HP11.out.o.free 1 _ rfl
  have oc2 := HP11.out.o.cell 2 _ rfl
  have of2 := HP11.out.o.free 2 _ rfl
  have oc3 := HP11.out.o.cell 3 _ rfl
  have of3 := HP11.out.o.free 3 _ rfl
  have oc4 := HP11.out.o.cell 4 _ rfl
  have of4 := HP11.out.o.free 4 _ rfl
  have oc5 := HP11.out.o.cell 5 _ rfl
  have of5 := HP11.out.o.free 5 _ rfl
  have oc6 := HP11.out.o.cell 6 _ rfl
  have of6 := HP11.out.o.free 6 _ rfl
  have oc7 := HP11.out.o.cell 7 _ rfl
  have of7 := HP11.out.o.free 7 _ rfl
  have oc8 := HP11.out.o.cell 8 _ rfl
  have of8 := HP11.out.o.free 8 _ rfl
  have oc9 := HP11.out.o.cell 9 _ rfl
  have of9 := HP11.out.o.free 9 _ rfl
  have oc10 := HP11.out.o.cell 10 _ rfl
  have of10 := HP11.out.o.free 10 _ rfl
  have oc11 := HP11.out.o.cell 11 _ rfl
  have of11 := HP11.out.o.free 11 _ rfl
  have HRD := Lib.hid (RowK.ofOwn HP11.out.d).1
  have hn2 : n2 = ds.length := HN2.out
  have hdl := Hv.vecB_len hve
  have hdr : decide ((rn : Int) < (n2 : Int)) = true := decide_eq_true (by rw [hn2]; exact hrl)
  have hdr' : (rn : Int) < (n2 : Int) := by rw [hn2]; exact hrl
  have hrn2 : rn < n2 := by omega
  obtain ⟨bb, off, ha2, hc⟩ := HRD.out rn (show rn < ds.length by omega)
  have hge : b + 1 ≤ bb := by
    obtain ⟨b', off', hb', hge⟩ := HP11.out.d.rowGe (show 0 < ds.length by omega)
    rw [ha2] at hb'
    simp only [Option.some.injEq, Addr.mk.injEq] at hb'
    omega
  subst ha2
  have nb1 : b ≠ bb := by omega
  have nb1' := Ne.symm nb1
  have nb2 : h ≠ bb := by have := HP11.out.hb; omega
  have nb2' := Ne.symm nb2
  have hxx := Hv.vecB_at hve (k := rn) (by omega)
  have hw2 : IntKind.i64.wrap (ds.getD rn 0 + 1) = ds.getD rn 0 + 1 := IntWalk.i64_in _ (by omega)
  have hw1 : wrap64 (ds.getD rn 0 + 1) = ds.getD rn 0 + 1 := IntWalk.wrap64_in _ (by omega)
  generalize hxq : ds.getD rn 0 = xq at *
  have HLE : Hid (ds.length ≤ 140737488355328) := (by omega : ds.length ≤ 140737488355328)
  have HNN := Lib.hid hn2
  clear hn2 hrl hdl
  have HP12 := Lib.hid (HP11.out.put 11 (.int .i64 (v - 1)) (R' := (⟨t, (rn : Int), ds, 2, nt, nr, 0, 0, ⟨#[]⟩, p, (v - 1)⟩ : OpR)) rfl rfl)
  have HP13 := Lib.hid (HP12.out.put 2 (.int .i64 (xq + 1)) (R' := (⟨t, (rn : Int), ds, 2, nt, nr, 0, 0, ⟨#[]⟩, p, (v - 1)⟩ : OpR)) (q' := xq + 1) rfl rfl)
  go_wp2_with fail
  refine (refOp_any t rn (xq + 1) (some ⟨bb, off, none⟩) ds n2 c2 2 nt nr 0 0 ⟨#[]⟩ p (v - 1) _ (RowK.ofOwn HP13.out.d).1 HNN.out HLE.out).mono ?_
  rw [hok]
  rintro e wz ⟨rfl, hbl⟩
  have HP14 := Lib.hid (HP13.out.next hbl)
  clear hbl hc hdr hdr' hrn2
  clear tc1 tf1 tc2 tf2 oc0 of0 oc1 of1 oc2 of2 oc3 of3 oc4 of4 oc5 of5 oc6 of6 oc7 of7 oc8 of8 oc9 of9 oc10 of10 oc11 of11
  have tc1 := HP14.out.t.cell 1 _ rfl
  have tf1 := HP14.out.t.free 1 _ rfl
  have tc2 := HP14.out.t.cell 2 _ rfl
  have tf2 := HP14.out.t.free 2 _ rfl
  have HZ0 : Hid (Blk wz g0 (zR.cells 0 (.slice none 0 0))) := HG.out ▸ HP14.out.rz
  have zc0 := HZ0.out.cell 0 _ rfl
  have zf0 := HZ0.out.free 0 _ rfl
  have zc1 := HZ0.out.cell 1 _ rfl
  have zf1 := HZ0.out.free 1 _ rfl
  have zc2 := HZ0.out.cell 2 _ rfl
  have zf2 := HZ0.out.free 2 _ rfl
  have zc3 := HZ0.out.cell 3 _ rfl
  have zf3 := HZ0.out.free 3 _ rfl
  have zc4 := HZ0.out.cell 4 _ rfl
  have zf4 := HZ0.out.free 4 _ rfl
  have zc5 := HZ0.out.cell 5 _ rfl
  have zf5 := HZ0.out.free 5 _ rfl
  have zc6 := HZ0.out.cell 6 _ rfl
  have zf6 := HZ0.out.free 6 _ rfl
  have zc7 := HZ0.out.cell 7 _ rfl
  have zf7 := HZ0.out.free 7 _ rfl
  have zc8 := HZ0.out.cell 8 _ rfl
  have zf8 := HZ0.out.free 8 _ rfl
  have zc9 := HZ0.out.cell 9 _ rfl
  have zf9 := HZ0.out.free 9 _ rfl
  have zc10 := HZ0.out.cell 10 _ rfl
  have zf10 := HZ0.out.free 10 _ rfl
  have zc11 := HZ0.out.cell 11 _ rfl
  have zf11 := HZ0.out.free 11 _ rfl
  go_wp2
  have HZ := ((((((((((((HZ0.out.set 0 (.int .i64 0)).set 1 (.int .i64 0)).set 2 (.int .i64 0)).set 3 (.slice none 0 0)).set 4 (.int .i64 0)).set 5 (.int .i64 0)).set 6 (.int .i64 0)).set 7 (.int .i64 0)).set 8 (.int .i64 0)).set 9 (.string ⟨#[]⟩)).set 10 (.int .i64 0)).set 11 (.int .i64 0))
  have z0 := HZ.cell 0 _ rfl
  have z1 := HZ.cell 1 _ rfl
  have z2 := HZ.cell 2 _ rfl
  have z3 := HZ.cell 3 _ rfl
  have z4 := HZ.cell 4 _ rfl
  have z5 := HZ.cell 5 _ rfl
  have z6 := HZ.cell 6 _ rfl
  have z7 := HZ.cell 7 _ rfl
  have z8 := HZ.cell 8 _ rfl
  have z9 := HZ.cell 9 _ rfl
  have z10 := HZ.cell 10 _ rfl
  have z11 := HZ.cell 11 _ rfl
  refine bodyPost_ret (v := .tuple #[.agg #[.int .i64 0, .int .i64 0, .int .i64 0, .slice none 0 0, .int .i64 0, .int .i64 0, .int .i64 0, .int .i64 0, .int .i64 0, .string ⟨#[]⟩, .int .i64 0, .int .i64 0], .int .i64 0, .int .i64 1]) (by simp [results, Tryd.results54, go_sem, z0, z1, z2, z3, z4, z5, z6, z7, z8, z9, z10, z11]) rfl ?_
  exact ⟨none, 0, 0, rfl, OwnK.nil _ _ _ _, ((((((((((((HP14.out.bel.setCell (p := ⟨g0, 0, none⟩) (Nat.le_of_eq HG.out) _).setCell (p := ⟨g0, 1, none⟩) (Nat.le_of_eq HG.out) _).setCell (p := ⟨g0, 2, none⟩) (Nat.le_of_eq HG.out) _).setCell (p := ⟨g0, 3, none⟩) (Nat.le_of_eq HG.out) _).setCell (p := ⟨g0, 4, none⟩) (Nat.le_of_eq HG.out) _).setCell (p := ⟨g0, 5, none⟩) (Nat.le_of_eq HG.out) _).setCell (p := ⟨g0, 6, none⟩) (Nat.le_of_eq HG.out) _).setCell (p := ⟨g0, 7, none⟩) (Nat.le_of_eq HG.out) _).setCell (p := ⟨g0, 8, none⟩) (Nat.le_of_eq HG.out) _).setCell (p := ⟨g0, 9, none⟩) (Nat.le_of_eq HG.out) _).setCell (p := ⟨g0, 10, none⟩) (Nat.le_of_eq HG.out) _).setCell (p := ⟨g0, 11, none⟩) (Nat.le_of_eq HG.out) _)⟩

set_option maxHeartbeats 4000000 in
set_option maxRecDepth 100000 in
theorem refTake_C2 (a : Option Addr) (bs : List Int) (n cap : Nat) (w : World) (hn : n = bs.length) (hr : RowK .u8 w a bs) (hb : IsB bs) (hcap : bs.length ≤ cap) (hlen : bs.length ≤ 140737488355328) {t : Int} {rn : Nat} {ds : List Int} {nt nr : Int} {p : Int} {v : Int} {k0 m1 k1 m2 k2 m3 k3 m4 k4 m5 k5 m6 : Nat} (h0 : St.tkSt bs = (t, (rn : Int), k0, 0)) (e1 : k0 = m1) (b1 : m1 ≤ bs.length) (h1 : Hv.tkV (bs.drop m1) = (ds, k1, 0)) (e2 : m1 + k1 = m2) (b2 : m2 ≤ bs.length) (h2 : tkN (bs.drop m2) = (2, k2, 0)) (e3 : m2 + k2 = m3) (b3 : m3 ≤ bs.length) (h3 : St.tkSt (bs.drop m3) = (nt, nr, k3, 0)) (e4 : m3 + k3 = m4) (b4 : m4 ≤ bs.length) (h4 : tkN (bs.drop m4) = (p, k4, 0)) (e5 : m4 + k4 = m5) (b5 : m5 ≤ bs.length) (h5 : tkN (bs.drop m5) = (v, k5, 0)) (e6 : m5 + k5 = m6) (b6 : m6 ≤ bs.length) (hve : Hv.vecB ds = true) (hrl : ¬ (rn : Int) < ds.length) (hok : opB t rn (0) ds 2 nt nr 0 0 ⟨#[]⟩ p (v - 1) = false) : Calls Tryd.prog 54 #[.slice a n cap] w (TakeO (zR, 0, 0, 1) w) := by
  obtain ⟨g0, hg0⟩ : ∃ g, w.heap.size = g := ⟨_, rfl⟩
  obtain ⟨h, hh⟩ : ∃ h, g0 + 1 = h := ⟨_, rfl⟩
  have HH : Hid (w.heap.size + 1 = h) := (by rw [hg0, hh] : w.heap.size + 1 = h)
  have HG : Hid (w.heap.size = g0) := hg0
  have HROW := Lib.hid (fun (W : World) (hb : Below w.heap.size w W) => hr.below hb (Nat.le_refl _))
  have htb := tk_build
  have hb1 := op_build1
  have hb0 := op_build0
  have C0 := Lib.hid (tstamp_zero h a bs n cap ((w.alloc (.cells #[.int .i64 0, .int .i64 0, .int .i64 0, .slice none 0 0, .int .i64 0, .int .i64 0, .int .i64 0, .int .i64 0, .int .i64 0, .string ⟨#[]⟩, .int .i64 0, .int .i64 0] 27)).alloc (.cells #[.slice a n cap, .int .i64 0, .int .i64 0] 85)) (tkr_new w a n cap _ HH.out) hn (HROW.out _ (St.below2 w _ _)) hb hcap hlen h0)
  rw [e1] at C0
  have hsl1 := fun W => slice_l W a n cap m1 (m1 : Int) rfl (by rw [hn]; exact b1)
  have C1 := Lib.hid (fun (W : World) (hB : Below w.heap.size w W) => Hv.refTake_is (partA a m1 cap) (bs.drop m1) (n - m1) (cap - m1) W (by rw [List.length_drop, hn]) ((HROW.out W hB).rest m1 cap hcap) (hb.drop m1) (by rw [List.length_drop]; omega) (by rw [List.length_drop]; omega) h1)
  have hz2 : (m1 : Int) + (k1 : Int) = (m2 : Int) := by omega
  have hy2 : (m2 : Int) ≤ 140737488355328 := by have := tkV_k (bs.drop m1) (hb.drop m1); rw [h1, List.length_drop] at this; simp only at this; omega
  have C2 := Lib.hid (fun (W : World) (hB : Below w.heap.size w W) (hT : Blk W h (tkrV a n cap (m2 : Int) 0)) => tnum_is h a bs n cap m2 W hT hn (HROW.out W hB) hb hcap hlen b2 h2 e3)
  have C3 := Lib.hid (fun (W : World) (hB : Below w.heap.size w W) (hT : Blk W h (tkrV a n cap (m3 : Int) 0)) => tstamp_is h a bs n cap m3 W hT hn (HROW.out W hB) hb hcap hlen b3 h3 e4)
  have C4 := Lib.hid (fun (W : World) (hB : Below w.heap.size w W) (hT : Blk W h (tkrV a n cap (m4 : Int) 0)) => tnum_is h a bs n cap m4 W hT hn (HROW.out W hB) hb hcap hlen b4 h4 e5)
  have C5 := Lib.hid (fun (W : World) (hB : Below w.heap.size w W) (hT : Blk W h (tkrV a n cap (m5 : Int) 0)) => tnum_is h a bs n cap m5 W hT hn (HROW.out W hB) hb hcap hlen b5 h5 e6)
  have hvb : 0 ≤ v ∧ v ≤ 4611686018427387904 := by have := tkN_k (bs.drop m5) (hb.drop m5); rw [h5] at this; exact this.2
  have hvw : IntKind.i64.wrap (v - 1) = v - 1 := IntWalk.i64_in _ (by omega)
  clear hn hr hb hcap hlen h0 e1 h1 e2 h2 e3 h3 e4 h4 e5 h5 e6 b1 b2 b3 b4 b5 b6
  go_enter Tryd.func54, Tryd.ntmps54
  go_wp2_with fail
  refine (C0.out).mono ?_
  rintro e w1 ⟨rfl, hT, hg⟩
  obtain ⟨b, hbb⟩ : ∃ b, w1.heap.size = b := ⟨_, rfl⟩
  have HP1 := Lib.hid (PI.first (t := t) (r := (rn : Int)) HH.out hbb hT hg)
  have ne1 : h ≠ b := by have := HP1.out.hb; omega
  have ne2 : g0 ≠ h := by omega
  have ne3 : g0 ≠ b := by have := HP1.out.hb; omega
  have ne1' := Ne.symm ne1
  have ne2' := Ne.symm ne2
  have ne3' := Ne.symm ne3
  have tc2 := HP1.out.t.cell 2 _ rfl
  have tc1 := HP1.out.t.cell 1 _ rfl
  have hlt := hT.lt
  clear hT hg
  go_wp2_with fail
  generalize w1.alloc (.cells #[.int .i64 t, .int .i64 (rn : Int), .int .i64 0, .slice none 0 0, .int .i64 0, .int .i64 0, .int .i64 0, .int .i64 0, .int .i64 0, .string ⟨#[]⟩, .int .i64 0, .int .i64 0] 27) = W1 at *
  clear hlt hbb hg0 hh
  refine (C1.out _ HP1.out.bel).mono ?_
  rintro e w2 ⟨v2, rfl, ho, hbl⟩
  obtain ⟨a2, n2, c2, rfl, hn2, hr2, hc2⟩ := ho.form'
  have HN2 := Lib.hid hn2
  have HO2 := Lib.hid (ho.mono (show b + 1 ≤ _ from HP1.out.size))
  have HP3 := Lib.hid (HP1.out.next hbl)
  clear ho hbl hn2 hr2 hc2
  clear tc1 tc2
  have tc1 := HP3.out.t.cell 1 _ rfl
  have tf1 := HP3.out.t.free 1 _ rfl
  have tc2 := HP3.out.t.cell 2 _ rfl
  have tf2 := HP3.out.t.free 2 _ rfl
  have oc3 := HP3.out.o.cell 3 _ rfl
  have of3 := HP3.out.o.free 3 _ rfl
  have HP4 := Lib.hid (((HP3.out.putD HO2.out).setT (m2 : Int) 0))
  go_wp2_with fail
  refine (C2.out _ HP4.out.bel HP4.out.t).mono ?_
  rintro e w5 ⟨rfl, hT, hg⟩
  have HP5 := Lib.hid (HP4.out.grown hg hT)
  clear hT hg
  clear tc1 tf1 tc2 tf2 oc3 of3
  have tc1 := HP5.out.t.cell 1 _ rfl
  have tf1 := HP5.out.t.free 1 _ rfl
  have tc2 := HP5.out.t.cell 2 _ rfl
  have tf2 := HP5.out.t.free 2 _ rfl
  have oc4 := HP5.out.o.cell 4 _ rfl
  have of4 := HP5.out.o.free 4 _ rfl
  have HP6 := Lib.hid (HP5.out.put 4 (.int .i64 2) (R' := (⟨t, (rn : Int), ds, 2, 0, 0, 0, 0, ⟨#[]⟩, 0, 0⟩ : OpR)) rfl rfl)
  go_wp2_with fail
  refine (C3.out _ HP6.out.bel HP6.out.t).mono ?_
  rintro e w7 ⟨rfl, hT, hg⟩
  have HP7 := Lib.hid (HP6.out.grown hg hT)
  clear hT hg
  clear tc1 tf1 tc2 tf2 oc4 of4
  have tc2 := HP7.out.t.cell 2 _ rfl
  have tf2 := HP7.out.t.free 2 _ rfl
  have oc4 := HP7.out.o.cell 4 _ rfl
  have of4 := HP7.out.o.free 4 _ rfl
  have oc5 := HP7.out.o.cell 5 _ rfl
  have of5 := HP7.out.o.free 5 _ rfl
  have oc6 := HP7.out.o.cell 6 _ rfl
  have of6 := HP7.out.o.free 6 _ rfl
  have HP8 := Lib.hid (HP7.out.put2 5 6 (.int .i64 nt) (.int .i64 nr) (R' := (⟨t, (rn : Int), ds, 2, nt, nr, 0, 0, ⟨#[]⟩, 0, 0⟩ : OpR)) rfl rfl)
  go_wp2_with fail
  refine (C4.out _ HP8.out.bel HP8.out.t).mono ?_
  rintro e w9 ⟨rfl, hT, hg⟩
  have HP9 := Lib.hid (HP8.out.grown hg hT)
  clear hT hg
  clear tc2 tf2 oc4 of4 oc5 of5 oc6 of6
  have tc2 := HP9.out.t.cell 2 _ rfl
  have tf2 := HP9.out.t.free 2 _ rfl
  have oc10 := HP9.out.o.cell 10 _ rfl
  have of10 := HP9.out.o.free 10 _ rfl
  have HP10 := Lib.hid (HP9.out.put 10 (.int .i64 p) (R' := (⟨t, (rn : Int), ds, 2, nt, nr, 0, 0, ⟨#[]⟩, p, 0⟩ : OpR)) rfl rfl)
  go_wp2_with fail
  refine (C5.out _ HP10.out.bel HP10.out.t).mono ?_
  rintro e w11 ⟨rfl, hT, hg⟩
  have HP11 := Lib.hid (HP10.out.grown hg hT)
  clear hT hg
  clear tc2 tf2 oc10 of10
  have tc1 := HP11.out.t.cell 1 _ rfl
  have tf1 := HP11.out.t.free 1 _ rfl
  have tc2 := HP11.out.t.cell 2 _ rfl
  have tf2 := HP11.out.t.free 2 _ rfl
  have oc0 := HP11.out.o.cell 0 _ rfl
  have of0 := HP11.out.o.free 0 _ rfl
  have oc1 := HP11.out.o.cell 1 _ rfl
  have of1 := HP11.out.o.free 1 _ rfl
  have oc2 := HP11.out.o.cell 2 _ rfl
  have of2 := HP11.out.o.free 2 _ rfl
  have oc3 := HP11.out.o.cell 3 _ rfl
  have of3 := HP11.out.o.free 3 _ rfl
  have oc4 := HP11.out.o.cell 4 _ rfl
  have of4 := HP11.out.o.free 4 _ rfl
  have oc5 := HP11.out.o.cell 5 _ rfl
  have of5 := HP11.out.o.free 5 _ rfl
  have oc6 := HP11.out.o.cell 6 _ rfl
  have of6 := HP11.out.o.free 6 _ rfl
  have oc7 := HP11.out.o.cell 7 _ rfl
  have of7 := HP11.out.o.free 7 _ rfl
  have oc8 := HP11.out.o.cell 8 _ rfl
  have of8 := HP11.out.o.free 8 _ rfl
  have oc9 := HP11.out.o.cell 9 _ rfl
  have of9 := HP11.out.o.free 9 _ rfl
  have oc10 := HP11.out.o.cell 10 _ rfl
  have of10 := HP11.out.o.free 10 _ rfl
  have oc11 := HP11.out.o.cell 11 _ rfl
  have of11 := HP11.out.o.free 11 _ rfl
  have HRD := Lib.hid (RowK.ofOwn HP11.out.d).1
  have hn2 : n2 = ds.length := HN2.out
  have hdl := Hv.vecB_len hve
  have hdr : decide ((rn : Int) < (n2 : Int)) = false := decide_eq_false (by omega)
  have hdr' : ¬ (rn : Int) < (n2 : Int) := by omega
  have HLE : Hid (ds.length ≤ 140737488355328) := (by omega : ds.length ≤ 140737488355328)
  have HNN := Lib.hid hn2
  clear hn2 hrl hdl
  have HP12 := Lib.hid (HP11.out.put 11 (.int .i64 (v - 1)) (R' := (⟨t, (rn : Int), ds, 2, nt, nr, 0, 0, ⟨#[]⟩, p, (v - 1)⟩ : OpR)) rfl rfl)
  go_wp2_with fail
  refine (refOp_any t rn 0 a2 ds n2 c2 2 nt nr 0 0 ⟨#[]⟩ p (v - 1) _ (RowK.ofOwn HP12.out.d).1 HNN.out HLE.out).mono ?_
  rw [hok]
  rintro e wz ⟨rfl, hbl⟩
  have HP13 := Lib.hid (HP12.out.next hbl)
  clear hbl hdr hdr'
  clear tc1 tf1 tc2 tf2 oc0 of0 oc1 of1 oc2 of2 oc3 of3 oc4 of4 oc5 of5 oc6 of6 oc7 of7 oc8 of8 oc9 of9 oc10 of10 oc11 of11
  have tc1 := HP13.out.t.cell 1 _ rfl
  have tf1 := HP13.out.t.free 1 _ rfl
  have tc2 := HP13.out.t.cell 2 _ rfl
  have tf2 := HP13.out.t.free 2 _ rfl
  have HZ0 : Hid (Blk wz g0 (zR.cells 0 (.slice none 0 0))) := HG.out ▸ HP13.out.rz
  have zc0 := HZ0.out.cell 0 _ rfl
  have zf0 := HZ0.out.free 0 _ rfl
  have zc1 := HZ0.out.cell 1 _ rfl
  have zf1 := HZ0.out.free 1 _ rfl
  have zc2 := HZ0.out.cell 2 _ rfl
  have zf2 := HZ0.out.free 2 _ rfl
  have zc3 := HZ0.out.cell 3 _ rfl
  have zf3 := HZ0.out.free 3 _ rfl
  have zc4 := HZ0.out.cell 4 _ rfl
  have zf4 := HZ0.out.free 4 _ rfl
  have zc5 := HZ0.out.cell 5 _ rfl
  have zf5 := HZ0.out.free 5 _ rfl
  have zc6 := HZ0.out.cell 6 _ rfl
  have zf6 := HZ0.out.free 6 _ rfl
  have zc7 := HZ0.out.cell 7 _ rfl
  have zf7 := HZ0.out.free 7 _ rfl
  have zc8 := HZ0.out.cell 8 _ rfl
  have zf8 := HZ0.out.free 8 _ rfl
  have zc9 := HZ0.out.cell 9 _ rfl
  have zf9 := HZ0.out.free 9 _ rfl
  have zc10 := HZ0.out.cell 10 _ rfl
  have zf10 := HZ0.out.free 10 _ rfl
  have zc11 := HZ0.out.cell 11 _ rfl
  have zf11 := HZ0.out.free 11 _ rfl
  go_wp2
  have HZ := ((((((((((((HZ0.out.set 0 (.int .i64 0)).set 1 (.int .i64 0)).set 2 (.int .i64 0)).set 3 (.slice none 0 0)).set 4 (.int .i64 0)).set 5 (.int .i64 0)).set 6 (.int .i64 0)).set 7 (.int .i64 0)).set 8 (.int .i64 0)).set 9 (.string ⟨#[]⟩)).set 10 (.int .i64 0)).set 11 (.int .i64 0))
  have z0 := HZ.cell 0 _ rfl
  have z1 := HZ.cell 1 _ rfl
  have z2 := HZ.cell 2 _ rfl
  have z3 := HZ.cell 3 _ rfl
  have z4 := HZ.cell 4 _ rfl
  have z5 := HZ.cell 5 _ rfl
  have z6 := HZ.cell 6 _ rfl
  have z7 := HZ.cell 7 _ rfl
  have z8 := HZ.cell 8 _ rfl
  have z9 := HZ.cell 9 _ rfl
  have z10 := HZ.cell 10 _ rfl
  have z11 := HZ.cell 11 _ rfl
  refine bodyPost_ret (v := .tuple #[.agg #[.int .i64 0, .int .i64 0, .int .i64 0, .slice none 0 0, .int .i64 0, .int .i64 0, .int .i64 0, .int .i64 0, .int .i64 0, .string ⟨#[]⟩, .int .i64 0, .int .i64 0], .int .i64 0, .int .i64 1]) (by simp [results, Tryd.results54, go_sem, z0, z1, z2, z3, z4, z5, z6, z7, z8, z9, z10, z11]) rfl ?_
  exact ⟨none, 0, 0, rfl, OwnK.nil _ _ _ _, ((((((((((((HP13.out.bel.setCell (p := ⟨g0, 0, none⟩) (Nat.le_of_eq HG.out) _).setCell (p := ⟨g0, 1, none⟩) (Nat.le_of_eq HG.out) _).setCell (p := ⟨g0, 2, none⟩) (Nat.le_of_eq HG.out) _).setCell (p := ⟨g0, 3, none⟩) (Nat.le_of_eq HG.out) _).setCell (p := ⟨g0, 4, none⟩) (Nat.le_of_eq HG.out) _).setCell (p := ⟨g0, 5, none⟩) (Nat.le_of_eq HG.out) _).setCell (p := ⟨g0, 6, none⟩) (Nat.le_of_eq HG.out) _).setCell (p := ⟨g0, 7, none⟩) (Nat.le_of_eq HG.out) _).setCell (p := ⟨g0, 8, none⟩) (Nat.le_of_eq HG.out) _).setCell (p := ⟨g0, 9, none⟩) (Nat.le_of_eq HG.out) _).setCell (p := ⟨g0, 10, none⟩) (Nat.le_of_eq HG.out) _).setCell (p := ⟨g0, 11, none⟩) (Nat.le_of_eq HG.out) _)⟩

theorem tkO_of {bs : List Int} {R : OpR} {m : Nat} (h6 : runR bs 6 = (R, m, 0)) {q : Int} (hq : seqR R = q) (hok : R.ok q = true) : tkO bs = (R, q, m, 0) := by
  subst hq
  rw [tkO_yes (by rw [h6]) (by rw [h6]; exact hok), h6]
theorem tkO_of_no {bs : List Int} {R : OpR} {m : Nat} (h6 : runR bs 6 = (R, m, 0)) {q : Int} (hq : seqR R = q) (hok : R.ok q = false) : tkO bs = (zR, 0, 0, 1) := by
  subst hq
  exact tkO_no (by rw [h6]) (by rw [h6]; exact hok)
theorem run_b {bs : List Int} (hb : IsB bs) {i m : Nat} {R : OpR} (hi : i ≤ 6) (h : runR bs i = (R, m, 0)) : m ≤ bs.length := by
  have := run_k hb i hi (by rw [h])
  rw [h] at this
  exact this

theorem refTakeOp_any (a : Option Addr) (bs : List Int) (n cap : Nat) (w : World) (hn : n = bs.length) (hr : RowK .u8 w a bs) (hb : IsB bs) (hcap : bs.length ≤ cap) (hlen : bs.length ≤ 140737488355328) : Calls Tryd.prog 54 #[.slice a n cap] w (TakeO (tkO bs) w) := by
  obtain ⟨⟨t, r, k0, x0⟩, h0⟩ : ∃ Z, St.tkSt bs = Z := ⟨_, rfl⟩
  have r0 : runR bs 0 = (zR, 0, 0) := rfl
  have s0 : updF (fAt 0 zR.k) (bs.drop 0) zR = (⟨t, r, [], 0, 0, 0, 0, 0, ⟨#[]⟩, 0, 0⟩, k0, x0) := by
    show updF 0 bs zR = _
    simp [updF, h0, zR]
  by_cases hx0 : x0 = 0
  case neg =>
    rw [run_stepE (by omega) r0 hx0 s0]
    exact refTake_P1 a bs n cap w hn hr hb hcap hlen h0 rfl hx0
  subst hx0
  have r1 := run_stepR r0 s0
  rw [Nat.zero_add, Nat.zero_add] at r1
  have b1 := run_b hb (by omega) r1
  have hpl := (run_keep hb 1 (by omega) (by rw [r1])).1 (by omega)
  rw [r1] at hpl
  have hpn := St.plB_num hpl
  simp only at hpn
  obtain ⟨rn, hrn⟩ : ∃ rn : Nat, r = rn := ⟨r.toNat, by omega⟩
  subst hrn
  obtain ⟨⟨ds, k1, x1⟩, h1⟩ : ∃ Z, Hv.tkV (bs.drop k0) = Z := ⟨_, rfl⟩
  have s1 : updF (fAt 1 0) (bs.drop k0) ⟨t, rn, [], 0, 0, 0, 0, 0, ⟨#[]⟩, 0, 0⟩ = (⟨t, rn, ds, 0, 0, 0, 0, 0, ⟨#[]⟩, 0, 0⟩, k1, x1) := by
    show updF 1 _ _ = _
    simp [updF, h1]
  by_cases hx1 : x1 = 0
  case neg =>
    rw [run_stepE (by omega) r1 hx1 s1]
    exact refTake_P2 a bs n cap w hn hr hb hcap hlen h0 rfl b1 h1 rfl hx1
  subst hx1
  have r2 := run_stepR r1 s1
  have b2 := run_b hb (by omega) r2
  have hve := (run_keep hb 2 (by omega) (by rw [r2])).2 (by omega)
  rw [r2] at hve
  simp only at hve
  obtain ⟨⟨kz, k2, x2⟩, h2⟩ : ∃ Z, tkN (bs.drop (k0 + k1)) = Z := ⟨_, rfl⟩
  by_cases hx2 : x2 = 0
  case neg =>
    have he := (tkN_err (bs.drop (k0 + k1))).2 (by rw [h2]; exact hx2)
    rw [h2] at he
    simp only at he
    have s2 : updF (fAt 2 0) (bs.drop (k0 + k1)) ⟨t, rn, ds, 0, 0, 0, 0, 0, ⟨#[]⟩, 0, 0⟩ = (⟨t, rn, ds, 0, 0, 0, 0, 0, ⟨#[]⟩, 0, 0⟩, 0, x2) := by
      show updF 2 _ _ = _
      simp [updF, tkK, h2, hx2]
    rw [run_stepE (by omega) r2 hx2 s2]
    rw [he.1] at h2
    exact refTake_P3 a bs n cap w hn hr hb hcap hlen h0 rfl b1 h1 rfl b2 h2 rfl hx2
  subst hx2
  have hbn := tkN_back (hb.drop (k0 + k1)) (by rw [h2])
  rw [h2, List.length_drop] at hbn
  simp only at hbn
  by_cases hk1 : kz = 1
  · subst hk1
    have s2 : updF (fAt 2 0) (bs.drop (k0 + k1)) ⟨t, rn, ds, 0, 0, 0, 0, 0, ⟨#[]⟩, 0, 0⟩ = (⟨t, rn, ds, 1, 0, 0, 0, 0, ⟨#[]⟩, 0, 0⟩, k2, 0) := by
      show updF 2 _ _ = _
      simp [updF, tkK, h2]
    have r3 := run_stepR r2 s2
    have b3 := run_b hb (by omega) r3
    obtain ⟨⟨nt, nr, k3, x3⟩, h3⟩ : ∃ Z, St.tkSt (bs.drop (k0 + k1 + k2)) = Z := ⟨_, rfl⟩
    have s3 : updF (fAt 3 1) (bs.drop (k0 + k1 + k2)) ⟨t, rn, ds, 1, 0, 0, 0, 0, ⟨#[]⟩, 0, 0⟩ = (⟨t, rn, ds, 1, nt, nr, 0, 0, ⟨#[]⟩, 0, 0⟩, k3, x3) := by
      show updF 3 _ _ = _
      simp [updF, h3]
    by_cases hx3 : x3 = 0
    case neg =>
      rw [run_stepE (by omega) r3 hx3 s3]
      exact refTake_P5 a bs n cap w hn hr hb hcap hlen h0 rfl b1 h1 rfl b2 h2 rfl b3 h3 rfl hx3
    subst hx3
    have r4 := run_stepR r3 s3
    have b4 := run_b hb (by omega) r4
    obtain ⟨⟨pt, pr, k4, x4⟩, h4⟩ : ∃ Z, St.tkSt (bs.drop (k0 + k1 + k2 + k3)) = Z := ⟨_, rfl⟩
    have s4 : updF (fAt 4 1) (bs.drop (k0 + k1 + k2 + k3)) ⟨t, rn, ds, 1, nt, nr, 0, 0, ⟨#[]⟩, 0, 0⟩ = (⟨t, rn, ds, 1, nt, nr, pt, pr, ⟨#[]⟩, 0, 0⟩, k4, x4) := by
      show updF 4 _ _ = _
      simp [updF, h4]
    by_cases hx4 : x4 = 0
    case neg =>
      rw [run_stepE (by omega) r4 hx4 s4]
      exact refTake_P7 a bs n cap w hn hr hb hcap hlen h0 rfl b1 h1 rfl b2 h2 rfl b3 h3 rfl b4 h4 rfl hx4
    subst hx4
    have r5 := run_stepR r4 s4
    have b5 := run_b hb (by omega) r5
    obtain ⟨⟨s, k5, x5⟩, h5⟩ : ∃ Z, tkS (bs.drop (k0 + k1 + k2 + k3 + k4)) = Z := ⟨_, rfl⟩
    have s5 : updF (fAt 5 1) (bs.drop (k0 + k1 + k2 + k3 + k4)) ⟨t, rn, ds, 1, nt, nr, pt, pr, ⟨#[]⟩, 0, 0⟩ = (⟨t, rn, ds, 1, nt, nr, pt, pr, s, 0, 0⟩, k5, x5) := by
      show updF 5 _ _ = _
      simp [updF, h5]
    by_cases hx5 : x5 = 0
    case neg =>
      rw [run_stepE (by omega) r5 hx5 s5]
      exact refTake_P8 a bs n cap w hn hr hb hcap hlen h0 rfl b1 h1 rfl b2 h2 rfl b3 h3 rfl b4 h4 rfl b5 h5 rfl hx5
    subst hx5
    have r6 := run_stepR r5 s5
    have b6 := run_b hb (by omega) r6
    by_cases hrl : (rn : Int) < ds.length
    · have hq : seqR ⟨t, rn, ds, 1, nt, nr, pt, pr, s, 0, 0⟩ = ds.getD rn 0 + 1 := by rw [seqR, if_pos hrl]; simp only [Int.toNat_natCast]
      cases hok : opB t rn (ds.getD rn 0 + 1) ds 1 nt nr pt pr s 0 0
      · rw [tkO_of_no r6 hq hok]
        exact refTake_B1 a bs n cap w hn hr hb hcap hlen h0 rfl b1 h1 rfl b2 h2 rfl b3 h3 rfl b4 h4 rfl b5 h5 rfl b6 hve hrl hok
      · rw [tkO_of r6 hq hok]
        exact refTake_A1 a bs n cap w hn hr hb hcap hlen h0 rfl b1 h1 rfl b2 h2 rfl b3 h3 rfl b4 h4 rfl b5 h5 rfl b6 hve hrl hok
    · have hq : seqR ⟨t, rn, ds, 1, nt, nr, pt, pr, s, 0, 0⟩ = 0 := by rw [seqR, if_neg hrl]
      have hok : opB t rn 0 ds 1 nt nr pt pr s 0 0 = false := by
        cases h : opB t rn 0 ds 1 nt nr pt pr s 0 0
        · rfl
        · exact absurd (cntB_parts (opB_parts h).2.2.1).2.1 hrl
      rw [tkO_of_no r6 hq hok]
      exact refTake_C1 a bs n cap w hn hr hb hcap hlen h0 rfl b1 h1 rfl b2 h2 rfl b3 h3 rfl b4 h4 rfl b5 h5 rfl b6 hve hrl hok
  · by_cases hk2 : kz = 2
    · subst hk2
      have s2 : updF (fAt 2 0) (bs.drop (k0 + k1)) ⟨t, rn, ds, 0, 0, 0, 0, 0, ⟨#[]⟩, 0, 0⟩ = (⟨t, rn, ds, 2, 0, 0, 0, 0, ⟨#[]⟩, 0, 0⟩, k2, 0) := by
        show updF 2 _ _ = _
        simp [updF, tkK, h2]
      have r3 := run_stepR r2 s2
      have b3 := run_b hb (by omega) r3
      obtain ⟨⟨nt, nr, k3, x3⟩, h3⟩ : ∃ Z, St.tkSt (bs.drop (k0 + k1 + k2)) = Z := ⟨_, rfl⟩
      have s3 : updF (fAt 3 2) (bs.drop (k0 + k1 + k2)) ⟨t, rn, ds, 2, 0, 0, 0, 0, ⟨#[]⟩, 0, 0⟩ = (⟨t, rn, ds, 2, nt, nr, 0, 0, ⟨#[]⟩, 0, 0⟩, k3, x3) := by
        show updF 3 _ _ = _
        simp [updF, h3]
      by_cases hx3 : x3 = 0
      case neg =>
        rw [run_stepE (by omega) r3 hx3 s3]
        exact refTake_P6 a bs n cap w hn hr hb hcap hlen h0 rfl b1 h1 rfl b2 h2 rfl b3 h3 rfl hx3
      subst hx3
      have r4 := run_stepR r3 s3
      have b4 := run_b hb (by omega) r4
      obtain ⟨⟨p, k4, x4⟩, h4⟩ : ∃ Z, tkN (bs.drop (k0 + k1 + k2 + k3)) = Z := ⟨_, rfl⟩
      have s4 : updF (fAt 4 2) (bs.drop (k0 + k1 + k2 + k3)) ⟨t, rn, ds, 2, nt, nr, 0, 0, ⟨#[]⟩, 0, 0⟩ = (⟨t, rn, ds, 2, nt, nr, 0, 0, ⟨#[]⟩, p, 0⟩, k4, x4) := by
        show updF 6 _ _ = _
        simp [updF, h4]
      by_cases hx4 : x4 = 0
      case neg =>
        rw [run_stepE (by omega) r4 hx4 s4]
        exact refTake_P9 a bs n cap w hn hr hb hcap hlen h0 rfl b1 h1 rfl b2 h2 rfl b3 h3 rfl b4 h4 rfl hx4
      subst hx4
      have r5 := run_stepR r4 s4
      have b5 := run_b hb (by omega) r5
      obtain ⟨⟨v, k5, x5⟩, h5⟩ : ∃ Z, tkN (bs.drop (k0 + k1 + k2 + k3 + k4)) = Z := ⟨_, rfl⟩
      have s5 : updF (fAt 5 2) (bs.drop (k0 + k1 + k2 + k3 + k4)) ⟨t, rn, ds, 2, nt, nr, 0, 0, ⟨#[]⟩, p, 0⟩ = (⟨t, rn, ds, 2, nt, nr, 0, 0, ⟨#[]⟩, p, v - 1⟩, k5, x5) := by
        show updF 7 _ _ = _
        simp [updF, h5]
      by_cases hx5 : x5 = 0
      case neg =>
        rw [run_stepE (by omega) r5 hx5 s5]
        exact refTake_P10 a bs n cap w hn hr hb hcap hlen h0 rfl b1 h1 rfl b2 h2 rfl b3 h3 rfl b4 h4 rfl b5 h5 rfl hx5
      subst hx5
      have r6 := run_stepR r5 s5
      have b6 := run_b hb (by omega) r6
      by_cases hrl : (rn : Int) < ds.length
      · have hq : seqR ⟨t, rn, ds, 2, nt, nr, 0, 0, ⟨#[]⟩, p, v - 1⟩ = ds.getD rn 0 + 1 := by rw [seqR, if_pos hrl]; simp only [Int.toNat_natCast]
        cases hok : opB t rn (ds.getD rn 0 + 1) ds 2 nt nr 0 0 ⟨#[]⟩ p (v - 1)
        · rw [tkO_of_no r6 hq hok]
          exact refTake_B2 a bs n cap w hn hr hb hcap hlen h0 rfl b1 h1 rfl b2 h2 rfl b3 h3 rfl b4 h4 rfl b5 h5 rfl b6 hve hrl hok
        · rw [tkO_of r6 hq hok]
          exact refTake_A2 a bs n cap w hn hr hb hcap hlen h0 rfl b1 h1 rfl b2 h2 rfl b3 h3 rfl b4 h4 rfl b5 h5 rfl b6 hve hrl hok
      · have hq : seqR ⟨t, rn, ds, 2, nt, nr, 0, 0, ⟨#[]⟩, p, v - 1⟩ = 0 := by rw [seqR, if_neg hrl]
        have hok : opB t rn 0 ds 2 nt nr 0 0 ⟨#[]⟩ p (v - 1) = false := by
          cases h : opB t rn 0 ds 2 nt nr 0 0 ⟨#[]⟩ p (v - 1)
          · rfl
          · exact absurd (cntB_parts (opB_parts h).2.2.1).2.1 hrl
        rw [tkO_of_no r6 hq hok]
        exact refTake_C2 a bs n cap w hn hr hb hcap hlen h0 rfl b1 h1 rfl b2 h2 rfl b3 h3 rfl b4 h4 rfl b5 h5 rfl b6 hve hrl hok
    · have s2 : updF (fAt 2 0) (bs.drop (k0 + k1)) ⟨t, rn, ds, 0, 0, 0, 0, 0, ⟨#[]⟩, 0, 0⟩ = (⟨t, rn, ds, 0, 0, 0, 0, 0, ⟨#[]⟩, 0, 0⟩, 0, 1) := by
        show updF 2 _ _ = _
        simp [updF, tkK, h2, hk1, hk2]
      rw [run_stepE (by omega) r2 (by decide) s2]
      exact refTake_P4 a bs n cap w hn hr hb hcap hlen h0 rfl b1 h1 rfl b2 h2 rfl (by omega) hk1 hk2
end Go.Proofs.YtfhppfbmnnkikaaDoor
