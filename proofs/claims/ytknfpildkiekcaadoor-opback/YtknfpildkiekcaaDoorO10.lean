/- An operation's bytes: the page's. -/
import Derived.Test.YtknfpildkiekcaaDoorO6
namespace Go.Proofs.YtknfpildkiekcaaDoor
open Go.RowKit Go.Lib
set_option linter.unusedVariables false

theorem pre2 (t r : Int) (ds : List Int) (k nt nr pt pr : Int) (s : ByteArray) (p v : Int) : preE 2 t r ds k nt nr pt pr s p v = St.encS t r ++ encL ds := by simp [preE, prtE, fldE, fAt, List.range_succ]
theorem refNums_n (a : Option Addr) (l : List Int) (n cap : Nat) (w : World) (hn : n = l.length) (hr : RowK .i64 w a l) (hok : numsOK l = true) : Calls Tryd.prog 35 #[.slice a n cap] w (AppPost w.heap.size w (encL l)) := by subst hn; exact refNums_any a l cap w hr hok

set_option maxHeartbeats 4000000 in
set_option maxRecDepth 100000 in
theorem refOpBytes1 (t r q : Int) (da : Option Addr) (ds : List Int) (dn dc : Nat) (k nt nr pt pr : Int) (s : ByteArray) (p v : Int) (w : World) (hr : RowK .i64 w da ds) (hn : dn = ds.length) (hk : k = 1) (h : opB t r q ds k nt nr pt pr s p v = true) : Calls Tryd.prog 12 #[.agg #[.int .i64 t, .int .i64 r, .int .i64 q, .slice da dn dc, .int .i64 k, .int .i64 nt, .int .i64 nr, .int .i64 pt, .int .i64 pr, .string s, .int .i64 p, .int .i64 v]] w (AppPost w.heap.size w (encO t r ds k nt nr pt pr s p v)) := by
  subst hk
  have mixed : Tryd.prog.follows .mixedOrders = true := by kernel_rfl
  obtain ⟨h1, h2, h3, h4⟩ := opB_parts h
  obtain ⟨g1, g2, g3, g4, g5⟩ := cntB_parts h3
  have CS := Lib.hid (fun W => St.refBytes_any t r W (st_pl h1))
  have CD := Lib.hid (fun W (hR : RowK .i64 W da ds) => refNums_n da ds dn dc W hn hR (Hv.vec_numsOK g1))
  have CK := Lib.hid (fun W => St.refNum_z 1 W (by decide))
  have CN := Lib.hid (fun W => St.refBytes_any nt nr W (st_pl h2))
  rcases kndB_parts h4 with ⟨_, k1, k2, k3, k4⟩ | ⟨k0, _⟩
  case inr => exact absurd k0 (by decide)
  have CP := Lib.hid (fun W => St.refBytes_any pt pr W k1)
  have CX := Lib.hid (fun W => refText_any s W (by have := keyB_len k2; omega))
  clear k1 k2 k3 k4

  obtain ⟨g, hg⟩ : ∃ g, w.heap.size = g := ⟨_, rfl⟩
  have HG := Lib.hid hg.symm
  have HO := Lib.hid h
  have HLT := Lib.hid (hr.rowLt.mono (show w.heap.size ≤ g + 1 by omega))
  have HA0 := Lib.hid (OpAt.new w t r q da ds dn dc 1 nt nr pt pr s p v)
  rw [hg] at HA0
  have HBX := Lib.hid (box_bel w (.cells #[.int .i64 t, .int .i64 r, .int .i64 q, .slice da dn dc, .int .i64 1, .int .i64 nt, .int .i64 nr, .int .i64 pt, .int .i64 pr, .string s, .int .i64 p, .int .i64 v] 28))
  have HRX := Lib.hid (hr.alloc (.cells #[.int .i64 t, .int .i64 r, .int .i64 q, .slice da dn dc, .int .i64 1, .int .i64 nt, .int .i64 nr, .int .i64 pt, .int .i64 pr, .string s, .int .i64 p, .int .i64 v] 28))
  have hS0 := heldO_mk (w0 := w) (n := w.heap.size) HA0.out.drew HBX.out.drew
  have HSZ : Hid ((w.alloc (.cells #[.int .i64 t, .int .i64 r, .int .i64 q, .slice da dn dc, .int .i64 1, .int .i64 nt, .int .i64 nr, .int .i64 pt, .int .i64 pr, .string s, .int .i64 p, .int .i64 v] 28)).heap.size = g + 1) := (by simp [hg] : (w.alloc (.cells #[.int .i64 t, .int .i64 r, .int .i64 q, .slice da dn dc, .int .i64 1, .int .i64 nt, .int .i64 nr, .int .i64 pt, .int .i64 pr, .string s, .int .i64 p, .int .i64 v] 28)).heap.size = g + 1)
  have HL1 := Lib.hid (St.encS_len (st_pl h1))
  have HL2 := Lib.hid (Hv.encV_len g1)
  clear hr hn h h1 h2 h3 h4 g1 g2 g3 g4 g5
  go_enter Tryd.func12, Tryd.ntmps12
  go_wp2_with fail
  go_region_held3 (fun w' => w'.cell? ⟨g, 0, none⟩ = some (.int .i64 t) ∧ w'.cell? ⟨g, 0 + 1, none⟩ = some (.int .i64 r) ∧ w'.cell? ⟨g, 0 + 2, none⟩ = some (.int .i64 q) ∧ w'.cell? ⟨g, 0 + 3, none⟩ = some (.slice da dn dc) ∧ w'.cell? ⟨g, 0 + 4, none⟩ = some (.int .i64 1) ∧ w'.cell? ⟨g, 0 + 5, none⟩ = some (.int .i64 nt) ∧ w'.cell? ⟨g, 0 + 6, none⟩ = some (.int .i64 nr) ∧ w'.cell? ⟨g, 0 + 7, none⟩ = some (.int .i64 pt) ∧ w'.cell? ⟨g, 0 + 8, none⟩ = some (.int .i64 pr) ∧ w'.cell? ⟨g, 0 + 9, none⟩ = some (.string s) ∧ w'.cell? ⟨g, 0 + 10, none⟩ = some (.int .i64 p) ∧ w'.cell? ⟨g, 0 + 11, none⟩ = some (.int .i64 v) ∧ Hid (Below w.heap.size w w')) (assumption) (first
    | (go_at_call 34
       (with_reducible refine (CS.out _).mono ?_)
       rintro e w1 ⟨v1, rfl, ho1, hb1⟩
       have HB1 := Lib.hid (HBX.out.drew.trans (hb1.mono (by have := HBX.out.size; exact this)))
       have HA1 := Lib.hid (HA0.out.drew.next hb1)
       have hS1 := heldO_mk (w0 := w) (n := w.heap.size) HA1.out HB1.out
       have HO1 : Hid (OwnK .u8 5 w1 (g + 1) v1 (St.encS t r)) := ho1.mono (Nat.le_of_eq HSZ.out.symm)
       have HR1 := Lib.hid (HRX.out.drew.below hb1 (Nat.le_refl _))
       clear ho1 hb1)
    | (go_at_call 35
       (with_reducible refine (CD.out w1 HR1.out).mono ?_)
       rintro e w2 ⟨v2, rfl, ho2, hb2⟩
       have HI1 : Hid (BytI w w2 g t r q da ds dn dc 1 nt nr pt pr s p v v1 (St.encS t r)) := ⟨HA1.out.next hb2, HR1.out.below hb2 (Nat.le_refl _), HO1.out.below hb2, HB1.out.trans (hb2.mono HB1.out.size), Nat.le_of_eq HG.out.symm⟩
       have hS2 := heldO_mk (w0 := w) (n := w.heap.size) HI1.out.at_ HI1.out.bel
       obtain ⟨a2, n2, c2, rfl, hn2, hr2, hc2⟩ := ho2.form'
       have HN2 := Lib.hid hn2
       have HR2 := Lib.hid hr2
       clear ho2 hb2 hn2 hr2 hc2)
    | (refine stepB_row (by rfl) _ _ (by rfl) (g + 1) w2 v1 (St.encS t r) (encL ds) a2 n2 c2 HN2.out (by rfl) HI1.out.own (by rfl) HR2.out (by have h1 := HL1.out; have h2 := HL2.out; have h3 := HN2.out; omega) HI1.out.at_.lt ?_
       intro vb2 wb2 hp3
       have HI2 : Hid (BytI w wb2 g t r q da ds dn dc 1 nt nr pt pr s p v vb2 (preE 2 t r ds 1 nt nr pt pr s p v)) := (by rw [pre2]; exact HI1.out.grew HLT.out hp3 : BytI w wb2 g t r q da ds dn dc 1 nt nr pt pr s p v vb2 (preE 2 t r ds 1 nt nr pt pr s p v))
       have hS3 := heldO_mk (w0 := w) (n := w.heap.size) HI2.out.at_ HI2.out.bel
       clear hp3))
  clear hS0 hS1 hS2 hS3
  obtain ⟨c0, c1, c2', c3, c4, c5, c6, c7, c8, c9', c10, c11⟩ := HI2.out.at_
  have c2 := c2'
  clear c2'
  go_wp2_with fail
  refine (CK.out _).mono ?_
  rintro e wa2 ⟨va2, rfl, ho9, hb9⟩
  have HJ2 := Lib.hid (HI2.out.next hb9)
  obtain ⟨a9, n9, c9, rfl, hn9, hr9, hc9⟩ := ho9.form'
  have HN9 := Lib.hid hn9
  have HR9 := Lib.hid hr9
  clear ho9 hb9 hn9 hr9 hc9 c0 c1 c2 c3 c4 c5 c6 c7 c8 c9' c10 c11
  obtain ⟨c0, c1, c2, c3, c4, c5, c6, c7, c8, c9', c10, c11⟩ := HJ2.out.at_
  have HLn := Lib.hid (preE_len HO.out 2 (by omega))
  have HLp := Lib.hid (prtE_len HO.out 2 (by omega))
  go_wp2_with (at_builtin
               refine wpB_row rfl _ _ rfl (g + 1) wa2 vb2 (preE 2 t r ds 1 nt nr pt pr s p v) (prtE 2 t r ds 1 nt nr pt pr s p v) a9 n9 c9 HN9.out rfl HJ2.out.own rfl HR9.out (by have h1 := HLn.out; have h2 := HLp.out; omega) HJ2.out.at_.lt ?_
               intro vb3 wb3 hp6
               have HI3 := Lib.hid (show BytI w wb3 g t r q da ds dn dc 1 nt nr pt pr s p v vb3 (preE 3 t r ds 1 nt nr pt pr s p v) from by rw [preE_succ]; exact HJ2.out.grew HLT.out hp6)
               clear hp6 HN9 HR9 c0 c1 c2 c3 c4 c5 c6 c7 c8 c9' c10 c11
               obtain ⟨c0, c1, c2, c3, c4, c5, c6, c7, c8, c9', c10, c11⟩ := HI3.out.at_)
  go_wp2_with fail
  refine (CN.out _).mono ?_
  rintro e wa3 ⟨va3, rfl, ho9, hb9⟩
  have HJ3 := Lib.hid (HI3.out.next hb9)
  obtain ⟨a9, n9, c9, rfl, hn9, hr9, hc9⟩ := ho9.form'
  have HN9 := Lib.hid hn9
  have HR9 := Lib.hid hr9
  clear ho9 hb9 hn9 hr9 hc9 c0 c1 c2 c3 c4 c5 c6 c7 c8 c9' c10 c11
  obtain ⟨c0, c1, c2, c3, c4, c5, c6, c7, c8, c9', c10, c11⟩ := HJ3.out.at_
  have HLn := Lib.hid (preE_len HO.out 3 (by omega))
  have HLp := Lib.hid (prtE_len HO.out 3 (by omega))
  go_wp2_with (at_builtin
               refine wpB_row rfl _ _ rfl (g + 1) wa3 vb3 (preE 3 t r ds 1 nt nr pt pr s p v) (prtE 3 t r ds 1 nt nr pt pr s p v) a9 n9 c9 HN9.out rfl HJ3.out.own rfl HR9.out (by have h1 := HLn.out; have h2 := HLp.out; omega) HJ3.out.at_.lt ?_
               intro vb4 wb4 hp6
               have HI4 := Lib.hid (show BytI w wb4 g t r q da ds dn dc 1 nt nr pt pr s p v vb4 (preE 4 t r ds 1 nt nr pt pr s p v) from by rw [preE_succ]; exact HJ3.out.grew HLT.out hp6)
               clear hp6 HN9 HR9 c0 c1 c2 c3 c4 c5 c6 c7 c8 c9' c10 c11
               obtain ⟨c0, c1, c2, c3, c4, c5, c6, c7, c8, c9', c10, c11⟩ := HI4.out.at_)
  go_wp2_with fail
  refine (CP.out _).mono ?_
  rintro e wa4 ⟨va4, rfl, ho9, hb9⟩
  have HJ4 := Lib.hid (HI4.out.next hb9)
  obtain ⟨a9, n9, c9, rfl, hn9, hr9, hc9⟩ := ho9.form'
  have HN9 := Lib.hid hn9
  have HR9 := Lib.hid hr9
  clear ho9 hb9 hn9 hr9 hc9 c0 c1 c2 c3 c4 c5 c6 c7 c8 c9' c10 c11
  obtain ⟨c0, c1, c2, c3, c4, c5, c6, c7, c8, c9', c10, c11⟩ := HJ4.out.at_
  have HLn := Lib.hid (preE_len HO.out 4 (by omega))
  have HLp := Lib.hid (prtE_len HO.out 4 (by omega))
  go_wp2_with (at_builtin
               refine wpB_row rfl _ _ rfl (g + 1) wa4 vb4 (preE 4 t r ds 1 nt nr pt pr s p v) (prtE 4 t r ds 1 nt nr pt pr s p v) a9 n9 c9 HN9.out rfl HJ4.out.own rfl HR9.out (by have h1 := HLn.out; have h2 := HLp.out; omega) HJ4.out.at_.lt ?_
               intro vb5 wb5 hp6
               have HI5 := Lib.hid (show BytI w wb5 g t r q da ds dn dc 1 nt nr pt pr s p v vb5 (preE 5 t r ds 1 nt nr pt pr s p v) from by rw [preE_succ]; exact HJ4.out.grew HLT.out hp6)
               clear hp6 HN9 HR9 c0 c1 c2 c3 c4 c5 c6 c7 c8 c9' c10 c11
               obtain ⟨c0, c1, c2, c3, c4, c5, c6, c7, c8, c9', c10, c11⟩ := HI5.out.at_)
  go_wp2_with fail
  refine (CX.out _).mono ?_
  rintro e wa5 ⟨va5, rfl, ho9, hb9⟩
  have HJ5 := Lib.hid (HI5.out.next hb9)
  obtain ⟨a9, n9, c9, rfl, hn9, hr9, hc9⟩ := ho9.form'
  have HN9 := Lib.hid hn9
  have HR9 := Lib.hid hr9
  clear ho9 hb9 hn9 hr9 hc9 c0 c1 c2 c3 c4 c5 c6 c7 c8 c9' c10 c11
  obtain ⟨c0, c1, c2, c3, c4, c5, c6, c7, c8, c9', c10, c11⟩ := HJ5.out.at_
  have HLn := Lib.hid (preE_len HO.out 5 (by omega))
  have HLp := Lib.hid (prtE_len HO.out 5 (by omega))
  go_wp2_with (at_builtin
               refine wpB_row rfl _ _ rfl (g + 1) wa5 vb5 (preE 5 t r ds 1 nt nr pt pr s p v) (prtE 5 t r ds 1 nt nr pt pr s p v) a9 n9 c9 HN9.out rfl HJ5.out.own rfl HR9.out (by have h1 := HLn.out; have h2 := HLp.out; omega) HJ5.out.at_.lt ?_
               intro vb6 wb6 hp6
               have HI6 := Lib.hid (show BytI w wb6 g t r q da ds dn dc 1 nt nr pt pr s p v vb6 (preE 6 t r ds 1 nt nr pt pr s p v) from by rw [preE_succ]; exact HJ5.out.grew HLT.out hp6)
               clear hp6 HN9 HR9 c0 c1 c2 c3 c4 c5 c6 c7 c8 c9' c10 c11
               skip)
  go_wp2
  go_ret
  exact ⟨_, rfl, HI6.out.own.mono (by rw [← HG.out]; exact Nat.le_succ g), HI6.out.bel⟩

set_option maxHeartbeats 4000000 in
set_option maxRecDepth 100000 in
theorem refOpBytes2 (t r q : Int) (da : Option Addr) (ds : List Int) (dn dc : Nat) (k nt nr pt pr : Int) (s : ByteArray) (p v : Int) (w : World) (hr : RowK .i64 w da ds) (hn : dn = ds.length) (hk : k = 2) (h : opB t r q ds k nt nr pt pr s p v = true) : Calls Tryd.prog 12 #[.agg #[.int .i64 t, .int .i64 r, .int .i64 q, .slice da dn dc, .int .i64 k, .int .i64 nt, .int .i64 nr, .int .i64 pt, .int .i64 pr, .string s, .int .i64 p, .int .i64 v]] w (AppPost w.heap.size w (encO t r ds k nt nr pt pr s p v)) := by
  subst hk
  have mixed : Tryd.prog.follows .mixedOrders = true := by kernel_rfl
  obtain ⟨h1, h2, h3, h4⟩ := opB_parts h
  obtain ⟨g1, g2, g3, g4, g5⟩ := cntB_parts h3
  have CS := Lib.hid (fun W => St.refBytes_any t r W (st_pl h1))
  have CD := Lib.hid (fun W (hR : RowK .i64 W da ds) => refNums_n da ds dn dc W hn hR (Hv.vec_numsOK g1))
  have CK := Lib.hid (fun W => St.refNum_z 2 W (by decide))
  have CN := Lib.hid (fun W => St.refBytes_any nt nr W (st_pl h2))
  rcases kndB_parts h4 with ⟨k0, _⟩ | ⟨_, k1, k2, k3, k4⟩
  case inl => exact absurd k0 (by decide)
  have hbd := errP_bd k1
  have CP := Lib.hid (fun W => St.refNum_z p W (by simp [numB]; omega))
  have CX := Lib.hid (fun W => St.refNum_z (v + 1) W (by simp [numB]; omega))
  have hw2 : IntKind.i64.wrap (v + 1) = v + 1 := IntWalk.i64_in _ (by omega)
  have hw1 : wrap64 (v + 1) = v + 1 := IntWalk.wrap64_in _ (by omega)
  clear k1 k2 k3 k4 hbd

  obtain ⟨g, hg⟩ : ∃ g, w.heap.size = g := ⟨_, rfl⟩
  have HG := Lib.hid hg.symm
  have HO := Lib.hid h
  have HLT := Lib.hid (hr.rowLt.mono (show w.heap.size ≤ g + 1 by omega))
  have HA0 := Lib.hid (OpAt.new w t r q da ds dn dc 2 nt nr pt pr s p v)
  rw [hg] at HA0
  have HBX := Lib.hid (box_bel w (.cells #[.int .i64 t, .int .i64 r, .int .i64 q, .slice da dn dc, .int .i64 2, .int .i64 nt, .int .i64 nr, .int .i64 pt, .int .i64 pr, .string s, .int .i64 p, .int .i64 v] 28))
  have HRX := Lib.hid (hr.alloc (.cells #[.int .i64 t, .int .i64 r, .int .i64 q, .slice da dn dc, .int .i64 2, .int .i64 nt, .int .i64 nr, .int .i64 pt, .int .i64 pr, .string s, .int .i64 p, .int .i64 v] 28))
  have hS0 := heldO_mk (w0 := w) (n := w.heap.size) HA0.out.drew HBX.out.drew
  have HSZ : Hid ((w.alloc (.cells #[.int .i64 t, .int .i64 r, .int .i64 q, .slice da dn dc, .int .i64 2, .int .i64 nt, .int .i64 nr, .int .i64 pt, .int .i64 pr, .string s, .int .i64 p, .int .i64 v] 28)).heap.size = g + 1) := (by simp [hg] : (w.alloc (.cells #[.int .i64 t, .int .i64 r, .int .i64 q, .slice da dn dc, .int .i64 2, .int .i64 nt, .int .i64 nr, .int .i64 pt, .int .i64 pr, .string s, .int .i64 p, .int .i64 v] 28)).heap.size = g + 1)
  have HL1 := Lib.hid (St.encS_len (st_pl h1))
  have HL2 := Lib.hid (Hv.encV_len g1)
  clear hr hn h h1 h2 h3 h4 g1 g2 g3 g4 g5
  go_enter Tryd.func12, Tryd.ntmps12
  go_wp2_with fail
  go_region_held3 (fun w' => w'.cell? ⟨g, 0, none⟩ = some (.int .i64 t) ∧ w'.cell? ⟨g, 0 + 1, none⟩ = some (.int .i64 r) ∧ w'.cell? ⟨g, 0 + 2, none⟩ = some (.int .i64 q) ∧ w'.cell? ⟨g, 0 + 3, none⟩ = some (.slice da dn dc) ∧ w'.cell? ⟨g, 0 + 4, none⟩ = some (.int .i64 2) ∧ w'.cell? ⟨g, 0 + 5, none⟩ = some (.int .i64 nt) ∧ w'.cell? ⟨g, 0 + 6, none⟩ = some (.int .i64 nr) ∧ w'.cell? ⟨g, 0 + 7, none⟩ = some (.int .i64 pt) ∧ w'.cell? ⟨g, 0 + 8, none⟩ = some (.int .i64 pr) ∧ w'.cell? ⟨g, 0 + 9, none⟩ = some (.string s) ∧ w'.cell? ⟨g, 0 + 10, none⟩ = some (.int .i64 p) ∧ w'.cell? ⟨g, 0 + 11, none⟩ = some (.int .i64 v) ∧ Hid (Below w.heap.size w w')) (assumption) (first
    | (go_at_call 34
       (with_reducible refine (CS.out _).mono ?_)
       rintro e w1 ⟨v1, rfl, ho1, hb1⟩
       have HB1 := Lib.hid (HBX.out.drew.trans (hb1.mono (by have := HBX.out.size; exact this)))
       have HA1 := Lib.hid (HA0.out.drew.next hb1)
       have hS1 := heldO_mk (w0 := w) (n := w.heap.size) HA1.out HB1.out
       have HO1 : Hid (OwnK .u8 5 w1 (g + 1) v1 (St.encS t r)) := ho1.mono (Nat.le_of_eq HSZ.out.symm)
       have HR1 := Lib.hid (HRX.out.drew.below hb1 (Nat.le_refl _))
       clear ho1 hb1)
    | (go_at_call 35
       (with_reducible refine (CD.out w1 HR1.out).mono ?_)
       rintro e w2 ⟨v2, rfl, ho2, hb2⟩
       have HI1 : Hid (BytI w w2 g t r q da ds dn dc 2 nt nr pt pr s p v v1 (St.encS t r)) := ⟨HA1.out.next hb2, HR1.out.below hb2 (Nat.le_refl _), HO1.out.below hb2, HB1.out.trans (hb2.mono HB1.out.size), Nat.le_of_eq HG.out.symm⟩
       have hS2 := heldO_mk (w0 := w) (n := w.heap.size) HI1.out.at_ HI1.out.bel
       obtain ⟨a2, n2, c2, rfl, hn2, hr2, hc2⟩ := ho2.form'
       have HN2 := Lib.hid hn2
       have HR2 := Lib.hid hr2
       clear ho2 hb2 hn2 hr2 hc2)
    | (refine stepB_row (by rfl) _ _ (by rfl) (g + 1) w2 v1 (St.encS t r) (encL ds) a2 n2 c2 HN2.out (by rfl) HI1.out.own (by rfl) HR2.out (by have h1 := HL1.out; have h2 := HL2.out; have h3 := HN2.out; omega) HI1.out.at_.lt ?_
       intro vb2 wb2 hp3
       have HI2 : Hid (BytI w wb2 g t r q da ds dn dc 2 nt nr pt pr s p v vb2 (preE 2 t r ds 2 nt nr pt pr s p v)) := (by rw [pre2]; exact HI1.out.grew HLT.out hp3 : BytI w wb2 g t r q da ds dn dc 2 nt nr pt pr s p v vb2 (preE 2 t r ds 2 nt nr pt pr s p v))
       have hS3 := heldO_mk (w0 := w) (n := w.heap.size) HI2.out.at_ HI2.out.bel
       clear hp3))
  clear hS0 hS1 hS2 hS3
  obtain ⟨c0, c1, c2', c3, c4, c5, c6, c7, c8, c9', c10, c11⟩ := HI2.out.at_
  have c2 := c2'
  clear c2'
  go_wp2_with fail
  refine (CK.out _).mono ?_
  rintro e wa2 ⟨va2, rfl, ho9, hb9⟩
  have HJ2 := Lib.hid (HI2.out.next hb9)
  obtain ⟨a9, n9, c9, rfl, hn9, hr9, hc9⟩ := ho9.form'
  have HN9 := Lib.hid hn9
  have HR9 := Lib.hid hr9
  clear ho9 hb9 hn9 hr9 hc9 c0 c1 c2 c3 c4 c5 c6 c7 c8 c9' c10 c11
  obtain ⟨c0, c1, c2, c3, c4, c5, c6, c7, c8, c9', c10, c11⟩ := HJ2.out.at_
  have HLn := Lib.hid (preE_len HO.out 2 (by omega))
  have HLp := Lib.hid (prtE_len HO.out 2 (by omega))
  go_wp2_with (at_builtin
               refine wpB_row rfl _ _ rfl (g + 1) wa2 vb2 (preE 2 t r ds 2 nt nr pt pr s p v) (prtE 2 t r ds 2 nt nr pt pr s p v) a9 n9 c9 HN9.out rfl HJ2.out.own rfl HR9.out (by have h1 := HLn.out; have h2 := HLp.out; omega) HJ2.out.at_.lt ?_
               intro vb3 wb3 hp6
               have HI3 := Lib.hid (show BytI w wb3 g t r q da ds dn dc 2 nt nr pt pr s p v vb3 (preE 3 t r ds 2 nt nr pt pr s p v) from by rw [preE_succ]; exact HJ2.out.grew HLT.out hp6)
               clear hp6 HN9 HR9 c0 c1 c2 c3 c4 c5 c6 c7 c8 c9' c10 c11
               obtain ⟨c0, c1, c2, c3, c4, c5, c6, c7, c8, c9', c10, c11⟩ := HI3.out.at_)
  go_wp2_with fail
  refine (CN.out _).mono ?_
  rintro e wa3 ⟨va3, rfl, ho9, hb9⟩
  have HJ3 := Lib.hid (HI3.out.next hb9)
  obtain ⟨a9, n9, c9, rfl, hn9, hr9, hc9⟩ := ho9.form'
  have HN9 := Lib.hid hn9
  have HR9 := Lib.hid hr9
  clear ho9 hb9 hn9 hr9 hc9 c0 c1 c2 c3 c4 c5 c6 c7 c8 c9' c10 c11
  obtain ⟨c0, c1, c2, c3, c4, c5, c6, c7, c8, c9', c10, c11⟩ := HJ3.out.at_
  have HLn := Lib.hid (preE_len HO.out 3 (by omega))
  have HLp := Lib.hid (prtE_len HO.out 3 (by omega))
  go_wp2_with (at_builtin
               refine wpB_row rfl _ _ rfl (g + 1) wa3 vb3 (preE 3 t r ds 2 nt nr pt pr s p v) (prtE 3 t r ds 2 nt nr pt pr s p v) a9 n9 c9 HN9.out rfl HJ3.out.own rfl HR9.out (by have h1 := HLn.out; have h2 := HLp.out; omega) HJ3.out.at_.lt ?_
               intro vb4 wb4 hp6
               have HI4 := Lib.hid (show BytI w wb4 g t r q da ds dn dc 2 nt nr pt pr s p v vb4 (preE 4 t r ds 2 nt nr pt pr s p v) from by rw [preE_succ]; exact HJ3.out.grew HLT.out hp6)
               clear hp6 HN9 HR9 c0 c1 c2 c3 c4 c5 c6 c7 c8 c9' c10 c11
               obtain ⟨c0, c1, c2, c3, c4, c5, c6, c7, c8, c9', c10, c11⟩ := HI4.out.at_)
  go_wp2_with fail
  refine (CP.out _).mono ?_
  rintro e wa4 ⟨va4, rfl, ho9, hb9⟩
  have HJ4 := Lib.hid (HI4.out.next hb9)
  obtain ⟨a9, n9, c9, rfl, hn9, hr9, hc9⟩ := ho9.form'
  have HN9 := Lib.hid hn9
  have HR9 := Lib.hid hr9
  clear ho9 hb9 hn9 hr9 hc9 c0 c1 c2 c3 c4 c5 c6 c7 c8 c9' c10 c11
  obtain ⟨c0, c1, c2, c3, c4, c5, c6, c7, c8, c9', c10, c11⟩ := HJ4.out.at_
  have HLn := Lib.hid (preE_len HO.out 4 (by omega))
  have HLp := Lib.hid (prtE_len HO.out 4 (by omega))
  go_wp2_with (at_builtin
               refine wpB_row rfl _ _ rfl (g + 1) wa4 vb4 (preE 4 t r ds 2 nt nr pt pr s p v) (prtE 4 t r ds 2 nt nr pt pr s p v) a9 n9 c9 HN9.out rfl HJ4.out.own rfl HR9.out (by have h1 := HLn.out; have h2 := HLp.out; omega) HJ4.out.at_.lt ?_
               intro vb5 wb5 hp6
               have HI5 := Lib.hid (show BytI w wb5 g t r q da ds dn dc 2 nt nr pt pr s p v vb5 (preE 5 t r ds 2 nt nr pt pr s p v) from by rw [preE_succ]; exact HJ4.out.grew HLT.out hp6)
               clear hp6 HN9 HR9 c0 c1 c2 c3 c4 c5 c6 c7 c8 c9' c10 c11
               obtain ⟨c0, c1, c2, c3, c4, c5, c6, c7, c8, c9', c10, c11⟩ := HI5.out.at_)
  go_wp2_with fail
  refine (CX.out _).mono ?_
  rintro e wa5 ⟨va5, rfl, ho9, hb9⟩
  have HJ5 := Lib.hid (HI5.out.next hb9)
  obtain ⟨a9, n9, c9, rfl, hn9, hr9, hc9⟩ := ho9.form'
  have HN9 := Lib.hid hn9
  have HR9 := Lib.hid hr9
  clear ho9 hb9 hn9 hr9 hc9 c0 c1 c2 c3 c4 c5 c6 c7 c8 c9' c10 c11
  obtain ⟨c0, c1, c2, c3, c4, c5, c6, c7, c8, c9', c10, c11⟩ := HJ5.out.at_
  have HLn := Lib.hid (preE_len HO.out 5 (by omega))
  have HLp := Lib.hid (prtE_len HO.out 5 (by omega))
  go_wp2_with (at_builtin
               refine wpB_row rfl _ _ rfl (g + 1) wa5 vb5 (preE 5 t r ds 2 nt nr pt pr s p v) (prtE 5 t r ds 2 nt nr pt pr s p v) a9 n9 c9 HN9.out rfl HJ5.out.own rfl HR9.out (by have h1 := HLn.out; have h2 := HLp.out; omega) HJ5.out.at_.lt ?_
               intro vb6 wb6 hp6
               have HI6 := Lib.hid (show BytI w wb6 g t r q da ds dn dc 2 nt nr pt pr s p v vb6 (preE 6 t r ds 2 nt nr pt pr s p v) from by rw [preE_succ]; exact HJ5.out.grew HLT.out hp6)
               clear hp6 HN9 HR9 c0 c1 c2 c3 c4 c5 c6 c7 c8 c9' c10 c11
               skip)
  go_wp2
  go_ret
  exact ⟨_, rfl, HI6.out.own.mono (by rw [← HG.out]; exact Nat.le_succ g), HI6.out.bel⟩

theorem refOpBytes_any (t r q : Int) (da : Option Addr) (ds : List Int) (dn dc : Nat) (k nt nr pt pr : Int) (s : ByteArray) (p v : Int) (w : World) (hr : RowK .i64 w da ds) (hn : dn = ds.length) (h : opB t r q ds k nt nr pt pr s p v = true) : Calls Tryd.prog 12 #[.agg #[.int .i64 t, .int .i64 r, .int .i64 q, .slice da dn dc, .int .i64 k, .int .i64 nt, .int .i64 nr, .int .i64 pt, .int .i64 pr, .string s, .int .i64 p, .int .i64 v]] w (AppPost w.heap.size w (encO t r ds k nt nr pt pr s p v)) := by
  rcases kndB_parts (opB_parts h).2.2.2 with ⟨hk, _⟩ | ⟨hk, _⟩
  · exact refOpBytes1 t r q da ds dn dc k nt nr pt pr s p v w hr hn hk h
  · exact refOpBytes2 t r q da ds dn dc k nt nr pt pr s p v w hr hn hk h
end Go.Proofs.YtknfpildkiekcaaDoor
