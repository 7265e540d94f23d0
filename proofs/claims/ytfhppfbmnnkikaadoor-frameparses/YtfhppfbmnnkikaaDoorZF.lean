/- Joined: O10 O11 O11b O12 O15. -/
import Derived.Test.YtfhppfbmnnkikaaDoorZD
import Derived.Test.YtfhppfbmnnkikaaDoorZC

/- An operation's bytes: the page's. -/
namespace Go.Proofs.YtfhppfbmnnkikaaDoor
open Go.RowKit Go.Lib
set_option linter.unusedVariables false

theorem pre2 (t r : Int) (ds : List Int) (k nt nr pt pr : Int) (s : ByteArray) (p v : Int) : preE 2 t r ds k nt nr pt pr s p v = St.encS t r ++ encL ds := by simp [preE, prtE, fldE, fAt, List.range_succ]
theorem refNums_n (a : Option Addr) (l : List Int) (n cap : Nat) (w : World) (hn : n = l.length) (hr : RowK .i64 w a l) (hok : numsOK l = true) : Calls Tryd.prog 40 #[.slice a n cap] w (AppPost w.heap.size w (encL l)) := by subst hn; exact refNums_any a l cap w hr hok

set_option maxHeartbeats 4000000 in
set_option maxRecDepth 100000 in
theorem refOpBytes1 (t r q : Int) (da : Option Addr) (ds : List Int) (dn dc : Nat) (k nt nr pt pr : Int) (s : ByteArray) (p v : Int) (w : World) (hr : RowK .i64 w da ds) (hn : dn = ds.length) (hk : k = 1) (h : opB t r q ds k nt nr pt pr s p v = true) : Calls Tryd.prog 41 #[.agg #[.int .i64 t, .int .i64 r, .int .i64 q, .slice da dn dc, .int .i64 k, .int .i64 nt, .int .i64 nr, .int .i64 pt, .int .i64 pr, .string s, .int .i64 p, .int .i64 v]] w (AppPost w.heap.size w (encO t r ds k nt nr pt pr s p v)) := by
  subst hk
  have mixed : Tryd.prog.follows .mixedOrders = true := by kernel_rfl
  obtain ⟨h1, h2, h3, h4⟩ := opB_parts h
  obtain ⟨g1, g2, g3, g4, g5⟩ := cntB_parts h3
  have CS := Lib.hid (fun W => St.refBytes_any t r W (st_pl h1))
  have CD := Lib.hid (fun W (hR : RowK .i64 W da ds) => refNums_n da ds dn dc W hn hR (Hv.vec_numsOK g1))
  have CK := Lib.hid (fun W => St.refNum_z 1 W (by decide))
  have CN := Lib.hid (fun W => St.refBytes_any nt nr W (st_pl h2))
  rcases kndB_parts h4 with ⟨_, k1, k2, k3, k4⟩ | ⟨k0, _⟩
  case inr => exact absurd k0 (by decide)
  have CP := Lib.hid (fun W => St.refBytes_any pt pr W k1)
  have CX := Lib.hid (fun W => refText_any s W (by have := keyB_len k2; omega))
  clear k1 k2 k3 k4

  obtain ⟨g, hg⟩ : ∃ g, w.heap.size = g := ⟨_, rfl⟩
  have HG := Lib.hid hg.symm
  have HO := Lib.hid h
  have HLT := Lib.hid (hr.rowLt.mono (show w.heap.size ≤ g + 1 by omega))
  have HA0 := Lib.hid (OpAt.new w t r q da ds dn dc 1 nt nr pt pr s p v)
  rw [hg] at HA0
  have HBX := Lib.hid (box_bel w (.cells #[.int .i64 t, .int .i64 r, .int .i64 q, .slice da dn dc, .int .i64 1, .int .i64 nt, .int .i64 nr, .int .i64 pt, .int .i64 pr, .string s, .int .i64 p, .int .i64 v] 27))
  have HRX := Lib.hid (hr.alloc (.cells #[.int .i64 t, .int .i64 r, .int .i64 q, .slice da dn dc, .int .i64 1, .int .i64 nt, .int .i64 nr, .int .i64 pt, .int .i64 pr, .string s, .int .i64 p, .int .i64 v] 27))
  have hS0 := heldO_mk (w0 := w) (n := w.heap.size) HA0.out.drew HBX.out.drew
  have HSZ : Hid ((w.alloc (.cells #[.int .i64 t, .int .i64 r, .int .i64 q, .slice da dn dc, .int .i64 1, .int .i64 nt, .int .i64 nr, .int .i64 pt, .int .i64 pr, .string s, .int .i64 p, .int .i64 v] 27)).heap.size = g + 1) := (by simp [hg] : (w.alloc (.cells #[.int .i64 t, .int .i64 r, .int .i64 q, .slice da dn dc, .int .i64 1, .int .i64 nt, .int .i64 nr, .int .i64 pt, .int .i64 pr, .string s, .int .i64 p, .int .i64 v] 27)).heap.size = g + 1)
  have HL1 := Lib.hid (St.encS_len (st_pl h1))
  have HL2 := Lib.hid (Hv.encV_len g1)
  clear hr hn h h1 h2 h3 h4 g1 g2 g3 g4 g5
  go_enter Tryd.func41, Tryd.ntmps41
  go_wp2_with fail
  go_region_held3 (fun w' => w'.cell? ⟨g, 0, none⟩ = some (.int .i64 t) ∧ w'.cell? ⟨g, 0 + 1, none⟩ = some (.int .i64 r) ∧ w'.cell? ⟨g, 0 + 2, none⟩ = some (.int .i64 q) ∧ w'.cell? ⟨g, 0 + 3, none⟩ = some (.slice da dn dc) ∧ w'.cell? ⟨g, 0 + 4, none⟩ = some (.int .i64 1) ∧ w'.cell? ⟨g, 0 + 5, none⟩ = some (.int .i64 nt) ∧ w'.cell? ⟨g, 0 + 6, none⟩ = some (.int .i64 nr) ∧ w'.cell? ⟨g, 0 + 7, none⟩ = some (.int .i64 pt) ∧ w'.cell? ⟨g, 0 + 8, none⟩ = some (.int .i64 pr) ∧ w'.cell? ⟨g, 0 + 9, none⟩ = some (.string s) ∧ w'.cell? ⟨g, 0 + 10, none⟩ = some (.int .i64 p) ∧ w'.cell? ⟨g, 0 + 11, none⟩ = some (.int .i64 v) ∧ Hid (Below w.heap.size w w')) (assumption) (first
    | (go_at_call 70
       (with_reducible refine (CS.out _).mono ?_)
       rintro e w1 ⟨v1, rfl, ho1, hb1⟩
       have HB1 := Lib.hid (HBX.out.drew.trans (hb1.mono (by have := HBX.out.size; exact this)))
       have HA1 := Lib.hid (HA0.out.drew.next hb1)
       have hS1 := heldO_mk (w0 := w) (n := w.heap.size) HA1.out HB1.out
       have HO1 : Hid (OwnK .u8 5 w1 (g + 1) v1 (St.encS t r)) := ho1.mono (Nat.le_of_eq HSZ.out.symm)
       have HR1 := Lib.hid (HRX.out.drew.below hb1 (Nat.le_refl _))
       clear ho1 hb1)
    | (go_at_call 40
       (with_reducible refine (CD.out w1 HR1.out).mono ?_)
       rintro e w2 ⟨v2, rfl, ho2, hb2⟩
       have HI1 : Hid (BytI w w2 g t r q da ds dn dc 1 nt nr pt pr s p v v1 (St.encS t r)) := ⟨HA1.out.next hb2, HR1.out.below hb2 (Nat.le_refl _), HO1.out.below hb2, HB1.out.trans (hb2.mono HB1.out.size), Nat.le_of_eq HG.out.symm⟩
       have hS2 := heldO_mk (w0 := w) (n := w.heap.size) HI1.out.at_ HI1.out.bel
       obtain ⟨a2, n2, c2, rfl, hn2, hr2, hc2⟩ := ho2.form'
       have HN2 := Lib.hid hn2
       have HR2 := Lib.hid hr2
       clear ho2 hb2 hn2 hr2 hc2)
    | (refine stepB_row (by rfl) _ _ (by rfl) (g + 1) w2 v1 (St.encS t r) (encL ds) a2 n2 c2 HN2.out (by rfl) HI1.out.own (by rfl) HR2.out (by have h1 := HL1.out; have h2 := HL2.out; have h3 := HN2.out; omega) HI1.out.at_.lt ?_
       intro vb2 wb2 hp3
       have HI2 : Hid (BytI w wb2 g t r q da ds dn dc 1 nt nr pt pr s p v vb2 (preE 2 t r ds 1 nt nr pt pr s p v)) := (by rw [pre2]; exact HI1.out.grew HLT.out hp3 : BytI w wb2 g t r q da ds dn dc 1 nt nr pt pr s p v vb2 (preE 2 t r ds 1 nt nr pt pr s p v))
       have hS3 := heldO_mk (w0 := w) (n := w.heap.size) HI2.out.at_ HI2.out.bel
       clear hp3))
  clear hS0 hS1 hS2 hS3
  obtain ⟨c0, c1, c2', c3, c4, c5, c6, c7, c8, c9', c10, c11⟩ := HI2.out.at_
  have c2 := c2'
  clear c2'
  go_wp2_with fail
  refine (CK.out _).mono ?_
  rintro e wa2 ⟨va2, rfl, ho9, hb9⟩
  have HJ2 := Lib.hid (HI2.out.next hb9)
  obtain ⟨a9, n9, c9, rfl, hn9, hr9, hc9⟩ := ho9.form'
  have HN9 := Lib.hid hn9
  have HR9 := Lib.hid hr9
  clear ho9 hb9 hn9 hr9 hc9 c0 c1 c2 c3 c4 c5 c6 c7 c8 c9' c10 c11
  obtain ⟨c0, c1, c2, c3, c4, c5, c6, c7, c8, c9', c10, c11⟩ := HJ2.out.at_
  have HLn := Lib.hid (preE_len HO.out 2 (by omega))
  have HLp := Lib.hid (prtE_len HO.out 2 (by omega))
  go_wp2_with (at_builtin
               refine wpB_row rfl _ _ rfl (g + 1) wa2 vb2 (preE 2 t r ds 1 nt nr pt pr s p v) (prtE 2 t r ds 1 nt nr pt pr s p v) a9 n9 c9 HN9.out rfl HJ2.out.own rfl HR9.out (by have h1 := HLn.out; have h2 := HLp.out; omega) HJ2.out.at_.lt ?_
               intro vb3 wb3 hp6
               have HI3 := Lib.hid (show BytI w wb3 g t r q da ds dn dc 1 nt nr pt pr s p v vb3 (preE 3 t r ds 1 nt nr pt pr s p v) from by rw [preE_succ]; exact HJ2.out.grew HLT.out hp6)
               clear hp6 HN9 HR9 c0 c1 c2 c3 c4 c5 c6 c7 c8 c9' c10 c11
               obtain ⟨c0, c1, c2, c3, c4, c5, c6, c7, c8, c9', c10, c11⟩ := HI3.out.at_)
  go_wp2_with fail
  refine (CN.out _).mono ?_
  rintro e wa3 ⟨va3, rfl, ho9, hb9⟩
  have HJ3 := Lib.hid (HI3.out.next hb9)
  obtain ⟨a9, n9, c9, rfl, hn9, hr9, hc9⟩ := ho9.form'
  have HN9 := Lib.hid hn9
  have HR9 := Lib.hid hr9
  clear ho9 hb9 hn9 hr9 hc9 c0 c1 c2 c3 c4 c5 c6 c7 c8 c9' c10 c11
  obtain ⟨c0, c1, c2, c3, c4, c5, c6, c7, c8, c9', c10, c11⟩ := HJ3.out.at_
  have HLn := Lib.hid (preE_len HO.out 3 (by omega))
  have HLp := Lib.hid (prtE_len HO.out 3 (by omega))
  go_wp2_with (at_builtin
               refine wpB_row rfl _ _ rfl (g + 1) wa3 vb3 (preE 3 t r ds 1 nt nr pt pr s p v) (prtE 3 t r ds 1 nt nr pt pr s p v) a9 n9 c9 HN9.out rfl HJ3.out.own rfl HR9.out (by have h1 := HLn.out; have h2 := HLp.out; omega) HJ3.out.at_.lt ?_
               intro vb4 wb4 hp6
               have HI4 := Lib.hid (show BytI w wb4 g t r q da ds dn dc 1 nt nr pt pr s p v vb4 (preE 4 t r ds 1 nt nr pt pr s p v) from by rw [preE_succ]; exact HJ3.out.grew HLT.out hp6)
               clear hp6 HN9 HR9 c0 c1 c2 c3 c4 c5 c6 c7 c8 c9' c10 c11
               obtain ⟨c0, c1, c2, c3, c4, c5, c6, c7, c8, c9', c10, c11⟩ := HI4.out.at_)
  go_wp2_with fail
  refine (CP.out _).mono ?_
  rintro e wa4 ⟨va4, rfl, ho9, hb9⟩
  have HJ4 := Lib.hid (HI4.out.next hb9)
  obtain ⟨a9, n9, c9, rfl, hn9, hr9, hc9⟩ := ho9.form'
  have HN9 := Lib.hid hn9
  have HR9 := Lib.hid hr9
  clear ho9 hb9 hn9 hr9 hc9 c0 c1 c2 c3 c4 c5 c6 c7 c8 c9' c10 c11
  obtain ⟨c0, c1, c2, c3, c4, c5, c6, c7, c8, c9', c10, c11⟩ := HJ4.out.at_
  have HLn := Lib.hid (preE_len HO.out 4 (by omega))
  have HLp := Lib.hid (prtE_len HO.out 4 (by omega))
  go_wp2_with (at_builtin
               refine wpB_row rfl _ _ rfl (g + 1) wa4 vb4 (preE 4 t r ds 1 nt nr pt pr s p v) (prtE 4 t r ds 1 nt nr pt pr s p v) a9 n9 c9 HN9.out rfl HJ4.out.own rfl HR9.out (by have h1 := HLn.out; have h2 := HLp.out; omega) HJ4.out.at_.lt ?_
               intro vb5 wb5 hp6
               have HI5 := Lib.hid (show BytI w wb5 g t r q da ds dn dc 1 nt nr pt pr s p v vb5 (preE 5 t r ds 1 nt nr pt pr s p v) from by rw [preE_succ]; exact HJ4.out.grew HLT.out hp6)
               clear hp6 HN9 HR9 c0 c1 c2 c3 c4 c5 c6 c7 c8 c9' c10 c11
               obtain ⟨c0, c1, c2, c3, c4, c5, c6, c7, c8, c9', c10, c11⟩ := HI5.out.at_)
  go_wp2_with fail
  refine (CX.out _).mono ?_
  rintro e wa5 ⟨va5, rfl, ho9, hb9⟩
  have HJ5 := Lib.hid (HI5.out.next hb9)
  obtain ⟨a9, n9, c9, rfl, hn9, hr9, hc9⟩ := ho9.form'
  have HN9 := Lib.hid hn9
  have HR9 := Lib.hid hr9
  clear ho9 hb9 hn9 hr9 hc9 c0 c1 c2 c3 c4 c5 c6 c7 c8 c9' c10 c11
  obtain ⟨c0, c1, c2, c3, c4, c5, c6, c7, c8, c9', c10, c11⟩ := HJ5.out.at_
  have HLn := Lib.hid (preE_len HO.out 5 (by omega))
  have HLp := Lib.hid (prtE_len HO.out 5 (by omega))
  go_wp2_with (at_builtin
               refine wpB_row rfl _ _ rfl (g + 1) wa5 vb5 (preE 5 t r ds 1 nt nr pt pr s p v) (prtE 5 t r ds 1 nt nr pt pr s p v) a9 n9 c9 HN9.out rfl HJ5.out.own rfl HR9.out (by have h1 := HLn.out; have h2 := HLp.out; omega) HJ5.out.at_.lt ?_
               intro vb6 wb6 hp6
               have HI6 := Lib.hid (show BytI w wb6 g t r q da ds dn dc 1 nt nr pt pr s p v vb6 (preE 6 t r ds 1 nt nr pt pr s p v) from by rw [preE_succ]; exact HJ5.out.grew HLT.out hp6)
               clear hp6 HN9 HR9 c0 c1 c2 c3 c4 c5 c6 c7 c8 c9' c10 c11
               skip)
  go_wp2
  go_ret
  exact ⟨_, rfl, HI6.out.own.mono (by rw [← HG.out]; exact Nat.le_succ g), HI6.out.bel⟩

set_option maxHeartbeats 4000000 in
set_option maxRecDepth 100000 in
theorem refOpBytes2 (t r q : Int) (da : Option Addr) (ds : List Int) (dn dc : Nat) (k nt nr pt pr : Int) (s : ByteArray) (p v : Int) (w : World) (hr : RowK .i64 w da ds) (hn : dn = ds.length) (hk : k = 2) (h : opB t r q ds k nt nr pt pr s p v = true) : Calls Tryd.prog 41 #[.agg #[.int .i64 t, .int .i64 r, .int .i64 q, .slice da dn dc, .int .i64 k, .int .i64 nt, .int .i64 nr, .int .i64 pt, .int .i64 pr, .string s, .int .i64 p, .int .i64 v]] w (AppPost w.heap.size w (encO t r ds k nt nr pt pr s p v)) := by
  subst hk
  have mixed : Tryd.prog.follows .mixedOrders = true := by kernel_rfl
  obtain ⟨h1, h2, h3, h4⟩ := opB_parts h
  obtain ⟨g1, g2, g3, g4, g5⟩ := cntB_parts h3
  have CS := Lib.hid (fun W => St.refBytes_any t r W (st_pl h1))
  have CD := Lib.hid (fun W (hR : RowK .i64 W da ds) => refNums_n da ds dn dc W hn hR (Hv.vec_numsOK g1))
  have CK := Lib.hid (fun W => St.refNum_z 2 W (by decide))
  have CN := Lib.hid (fun W => St.refBytes_any nt nr W (st_pl h2))
  rcases kndB_parts h4 with ⟨k0, _⟩ | ⟨_, k1, k2, k3, k4⟩
  case inl => exact absurd k0 (by decide)
  have hbd := errP_bd k1
  have CP := Lib.hid (fun W => St.refNum_z p W (by simp [numB]; omega))
  have CX := Lib.hid (fun W => St.refNum_z (v + 1) W (by simp [numB]; omega))
  have hw2 : IntKind.i64.wrap (v + 1) = v + 1 := IntWalk.i64_in _ (by omega)
  have hw1 : wrap64 (v + 1) = v + 1 := IntWalk.wrap64_in _ (by omega)
  clear k1 k2 k3 k4 hbd

  obtain ⟨g, hg⟩ : ∃ g, w.heap.size = g := ⟨_, rfl⟩
  have HG := Lib.hid hg.symm
  have HO := Lib.hid h
  have HLT := Lib.hid (hr.rowLt.mono (show w.heap.size ≤ g + 1 by omega))
  have HA0 := Lib.hid (OpAt.new w t r q da ds dn dc 2 nt nr pt pr s p v)
  rw [hg] at HA0
  have HBX := Lib.hid (box_bel w (.cells #[.int .i64 t, .int .i64 r, .int .i64 q, .slice da dn dc, .int .i64 2, .int .i64 nt, .int .i64 nr, .int .i64 pt, .int .i64 pr, .string s, .int .i64 p, .int .i64 v] 27))
  have HRX := Lib.hid (hr.alloc (.cells #[.int .i64 t, .int .i64 r, .int .i64 q, .slice da dn dc, .int .i64 2, .int .i64 nt, .int .i64 nr, .int .i64 pt, .int .i64 pr, .string s, .int .i64 p, .int .i64 v] 27))
  have hS0 := heldO_mk (w0 := w) (n := w.heap.size) HA0.out.drew HBX.out.drew
  have HSZ : Hid ((w.alloc (.cells #[.int .i64 t, .int .i64 r, .int .i64 q, .slice da dn dc, .int .i64 2, .int .i64 nt, .int .i64 nr, .int .i64 pt, .int .i64 pr, .string s, .int .i64 p, .int .i64 v] 27)).heap.size = g + 1) := (by simp [hg] : (w.alloc (.cells #[.int .i64 t, .int .i64 r, .int .i64 q, .slice da dn dc, .int .i64 2, .int .i64 nt, .int .i64 nr, .int .i64 pt, .int .i64 pr, .string s, .int .i64 p, .int .i64 v] 27)).heap.size = g + 1)
  have HL1 := Lib.hid (St.encS_len (st_pl h1))
  have HL2 := Lib.hid (Hv.encV_len g1)
  clear hr hn h h1 h2 h3 h4 g1 g2 g3 g4 g5
  go_enter Tryd.func41, Tryd.ntmps41
  go_wp2_with fail
  go_region_held3 (fun w' => w'.cell? ⟨g, 0, none⟩ = some (.int .i64 t) ∧ w'.cell? ⟨g, 0 + 1, none⟩ = some (.int .i64 r) ∧ w'.cell? ⟨g, 0 + 2, none⟩ = some (.int .i64 q) ∧ w'.cell? ⟨g, 0 + 3, none⟩ = some (.slice da dn dc) ∧ w'.cell? ⟨g, 0 + 4, none⟩ = some (.int .i64 2) ∧ w'.cell? ⟨g, 0 + 5, none⟩ = some (.int .i64 nt) ∧ w'.cell? ⟨g, 0 + 6, none⟩ = some (.int .i64 nr) ∧ w'.cell? ⟨g, 0 + 7, none⟩ = some (.int .i64 pt) ∧ w'.cell? ⟨g, 0 + 8, none⟩ = some (.int .i64 pr) ∧ w'.cell? ⟨g, 0 + 9, none⟩ = some (.string s) ∧ w'.cell? ⟨g, 0 + 10, none⟩ = some (.int .i64 p) ∧ w'.cell? ⟨g, 0 + 11, none⟩ = some (.int .i64 v) ∧ Hid (Below w.heap.size w w')) (assumption) (first
    | (go_at_call 70
       (with_reducible refine (CS.out _).mono ?_)
       rintro e w1 ⟨v1, rfl, ho1, hb1⟩
       have HB1 := Lib.hid (HBX.out.drew.trans (hb1.mono (by have := HBX.out.size; exact this)))
       have HA1 := Lib.hid (HA0.out.drew.next hb1)
       have hS1 := heldO_mk (w0 := w) (n := w.heap.size) HA1.out HB1.out
       have HO1 : Hid (OwnK .u8 5 w1 (g + 1) v1 (St.encS t r)) := ho1.mono (Nat.le_of_eq HSZ.out.symm)
       have HR1 := Lib.hid (HRX.out.drew.below hb1 (Nat.le_refl _))
       clear ho1 hb1)
    | (go_at_call 40
       (with_reducible refine (CD.out w1 HR1.out).mono ?_)
       rintro e w2 ⟨v2, rfl, ho2, hb2⟩
       have HI1 : Hid (BytI w w2 g t r q da ds dn dc 2 nt nr pt pr s p v v1 (St.encS t r)) := ⟨HA1.out.next hb2, HR1.out.below hb2 (Nat.le_refl _), HO1.out.below hb2, HB1.out.trans (hb2.mono HB1.out.size), Nat.le_of_eq HG.out.symm⟩
       have hS2 := heldO_mk (w0 := w) (n := w.heap.size) HI1.out.at_ HI1.out.bel
       obtain ⟨a2, n2, c2, rfl, hn2, hr2, hc2⟩ := ho2.form'
       have HN2 := Lib.hid hn2
       have HR2 := Lib.hid hr2
       clear ho2 hb2 hn2 hr2 hc2)
    | (refine stepB_row (by rfl) _ _ (by rfl) (g + 1) w2 v1 (St.encS t r) (encL ds) a2 n2 c2 HN2.out (by rfl) HI1.out.own (by rfl) HR2.out (by have h1 := HL1.out; have h2 := HL2.out; have h3 := HN2.out; omega) HI1.out.at_.lt ?_
       intro vb2 wb2 hp3
       have HI2 : Hid (BytI w wb2 g t r q da ds dn dc 2 nt nr pt pr s p v vb2 (preE 2 t r ds 2 nt nr pt pr s p v)) := (by rw [pre2]; exact HI1.out.grew HLT.out hp3 : BytI w wb2 g t r q da ds dn dc 2 nt nr pt pr s p v vb2 (preE 2 t r ds 2 nt nr pt pr s p v))
       have hS3 := heldO_mk (w0 := w) (n := w.heap.size) HI2.out.at_ HI2.out.bel
       clear hp3))
  clear hS0 hS1 hS2 hS3
  obtain ⟨c0, c1, c2', c3, c4, c5, c6, c7, c8, c9', c10, c11⟩ := HI2.out.at_
  have c2 := c2'
  clear c2'
  go_wp2_with fail
  refine (CK.out _).mono ?_
  rintro e wa2 ⟨va2, rfl, ho9, hb9⟩
  have HJ2 := Lib.hid (HI2.out.next hb9)
  obtain ⟨a9, n9, c9, rfl, hn9, hr9, hc9⟩ := ho9.form'
  have HN9 := Lib.hid hn9
  have HR9 := Lib.hid hr9
  clear ho9 hb9 hn9 hr9 hc9 c0 c1 c2 c3 c4 c5 c6 c7 c8 c9' c10 c11
  obtain ⟨c0, c1, c2, c3, c4, c5, c6, c7, c8, c9', c10, c11⟩ := HJ2.out.at_
  have HLn := Lib.hid (preE_len HO.out 2 (by omega))
  have HLp := Lib.hid (prtE_len HO.out 2 (by omega))
  go_wp2_with (at_builtin
               refine wpB_row rfl _ _ rfl (g + 1) wa2 vb2 (preE 2 t r ds 2 nt nr pt pr s p v) (prtE 2 t r ds 2 nt nr pt pr s p v) a9 n9 c9 HN9.out rfl HJ2.out.own rfl HR9.out (by have h1 := HLn.out; have h2 := HLp.out; omega) HJ2.out.at_.lt ?_
               intro vb3 wb3 hp6
               have HI3 := Lib.hid (show BytI w wb3 g t r q da ds dn dc 2 nt nr pt pr s p v vb3 (preE 3 t r ds 2 nt nr pt pr s p v) from by rw [preE_succ]; exact HJ2.out.grew HLT.out hp6)
               clear hp6 HN9 HR9 c0 c1 c2 c3 c4 c5 c6 c7 c8 c9' c10 c11
               obtain ⟨c0, c1, c2, c3, c4, c5, c6, c7, c8, c9', c10, c11⟩ := HI3.out.at_)
  go_wp2_with fail
  refine (CN.out _).mono ?_
  rintro e wa3 ⟨va3, rfl, ho9, hb9⟩
  have HJ3 := Lib.hid (HI3.out.next hb9)
  obtain ⟨a9, n9, c9, rfl, hn9, hr9, hc9⟩ := ho9.form'
  have HN9 := Lib.hid hn9
  have HR9 := Lib.hid hr9
  clear ho9 hb9 hn9 hr9 hc9 c0 c1 c2 c3 c4 c5 c6 c7 c8 c9' c10 c11
  obtain ⟨c0, c1, c2, c3, c4, c5, c6, c7, c8, c9', c10, c11⟩ := HJ3.out.at_
  have HLn := Lib.hid (preE_len HO.out 3 (by omega))
  have HLp := Lib.hid (prtE_len HO.out 3 (by omega))
  go_wp2_with (at_builtin
               refine wpB_row rfl _ _ rfl (g + 1) wa3 vb3 (preE 3 t r ds 2 nt nr pt pr s p v) (prtE 3 t r ds 2 nt nr pt pr s p v) a9 n9 c9 HN9.out rfl HJ3.out.own rfl HR9.out (by have h1 := HLn.out; have h2 := HLp.out; omega) HJ3.out.at_.lt ?_
               intro vb4 wb4 hp6
               have HI4 := Lib.hid (show BytI w wb4 g t r q da ds dn dc 2 nt nr pt pr s p v vb4 (preE 4 t r ds 2 nt nr pt pr s p v) from by rw [preE_succ]; exact HJ3.out.grew HLT.out hp6)
               clear hp6 HN9 HR9 c0 c1 c2 c3 c4 c5 c6 c7 c8 c9' c10 c11
               obtain ⟨c0, c1, c2, c3, c4, c5, c6, c7, c8, c9', c10, c11⟩ := HI4.out.at_)
  go_wp2_with fail
  refine (CP.out _).mono ?_
  rintro e wa4 ⟨va4, rfl, ho9, hb9⟩
  have HJ4 := Lib.hid (HI4.out.next hb9)
  obtain ⟨a9, n9, c9, rfl, hn9, hr9, hc9⟩ := ho9.form'
  have HN9 := Lib.hid hn9
  have HR9 := Lib.hid hr9
  clear ho9 hb9 hn9 hr9 hc9 c0 c1 c2 c3 c4 c5 c6 c7 c8 c9' c10 c11
  obtain ⟨c0, c1, c2, c3, c4, c5, c6, c7, c8, c9', c10, c11⟩ := HJ4.out.at_
  have HLn := Lib.hid (preE_len HO.out 4 (by omega))
  have HLp := Lib.hid (prtE_len HO.out 4 (by omega))
  go_wp2_with (at_builtin
               refine wpB_row rfl _ _ rfl (g + 1) wa4 vb4 (preE 4 t r ds 2 nt nr pt pr s p v) (prtE 4 t r ds 2 nt nr pt pr s p v) a9 n9 c9 HN9.out rfl HJ4.out.own rfl HR9.out (by have h1 := HLn.out; have h2 := HLp.out; omega) HJ4.out.at_.lt ?_
               intro vb5 wb5 hp6
               have HI5 := Lib.hid (show BytI w wb5 g t r q da ds dn dc 2 nt nr pt pr s p v vb5 (preE 5 t r ds 2 nt nr pt pr s p v) from by rw [preE_succ]; exact HJ4.out.grew HLT.out hp6)
               clear hp6 HN9 HR9 c0 c1 c2 c3 c4 c5 c6 c7 c8 c9' c10 c11
               obtain ⟨c0, c1, c2, c3, c4, c5, c6, c7, c8, c9', c10, c11⟩ := HI5.out.at_)
  go_wp2_with fail
  refine (CX.out _).mono ?_
  rintro e wa5 ⟨va5, rfl, ho9, hb9⟩
  have HJ5 := Lib.hid (HI5.out.next hb9)
  obtain ⟨a9, n9, c9, rfl, hn9, hr9, hc9⟩ := ho9.form'
  have HN9 := Lib.hid hn9
  have HR9 := Lib.hid hr9
  clear ho9 hb9 hn9 hr9 hc9 c0 c1 c2 c3 c4 c5 c6 c7 c8 c9' c10 c11
  obtain ⟨c0, c1, c2, c3, c4, c5, c6, c7, c8, c9', c10, c11⟩ := HJ5.out.at_
  have HLn := Lib.hid (preE_len HO.out 5 (by omega))
  have HLp := Lib.hid (prtE_len HO.out 5 (by omega))
  go_wp2_with (at_builtin
               refine wpB_row rfl _ _ rfl (g + 1) wa5 vb5 (preE 5 t r ds 2 nt nr pt pr s p v) (prtE 5 t r ds 2 nt nr pt pr s p v) a9 n9 c9 HN9.out rfl HJ5.out.own rfl HR9.out (by have h1 := HLn.out; have h2 := HLp.out; omega) HJ5.out.at_.lt ?_
               intro vb6 wb6 hp6
               have HI6 := Lib.hid (show BytI w wb6 g t r q da ds dn dc 2 nt nr pt pr s p v vb6 (preE 6 t r ds 2 nt nr pt pr s p v) from by rw [preE_succ]; exact HJ5.out.grew HLT.out hp6)
               clear hp6 HN9 HR9 c0 c1 c2 c3 c4 c5 c6 c7 c8 c9' c10 c11
               skip)
  go_wp2
  go_ret
  exact ⟨_, rfl, HI6.out.own.mono (by rw [← HG.out]; exact Nat.le_succ g), HI6.out.bel⟩

theorem refOpBytes_any (t r q : Int) (da : Option Addr) (ds : List Int) (dn dc : Nat) (k nt nr pt pr : Int) (s : ByteArray) (p v : Int) (w : World) (hr : RowK .i64 w da ds) (hn : dn = ds.length) (h : opB t r q ds k nt nr pt pr s p v = true) : Calls Tryd.prog 41 #[.agg #[.int .i64 t, .int .i64 r, .int .i64 q, .slice da dn dc, .int .i64 k, .int .i64 nt, .int .i64 nr, .int .i64 pt, .int .i64 pr, .string s, .int .i64 p, .int .i64 v]] w (AppPost w.heap.size w (encO t r ds k nt nr pt pr s p v)) := by
  rcases kndB_parts (opB_parts h).2.2.2 with ⟨hk, _⟩ | ⟨hk, _⟩
  · exact refOpBytes1 t r q da ds dn dc k nt nr pt pr s p v w hr hn hk h
  · exact refOpBytes2 t r q da ds dn dc k nt nr pt pr s p v w hr hn hk h
end Go.Proofs.YtfhppfbmnnkikaaDoor

/- The page's taker: a number, a stamp. -/
namespace Go.Proofs.YtfhppfbmnnkikaaDoor
open Go.RowKit Go.Lib
set_option linter.unusedVariables false

theorem Blk.grown {w w' : World} {g : Nat} {v : Value} {vs : List Value} {row : Option Nat} (h : Blk w g (v :: vs)) (hg : w.grownBy w' row) (hne : some g ≠ row) : Blk w' g (v :: vs) :=
  ⟨fun i u hi => hg.cell (h.cell i u hi) hne, fun i u hi => (World.frozen?_of_block (w := w) (w' := w') (hg.block g h.lt hne)).trans (h.free i u hi)⟩
theorem bel_grown {w w' : World} (hb : Below w.heap.size w w') (row : Option Nat) : w.grownBy w' row := ⟨hb.os, hb.tape, hb.output, hb.size, fun k hk _ => hb.block k hk⟩
theorem grown_drew (w : World) (row : Option Nat) : w.grownBy w.drew row := bel_grown (Below.refl _ w).drew row
theorem grown_set {w w' : World} {g : Nat} (h : w.grownBy w' (some g)) (i : Nat) (u : Value) : w.grownBy (w'.setCell ⟨g, i, none⟩ u) (some g) := h.trans (grown_setCell w' ⟨g, i, none⟩ u)
theorem refTakeNum_n (a : Option Addr) (bs : List Int) (n cap : Nat) (w : World) (hn : n = bs.length) (hr : RowK .u8 w a bs) (hb : IsB bs) : Calls Tryd.prog 78 #[.slice a n cap] w (TakePost bs w) := by subst hn; exact refTakeNum_any a bs cap w hr hb
/-- the page's taker -/
def tkrV (a : Option Addr) (n cap : Nat) (z x : Int) : List Value := [.slice a n cap, .int .i64 z, .int .i64 x]
def NumT (h : Nat) (a : Option Addr) (n cap : Nat) (y z x : Int) (w : World) (e : Ending) (w' : World) : Prop := e = .returned (.int .i64 y) ∧ Blk w' h (tkrV a n cap z x) ∧ w.grownBy w' (some h)
def StT (h : Nat) (a : Option Addr) (n cap : Nat) (y1 y2 z x : Int) (w : World) (e : Ending) (w' : World) : Prop := e = .returned (.agg #[.int .i64 y1, .int .i64 y2]) ∧ Blk w' h (tkrV a n cap z x) ∧ w.grownBy w' (some h)

set_option maxHeartbeats 1000000 in
theorem tnum_off (h : Nat) (a : Option Addr) (n cap : Nat) (z x : Int) (w : World) (hB : Blk w h (tkrV a n cap z x)) (hx : x ≠ 0) : Calls Tryd.prog 52 #[.pointer (some ⟨h, 0, none⟩)] w (NumT h a n cap 0 z x w) := by
  have HB := Lib.hid hB
  have e2 : w.cell? ⟨h, 2, none⟩ = some (.int .i64 x) := hB.cell 2 _ rfl
  have hx' : (x == 0) = false := by simpa using hx
  clear hB
  go_enter Tryd.func52, Tryd.ntmps52
  go_wp2
  go_ret
  exact ⟨rfl, HB.out, World.grownBy.refl _ _⟩
set_option maxHeartbeats 1000000 in
theorem tstamp_off (h : Nat) (a : Option Addr) (n cap : Nat) (z x : Int) (w : World) (hB : Blk w h (tkrV a n cap z x)) (hx : x ≠ 0) : Calls Tryd.prog 80 #[.pointer (some ⟨h, 0, none⟩)] w (StT h a n cap 0 0 z x w) := by
  have HB1 := Lib.hid (hB.next (box_bel w (.cells #[.int .i64 0, .int .i64 0] 24)))
  have hlt := hB.lt
  have e2 : w.cell? ⟨h, 2, none⟩ = some (.int .i64 x) := hB.cell 2 _ rfl
  have hx' : (x == 0) = false := by simpa using hx
  have hb0 := St.st_build0
  clear hB
  go_enter Tryd.func80, Tryd.ntmps80
  go_wp2
  refine bodyPost_ret (v := .agg #[.int .i64 0, .int .i64 0]) (by simp [results, Tryd.results80, go_sem]) rfl ?_
  exact ⟨rfl, HB1.out, bel_grown (box_bel w _) _⟩

set_option maxHeartbeats 2000000 in
theorem tnum_on (h : Nat) (a : Option Addr) (bs : List Int) (n cap kk : Nat) (w : World) (hB : Blk w h (tkrV a n cap (kk : Int) 0)) (hn : n = bs.length) (hr : RowK .u8 w a bs) (hb : IsB bs) (hcap : bs.length ≤ cap) (hlen : bs.length ≤ 140737488355328) (hk : kk ≤ bs.length) {y : Int} {k' : Nat} {x : Int} (hs : tkN (bs.drop kk) = (y, k', x)) : Calls Tryd.prog 52 #[.pointer (some ⟨h, 0, none⟩)] w (NumT h a n cap y ((kk + k' : Nat) : Int) x w) := by
  have HB := Lib.hid hB
  have hk' : k' ≤ bs.length - kk := by have := (tkN_k (bs.drop kk) (hb.drop kk)).1; rw [hs, List.length_drop] at this; exact this
  have e0 : w.cell? ⟨h, 0, none⟩ = some (.slice a n cap) := hB.cell 0 _ rfl
  have e1 : w.cell? ⟨h, 1, none⟩ = some (.int .i64 (kk : Int)) := hB.cell 1 _ rfl
  have e2 : w.cell? ⟨h, 2, none⟩ = some (.int .i64 0) := hB.cell 2 _ rfl
  have f1 : w.frozen? ⟨h, 1, none⟩ = false := hB.free 1 _ rfl
  have f2 : w.frozen? ⟨h, 2, none⟩ = false := hB.free 2 _ rfl
  have hS0 : w.drew.cell? ⟨h, 0, none⟩ = some (.slice a n cap) ∧ w.drew.cell? ⟨h, 1, none⟩ = some (.int .i64 (kk : Int)) := ⟨e0, e1⟩
  have hsl := fun W => slice_l W a n cap kk (kk : Int) rfl (by omega)
  have C := Lib.hid (fun (W : World) (hr : RowK .u8 W a bs) => refTakeNum_n (partA a kk cap) (bs.drop kk) (n - kk) (cap - kk) W (by rw [List.length_drop, hn]) (hr.rest kk cap hcap) (hb.drop kk))
  unfold TakePost at C
  rw [hs] at C
  have HC := Lib.hid (C.out w.drew hr.drew)
  have hbd : (kk : Int) + (k' : Int) ≤ 140737488355328 := by omega
  have hk2 : kk ≤ n := by omega
  clear hB C hr hb hs hn hcap hlen hk hk'
  go_enter Tryd.func52, Tryd.ntmps52
  go_wp2_with fail
  go_region_held3 (fun w' => w'.cell? ⟨h, 0, none⟩ = some (.slice a n cap) ∧ w'.cell? ⟨h, 1, none⟩ = some (.int .i64 (kk : Int))) (assumption) (first
    | (go_at_call 78
       (with_reducible refine (HC.out).mono ?_)
       rintro e w8 ⟨rfl, rfl⟩))
  go_wp2
  go_ret
  exact ⟨rfl, (HB.out.drew.set 1 _).set 2 _, grown_set (grown_set (grown_drew w _) _ _) _ _⟩
end Go.Proofs.YtfhppfbmnnkikaaDoor

/- The page's taker: a stamp. -/
namespace Go.Proofs.YtfhppfbmnnkikaaDoor
open Go.RowKit Go.Lib
set_option linter.unusedVariables false

theorem heldT_next {w0 w1 w2 : World} {h : Nat} {u v : Value} (hS : w1.cell? ⟨h, 0, none⟩ = some u ∧ w1.cell? ⟨h, 1, none⟩ = some v ∧ Hid (Below w0.heap.size w0 w1)) (hb : Below w1.heap.size w1 w2) : w2.cell? ⟨h, 0, none⟩ = some u ∧ w2.cell? ⟨h, 1, none⟩ = some v ∧ Hid (Below w0.heap.size w0 w2) := by
  have hl := World.block_lt_of_cell? _ _ hS.1
  exact ⟨(hb.cell (p := ⟨h, 0, none⟩) hl).trans hS.1, (hb.cell (p := ⟨h, 1, none⟩) hl).trans hS.2.1, Lib.hid (hS.2.2.out.trans (hb.mono hS.2.2.out.size))⟩
theorem heldT_alloc {w0 w1 : World} {h : Nat} {u v : Value} (hS : w1.cell? ⟨h, 0, none⟩ = some u ∧ w1.cell? ⟨h, 1, none⟩ = some v ∧ Hid (Below w0.heap.size w0 w1)) (o : Obj) : (w1.alloc o).cell? ⟨h, 0, none⟩ = some u ∧ (w1.alloc o).cell? ⟨h, 1, none⟩ = some v ∧ Hid (Below w0.heap.size w0 (w1.alloc o)) := heldT_next hS (box_bel w1 o)

theorem heldT_set2 {w0 w1 : World} {h : Nat} {u v : Value} (hS : w1.cell? ⟨h, 0, none⟩ = some u ∧ w1.cell? ⟨h, 1, none⟩ = some v ∧ Hid (Below w0.heap.size w0 w1)) {b : Nat} (hne : b ≠ h) (hb : w0.heap.size ≤ b) (x y : Value) : ((w1.setCell ⟨b, 0, none⟩ x).setCell ⟨b, 1, none⟩ y).cell? ⟨h, 0, none⟩ = some u ∧ ((w1.setCell ⟨b, 0, none⟩ x).setCell ⟨b, 1, none⟩ y).cell? ⟨h, 1, none⟩ = some v ∧ Hid (Below w0.heap.size w0 ((w1.setCell ⟨b, 0, none⟩ x).setCell ⟨b, 1, none⟩ y)) := by
  refine ⟨?_, ?_, Lib.hid ((hS.2.2.out.setCell (p := ⟨b, 0, none⟩) hb x).setCell (p := ⟨b, 1, none⟩) hb y)⟩
  · rw [World.cell?_setCell_far _ _ _ _ (by simpa using hne), World.cell?_setCell_far _ _ _ _ (by simpa using hne)]; exact hS.1
  · rw [World.cell?_setCell_far _ _ _ _ (by simpa using hne), World.cell?_setCell_far _ _ _ _ (by simpa using hne)]; exact hS.2.1
theorem blk2_new (W : World) (x y : Int) : Blk (W.alloc (.cells #[.int .i64 x, .int .i64 y] 24)) W.heap.size [.int .i64 x, .int .i64 y] := by
  constructor
  · intro i u hi
    match i, hi with
    | 0, hi | 1, hi => simp at hi; subst hi; simp
    | _ + 2, hi => simp at hi
  · intro i u hi
    match i, hi with
    | 0, hi | 1, hi => simp
    | _ + 2, hi => simp at hi
theorem blk2_after {W w8 : World} {x y : Int} (hb : Below (W.alloc (.cells #[.int .i64 x, .int .i64 y] 24)).drew.heap.size (W.alloc (.cells #[.int .i64 x, .int .i64 y] 24)).drew w8) : Blk w8 W.heap.size [.int .i64 x, .int .i64 y] := (blk2_new W x y).drew.next hb
theorem blk2_after2 {W w8 : World} {x y x' y' : Int} (hb : Below ((W.alloc (.cells #[.int .i64 x, .int .i64 y] 24)).alloc (.cells #[.int .i64 x', .int .i64 y'] 24)).drew.heap.size ((W.alloc (.cells #[.int .i64 x, .int .i64 y] 24)).alloc (.cells #[.int .i64 x', .int .i64 y'] 24)).drew w8) : Blk w8 W.heap.size [.int .i64 x, .int .i64 y] := ((blk2_new W x y).next (box_bel _ _)).drew.next hb
theorem grown_at {w w' : World} {row : Option Nat} {b : Nat} (h : w.grownBy w' row) (hb : w.heap.size ≤ b) (i : Nat) (u : Value) : w.grownBy (w'.setCell ⟨b, i, none⟩ u) row :=
  ⟨h.os, h.tape, h.output, Nat.le_trans h.size (by simp [World.setCell]), fun k hk hne => (Below.heap_setCell _ _ _ k (by intro e; simp at e; omega)).trans (h.block k hk hne)⟩
structure StI (w W2 : World) (h b : Nat) (a : Option Addr) (n cap kk : Nat) (y1 y2 : Int) : Prop where
  s : Blk W2 b [.int .i64 y1, .int .i64 y2]
  t : Blk W2 h (tkrV a n cap (kk : Int) 0)
  r : Blk W2 w.heap.size [.int .i64 0, .int .i64 0]
  bel : Below w.heap.size w W2
  ne1 : b ≠ h
  ne2 : b ≠ w.heap.size
set_option maxHeartbeats 2000000 in
theorem tstamp_on (h : Nat) (a : Option Addr) (bs : List Int) (n cap kk : Nat) (w : World) (hB : Blk w h (tkrV a n cap (kk : Int) 0)) (hn : n = bs.length) (hr : RowK .u8 w a bs) (hb : IsB bs) (hcap : bs.length ≤ cap) (hlen : bs.length ≤ 140737488355328) (hk : kk ≤ bs.length) {y1 y2 : Int} {k' : Nat} {x : Int} (hs : St.tkSt (bs.drop kk) = (y1, y2, k', x)) : Calls Tryd.prog 80 #[.pointer (some ⟨h, 0, none⟩)] w (StT h a n cap y1 y2 ((kk + k' : Nat) : Int) x w) := by
  have HB := Lib.hid hB
  have mixed : Tryd.prog.follows .mixedOrders = true := by kernel_rfl
  have hk' : k' ≤ bs.length - kk := by have := tkSt_k (bs.drop kk) (hb.drop kk); rw [hs, List.length_drop] at this; exact this
  have e0 : w.cell? ⟨h, 0, none⟩ = some (.slice a n cap) := hB.cell 0 _ rfl
  have e1 : w.cell? ⟨h, 1, none⟩ = some (.int .i64 (kk : Int)) := hB.cell 1 _ rfl
  have e2 : w.cell? ⟨h, 2, none⟩ = some (.int .i64 0) := hB.cell 2 _ rfl
  have f1 : w.frozen? ⟨h, 1, none⟩ = false := hB.free 1 _ rfl
  have f2 : w.frozen? ⟨h, 2, none⟩ = false := hB.free 2 _ rfl
  have hlt := hB.lt
  have hS0 : (w.alloc (.cells #[.int .i64 0, .int .i64 0] 24)).drew.cell? ⟨h, 0, none⟩ = some (.slice a n cap) ∧ (w.alloc (.cells #[.int .i64 0, .int .i64 0] 24)).drew.cell? ⟨h, 1, none⟩ = some (.int .i64 (kk : Int)) ∧ Hid (Below w.heap.size w (w.alloc (.cells #[.int .i64 0, .int .i64 0] 24)).drew) := heldT_next (w0 := w) (w1 := w) ⟨e0, e1, Lib.hid (Below.refl _ _)⟩ (box_bel w _).drew
  have hsl := fun W => slice_l W a n cap kk (kk : Int) rfl (by omega)
  have C := Lib.hid (fun (W : World) (hS : W.cell? ⟨h, 0, none⟩ = some (.slice a n cap) ∧ W.cell? ⟨h, 1, none⟩ = some (.int .i64 (kk : Int)) ∧ Hid (Below w.heap.size w W)) => St.refTake_is (partA a kk cap) (bs.drop kk) (n - kk) (cap - kk) W (by rw [List.length_drop, hn]) ((hr.below hS.2.2.out (Nat.le_refl _)).rest kk cap hcap) (hb.drop kk) (by rw [List.length_drop]; omega) (by rw [List.length_drop]; omega) hs)
  have hbd : (kk : Int) + (k' : Int) ≤ 140737488355328 := by omega
  have hk2 : kk ≤ n := by omega
  clear hB hr hb hs hn hcap hlen hk hk'
  go_enter Tryd.func80, Tryd.ntmps80
  go_wp2_with fail
  go_region_held3 (fun w' => w'.cell? ⟨h, 0, none⟩ = some (.slice a n cap) ∧ w'.cell? ⟨h, 1, none⟩ = some (.int .i64 (kk : Int)) ∧ Hid (Below w.heap.size w w')) (first | assumption | exact heldT_alloc (by assumption) _ | exact heldT_set2 (by assumption) (by omega) (by omega) _ _) (first
    | (go_at_call 99
       (with_reducible refine (C.out _ (by assumption)).mono ?_)
       rintro e w8 ⟨rfl, hb8⟩
       have hS1 := heldT_next (w0 := w) (by assumption) hb8
       have hsz := hS1.2.2.out.size
       have HB8 := Lib.hid (HB.out.next hS1.2.2.out)
       first
         | (with_reducible have q := blk2_after (W := w.alloc (.cells #[.int .i64 0, .int .i64 0] 24)) hb8
            have q' : Blk w8 (w.heap.size + 1) [.int .i64 0, .int .i64 0] := by simpa using q
            have q0 := q'.cell 0 _ rfl
            have q1 := q'.cell 1 _ rfl
            have q2 := q'.free 0 _ rfl
            have q3 := q'.free 1 _ rfl
            have HQ := Lib.hid q'
            have HR8 := Lib.hid (blk2_after2 hb8)
            clear q q')
         | have HR8 := Lib.hid (blk2_after (W := w) hb8)))
  · have HI : Hid (StI w (w8.alloc (.cells #[.int .i64 y1, .int .i64 y2] 24)) h (w8.heap.size) a n cap kk y1 y2) := ⟨blk2_new w8 y1 y2, HB8.out.next (box_bel w8 _), HR8.out.next (box_bel w8 _), hS1.2.2.out.trans ((box_bel w8 _).mono hsz), by have := HB8.out.lt; omega, by have := HR8.out.lt; omega⟩
    generalize w8.alloc (.cells #[.int .i64 y1, .int .i64 y2] 24) = W2 at *
    generalize w8.heap.size = b at *
    clear e0 e1 e2 f1 f2 hS0 hS1
    have e1 := HI.out.t.cell 1 _ rfl
    have e2 := HI.out.t.cell 2 _ rfl
    have f1 := HI.out.t.free 1 _ rfl
    have f2 := HI.out.t.free 2 _ rfl
    have s0 := HI.out.s.cell 0 _ rfl
    have s1 := HI.out.s.cell 1 _ rfl
    have r0 := HI.out.r.cell 0 _ rfl
    have r1 := HI.out.r.cell 1 _ rfl
    have r2 := HI.out.r.free 0 _ rfl
    have r3 := HI.out.r.free 1 _ rfl
    have n1 := HI.out.ne1
    have n2 := HI.out.ne2
    have n3 : w.heap.size ≠ h := by omega
    have n1' := Ne.symm n1
    have n2' := Ne.symm n2
    have n3' := Ne.symm n3
    go_wp2
    have HZ := (((HI.out.r.other (b := h) n3' 1 (.int .i64 ((kk + k' : Nat) : Int))).other (b := h) n3' 2 (.int .i64 x)).set 0 (.int .i64 y1)).set 1 (.int .i64 y2)
    have z0 := HZ.cell 0 _ rfl
    have z1 := HZ.cell 1 _ rfl
    simp only [Int.natCast_add] at z0 z1
    refine bodyPost_ret (v := .agg #[.int .i64 y1, .int .i64 y2]) (by simp [results, Tryd.results80, go_sem, z0, z1]) rfl ?_
    exact ⟨rfl, (((HI.out.t.set 1 _).set 2 _).other n3 _ _).other n3 _ _, grown_at (grown_at (grown_set (grown_set (bel_grown HI.out.bel _) _ _) _ _) (Nat.le_refl _) _ _) (Nat.le_refl _) _ _⟩
  · have HI : Hid (StI w ((w8.setCell ⟨w.heap.size + 1, 0, none⟩ (.int .i64 y1)).setCell ⟨w.heap.size + 1, 1, none⟩ (.int .i64 y2)) h (w.heap.size + 1) a n cap kk y1 y2) := ⟨(HQ.out.set 0 _).set 1 _, (HB8.out.other (by omega) _ _).other (by omega) _ _, (HR8.out.other (by omega) _ _).other (by omega) _ _, (hS1.2.2.out.setCell (p := ⟨w.heap.size + 1, 0, none⟩) (Nat.le_succ _) _).setCell (p := ⟨w.heap.size + 1, 1, none⟩) (Nat.le_succ _) _, by omega, by omega⟩
    generalize (w8.setCell ⟨w.heap.size + 1, 0, none⟩ (.int .i64 y1)).setCell ⟨w.heap.size + 1, 1, none⟩ (.int .i64 y2) = W2 at *
    generalize w.heap.size + 1 = b at *
    clear q0 q1 q2 q3 e0 e1 e2 f1 f2 hS0 hS1
    have e1 := HI.out.t.cell 1 _ rfl
    have e2 := HI.out.t.cell 2 _ rfl
    have f1 := HI.out.t.free 1 _ rfl
    have f2 := HI.out.t.free 2 _ rfl
    have s0 := HI.out.s.cell 0 _ rfl
    have s1 := HI.out.s.cell 1 _ rfl
    have r0 := HI.out.r.cell 0 _ rfl
    have r1 := HI.out.r.cell 1 _ rfl
    have r2 := HI.out.r.free 0 _ rfl
    have r3 := HI.out.r.free 1 _ rfl
    have n1 := HI.out.ne1
    have n2 := HI.out.ne2
    have n3 : w.heap.size ≠ h := by omega
    have n1' := Ne.symm n1
    have n2' := Ne.symm n2
    have n3' := Ne.symm n3
    go_wp2
    have HZ := (((HI.out.r.other (b := h) n3' 1 (.int .i64 ((kk + k' : Nat) : Int))).other (b := h) n3' 2 (.int .i64 x)).set 0 (.int .i64 y1)).set 1 (.int .i64 y2)
    have z0 := HZ.cell 0 _ rfl
    have z1 := HZ.cell 1 _ rfl
    simp only [Int.natCast_add] at z0 z1
    refine bodyPost_ret (v := .agg #[.int .i64 y1, .int .i64 y2]) (by simp [results, Tryd.results80, go_sem, z0, z1]) rfl ?_
    exact ⟨rfl, (((HI.out.t.set 1 _).set 2 _).other n3 _ _).other n3 _ _, grown_at (grown_at (grown_set (grown_set (bel_grown HI.out.bel _) _ _) _ _) (Nat.le_refl _) _ _) (Nat.le_refl _) _ _⟩
end Go.Proofs.YtfhppfbmnnkikaaDoor

/- The page's Take: words. -/
namespace Go.Proofs.YtfhppfbmnnkikaaDoor
open Go.RowKit Go.Lib
set_option linter.unusedVariables false

theorem tk_build (a : Option Addr) (n cap : Nat) (w : World) : (Instr.build 85 #[(0, .slice a n cap)]).run Tryd.prog w = .ok (.agg #[.slice a n cap, .int .i64 0, .int .i64 0]) w := run_build w 85 _ _ (by kernel_rfl)
theorem op_build1 (t r : Int) (w : World) : (Instr.build 27 #[(0, .agg #[.int .i64 t, .int .i64 r])]).run Tryd.prog w = .ok (.agg #[.int .i64 t, .int .i64 r, .int .i64 0, .slice none 0 0, .int .i64 0, .int .i64 0, .int .i64 0, .int .i64 0, .int .i64 0, .string ⟨#[]⟩, .int .i64 0, .int .i64 0]) w := run_build w 27 _ _ (by kernel_rfl)
theorem blk12_new (w : World) (t r : Int) : Blk (w.alloc (.cells #[.int .i64 t, .int .i64 r, .int .i64 0, .slice none 0 0, .int .i64 0, .int .i64 0, .int .i64 0, .int .i64 0, .int .i64 0, .string ⟨#[]⟩, .int .i64 0, .int .i64 0] 27)) w.heap.size ({ zR with t := t, r := r }.cells 0 (.slice none 0 0)) := by
  constructor
  · intro i u hi
    match i, hi with
    | 0, hi | 1, hi | 2, hi | 3, hi | 4, hi | 5, hi | 6, hi | 7, hi | 8, hi | 9, hi | 10, hi | 11, hi => simp [OpR.cells, zR] at hi; subst hi; simp
    | _ + 12, hi => simp [OpR.cells] at hi
  · intro i u hi
    match i, hi with
    | 0, hi | 1, hi | 2, hi | 3, hi | 4, hi | 5, hi | 6, hi | 7, hi | 8, hi | 9, hi | 10, hi | 11, hi => simp
    | _ + 12, hi => simp [OpR.cells] at hi
theorem blk3_new (w : World) (a : Option Addr) (n cap : Nat) : Blk (w.alloc (.cells #[.slice a n cap, .int .i64 0, .int .i64 0] 85)) w.heap.size (tkrV a n cap 0 0) := by
  constructor
  · intro i u hi
    match i, hi with
    | 0, hi | 1, hi | 2, hi => simp [tkrV] at hi; subst hi; simp
    | _ + 3, hi => simp [tkrV] at hi
  · intro i u hi
    match i, hi with
    | 0, hi | 1, hi | 2, hi => simp
    | _ + 3, hi => simp [tkrV] at hi
theorem bel_grownBy {B h : Nat} {w W W' : World} (hb : Below B w W) (hg : W.grownBy W' (some h)) (hB : B ≤ h) (hs : B ≤ W.heap.size) : Below B w W' :=
  ⟨hg.os.trans hb.os, hg.tape.trans hb.tape, hg.output.trans hb.output, Nat.le_trans hb.size hg.size, fun k hk => (hg.block k (by omega) (by intro e; cases e; omega)).trans (hb.block k hk)⟩
/-- what the page's Take keeps -/
structure PI (w W : World) (h b : Nat) (a : Option Addr) (n cap : Nat) (z x : Int) (R : OpR) (q : Int) (da : Option Addr) (dn dc : Nat) : Prop where
  rz : Blk W w.heap.size (zR.cells 0 (.slice none 0 0))
  t : Blk W h (tkrV a n cap z x)
  o : Blk W b (R.cells q (.slice da dn dc))
  d : OwnK .i64 3 W (b + 1) (.slice da dn dc) R.ds
  bel : Below w.heap.size w W
  hh : w.heap.size < h
  hb : h < b
section
variable {w W W' : World} {h b : Nat} {a : Option Addr} {n cap : Nat} {z x : Int} {R : OpR} {q : Int} {da : Option Addr} {dn dc : Nat}
theorem PI.size (p : PI w W h b a n cap z x R q da dn dc) : b < W.heap.size := p.o.lt
theorem PI.grown (p : PI w W h b a n cap z x R q da dn dc) {z' x' : Int} (hg : W.grownBy W' (some h)) (ht : Blk W' h (tkrV a n cap z' x')) : PI w W' h b a n cap z' x' R q da dn dc := by
  have h1 := p.hh
  have h2 := p.hb
  have h3 := p.rz.lt
  refine ⟨p.rz.grown hg (by intro e; cases e; omega), ht, p.o.grown hg (by intro e; cases e; omega), p.d.grown hg ?_, bel_grownBy p.bel hg (by omega) (by omega), h1, h2⟩
  by_cases hn : (Value.slice da dn dc).ownBlock = some h
  · have := (p.d.lt hn).1
    omega
  · exact .inr hn
theorem PI.next (p : PI w W h b a n cap z x R q da dn dc) (hb : Below W.heap.size W W') : PI w W' h b a n cap z x R q da dn dc :=
  ⟨p.rz.next hb, p.t.next hb, p.o.next hb, p.d.below hb, p.bel.trans (hb.mono p.bel.size), p.hh, p.hb⟩
theorem PI.drew (p : PI w W h b a n cap z x R q da dn dc) : PI w W.drew h b a n cap z x R q da dn dc := p.next (Below.refl _ W).drew
theorem PI.put (p : PI w W h b a n cap z x R q da dn dc) (i : Nat) (u : Value) {R' : OpR} {q' : Int} (hc : (R.cells q (.slice da dn dc)).set i u = R'.cells q' (.slice da dn dc)) (hd : R'.ds = R.ds) : PI w (W.setCell ⟨b, i, none⟩ u) h b a n cap z x R' q' da dn dc := by
  have h1 := p.hh
  have h2 := p.hb
  exact ⟨p.rz.other (by omega) _ _, p.t.other (by omega) _ _, hc ▸ p.o.set i u, hd ▸ p.d.far (Nat.lt_succ_self b) _ _, p.bel.setCell (p := ⟨b, i, none⟩) (by simp; omega) _, h1, h2⟩
theorem PI.put2 (p : PI w W h b a n cap z x R q da dn dc) (i j : Nat) (u v : Value) {R' : OpR} {q' : Int} (hc : ((R.cells q (.slice da dn dc)).set i u).set j v = R'.cells q' (.slice da dn dc)) (hd : R'.ds = R.ds) : PI w ((W.setCell ⟨b, i, none⟩ u).setCell ⟨b, j, none⟩ v) h b a n cap z x R' q' da dn dc := by
  have h1 := p.hh
  have h2 := p.hb
  exact ⟨(p.rz.other (by omega) _ _).other (by omega) _ _, (p.t.other (by omega) _ _).other (by omega) _ _, hc ▸ (p.o.set i u).set j v, hd ▸ (p.d.far (Nat.lt_succ_self b) _ _).far (Nat.lt_succ_self b) _ _, (p.bel.setCell (p := ⟨b, i, none⟩) (by simp; omega) _).setCell (p := ⟨b, j, none⟩) (by simp; omega) _, h1, h2⟩
theorem PI.putD (p : PI w W h b a n cap z x R q da dn dc) {da' : Option Addr} {dn' dc' : Nat} {ds' : List Int} (ho : OwnK .i64 3 W (b + 1) (.slice da' dn' dc') ds') : PI w (W.setCell ⟨b, 3, none⟩ (.slice da' dn' dc')) h b a n cap z x { R with ds := ds' } q da' dn' dc' := by
  have h1 := p.hh
  have h2 := p.hb
  exact ⟨p.rz.other (by omega) _ _, p.t.other (by omega) _ _, p.o.set 3 _, ho.far (Nat.lt_succ_self b) _ _, p.bel.setCell (p := ⟨b, 3, none⟩) (by simp; omega) _, h1, h2⟩
theorem PI.setT (p : PI w W h b a n cap z x R q da dn dc) (z' x' : Int) : PI w ((W.setCell ⟨h, 1, none⟩ (.int .i64 z')).setCell ⟨h, 2, none⟩ (.int .i64 x')) h b a n cap z' x' R q da dn dc := by
  have h1 := p.hh
  have h2 := p.hb
  exact ⟨(p.rz.other (by omega) _ _).other (by omega) _ _, (p.t.set 1 _).set 2 _, (p.o.other (by omega) _ _).other (by omega) _ _, (p.d.far (by omega) _ _).far (by omega) _ _, (p.bel.setCell (p := ⟨h, 1, none⟩) (by simp; omega) _).setCell (p := ⟨h, 2, none⟩) (by simp; omega) _, h1, h2⟩
theorem PI.setE (p : PI w W h b a n cap z x R q da dn dc) (x' : Int) : PI w (W.setCell ⟨h, 2, none⟩ (.int .i64 x')) h b a n cap z x' R q da dn dc := by
  have h1 := p.hh
  have h2 := p.hb
  exact ⟨p.rz.other (by omega) _ _, p.t.set 2 _, p.o.other (by omega) _ _, p.d.far (by omega) _ _, p.bel.setCell (p := ⟨h, 2, none⟩) (by simp; omega) _, h1, h2⟩
/-- behind the first stamp -/
theorem PI.first {t r : Int} {w1 : World} (hh : w.heap.size + 1 = h) (hbb : w1.heap.size = b) (ht : Blk w1 h (tkrV a n cap z x)) (hg : ((w.alloc (.cells #[.int .i64 0, .int .i64 0, .int .i64 0, .slice none 0 0, .int .i64 0, .int .i64 0, .int .i64 0, .int .i64 0, .int .i64 0, .string ⟨#[]⟩, .int .i64 0, .int .i64 0] 27)).alloc (.cells #[.slice a n cap, .int .i64 0, .int .i64 0] 85)).grownBy w1 (some h)) :
    PI w (w1.alloc (.cells #[.int .i64 t, .int .i64 r, .int .i64 0, .slice none 0 0, .int .i64 0, .int .i64 0, .int .i64 0, .int .i64 0, .int .i64 0, .string ⟨#[]⟩, .int .i64 0, .int .i64 0] 27)) h b a n cap z x { zR with t := t, r := r } 0 none 0 0 := by
  subst hh hbb
  have hz := ((blk_new w).next (box_bel _ (.cells #[.slice a n cap, .int .i64 0, .int .i64 0] 85))).grown hg (by intro e; simp at e)
  have hl := ht.lt
  refine ⟨hz.next (box_bel w1 _), ht.next (box_bel w1 _), blk12_new w1 t r, OwnK.nil _ _ _ _, ?_, by omega, hl⟩
  exact (bel_grownBy (St.below2 w _ _) hg (by omega) (by simp; omega)).trans ((box_bel w1 _).mono (by omega))
theorem tkr_new (w : World) (a : Option Addr) (n cap : Nat) (o : Obj) (hh : w.heap.size + 1 = h) : Blk ((w.alloc o).alloc (.cells #[.slice a n cap, .int .i64 0, .int .i64 0] 85)) h (tkrV a n cap 0 0) := by
  have := blk3_new (w.alloc o) a n cap
  rw [World.size_alloc, hh] at this
  exact this
end
theorem far12 {W : World} {g h i : Nat} {v : Value} (hne : g ≠ h) (hc : W.cell? ⟨h, i, none⟩ = some v) (u0 u1 u2 u3 u4 u5 u6 u7 u8 u9 u10 u11 : Value) : ((((((((((((W.setCell ⟨g, 0, none⟩ u0).setCell ⟨g, 1, none⟩ u1).setCell ⟨g, 2, none⟩ u2).setCell ⟨g, 3, none⟩ u3).setCell ⟨g, 4, none⟩ u4).setCell ⟨g, 5, none⟩ u5).setCell ⟨g, 6, none⟩ u6).setCell ⟨g, 7, none⟩ u7).setCell ⟨g, 8, none⟩ u8).setCell ⟨g, 9, none⟩ u9).setCell ⟨g, 10, none⟩ u10).setCell ⟨g, 11, none⟩ u11).cell? ⟨h, i, none⟩ = some v := by
  simp only [World.cell?_setCell_far _ ⟨g, _, none⟩ ⟨h, i, none⟩ _ hne]
  exact hc
theorem far12d {W : World} {g h i : Nat} {v : Value} (hne : g ≠ h) (hc : W.drew.cell? ⟨h, i, none⟩ = some v) (u0 u1 u2 u3 u4 u5 u6 u7 u8 u9 u10 u11 : Value) : ((((((((((((W.setCell ⟨g, 0, none⟩ u0).setCell ⟨g, 1, none⟩ u1).setCell ⟨g, 2, none⟩ u2).setCell ⟨g, 3, none⟩ u3).setCell ⟨g, 4, none⟩ u4).setCell ⟨g, 5, none⟩ u5).setCell ⟨g, 6, none⟩ u6).setCell ⟨g, 7, none⟩ u7).setCell ⟨g, 8, none⟩ u8).setCell ⟨g, 9, none⟩ u9).setCell ⟨g, 10, none⟩ u10).setCell ⟨g, 11, none⟩ u11).drew.cell? ⟨h, i, none⟩ = some v := by
  rw [World.cell?_drew]
  simp only [World.cell?_setCell_far _ ⟨g, _, none⟩ ⟨h, i, none⟩ _ hne]
  exact hc
theorem held13 {W : World} {g b h : Nat} {x0 x1 x2 x3 x4 x5 x6 x7 x8 x9 x10 x11 y : Value} (hgb : g ≠ b) (hgh : g ≠ h) (hS : W.drew.cell? ⟨b, 0, none⟩ = some x0 ∧ W.drew.cell? ⟨b, 1, none⟩ = some x1 ∧ W.drew.cell? ⟨b, 2, none⟩ = some x2 ∧ W.drew.cell? ⟨b, 3, none⟩ = some x3 ∧ W.drew.cell? ⟨b, 4, none⟩ = some x4 ∧ W.drew.cell? ⟨b, 5, none⟩ = some x5 ∧ W.drew.cell? ⟨b, 6, none⟩ = some x6 ∧ W.drew.cell? ⟨b, 7, none⟩ = some x7 ∧ W.drew.cell? ⟨b, 8, none⟩ = some x8 ∧ W.drew.cell? ⟨b, 9, none⟩ = some x9 ∧ W.drew.cell? ⟨b, 10, none⟩ = some x10 ∧ W.drew.cell? ⟨b, 11, none⟩ = some x11 ∧ W.drew.cell? ⟨h, 1, none⟩ = some y) (u0 u1 u2 u3 u4 u5 u6 u7 u8 u9 u10 u11 : Value) : ((((((((((((W.setCell ⟨g, 0, none⟩ u0).setCell ⟨g, 1, none⟩ u1).setCell ⟨g, 2, none⟩ u2).setCell ⟨g, 3, none⟩ u3).setCell ⟨g, 4, none⟩ u4).setCell ⟨g, 5, none⟩ u5).setCell ⟨g, 6, none⟩ u6).setCell ⟨g, 7, none⟩ u7).setCell ⟨g, 8, none⟩ u8).setCell ⟨g, 9, none⟩ u9).setCell ⟨g, 10, none⟩ u10).setCell ⟨g, 11, none⟩ u11).drew.cell? ⟨b, 0, none⟩ = some x0 ∧ ((((((((((((W.setCell ⟨g, 0, none⟩ u0).setCell ⟨g, 1, none⟩ u1).setCell ⟨g, 2, none⟩ u2).setCell ⟨g, 3, none⟩ u3).setCell ⟨g, 4, none⟩ u4).setCell ⟨g, 5, none⟩ u5).setCell ⟨g, 6, none⟩ u6).setCell ⟨g, 7, none⟩ u7).setCell ⟨g, 8, none⟩ u8).setCell ⟨g, 9, none⟩ u9).setCell ⟨g, 10, none⟩ u10).setCell ⟨g, 11, none⟩ u11).drew.cell? ⟨b, 1, none⟩ = some x1 ∧ ((((((((((((W.setCell ⟨g, 0, none⟩ u0).setCell ⟨g, 1, none⟩ u1).setCell ⟨g, 2, none⟩ u2).setCell ⟨g, 3, none⟩ u3).setCell ⟨g, 4, none⟩ u4).setCell ⟨g, 5, none⟩ u5).setCell ⟨g, 6, none⟩ u6).setCell ⟨g, 7, none⟩ u7).setCell ⟨g, 8, none⟩ u8).setCell ⟨g, 9, none⟩ u9).setCell ⟨g, 10, none⟩ u10).setCell ⟨g, 11, none⟩ u11).drew.cell? ⟨b, 2, none⟩ = some x2 ∧ ((((((((((((W.setCell ⟨g, 0, none⟩ u0).setCell ⟨g, 1, none⟩ u1).setCell ⟨g, 2, none⟩ u2).setCell ⟨g, 3, none⟩ u3).setCell ⟨g, 4, none⟩ u4).setCell ⟨g, 5, none⟩ u5).setCell ⟨g, 6, none⟩ u6).setCell ⟨g, 7, none⟩ u7).setCell ⟨g, 8, none⟩ u8).setCell ⟨g, 9, none⟩ u9).setCell ⟨g, 10, none⟩ u10).setCell ⟨g, 11, none⟩ u11).drew.cell? ⟨b, 3, none⟩ = some x3 ∧ ((((((((((((W.setCell ⟨g, 0, none⟩ u0).setCell ⟨g, 1, none⟩ u1).setCell ⟨g, 2, none⟩ u2).setCell ⟨g, 3, none⟩ u3).setCell ⟨g, 4, none⟩ u4).setCell ⟨g, 5, none⟩ u5).setCell ⟨g, 6, none⟩ u6).setCell ⟨g, 7, none⟩ u7).setCell ⟨g, 8, none⟩ u8).setCell ⟨g, 9, none⟩ u9).setCell ⟨g, 10, none⟩ u10).setCell ⟨g, 11, none⟩ u11).drew.cell? ⟨b, 4, none⟩ = some x4 ∧ ((((((((((((W.setCell ⟨g, 0, none⟩ u0).setCell ⟨g, 1, none⟩ u1).setCell ⟨g, 2, none⟩ u2).setCell ⟨g, 3, none⟩ u3).setCell ⟨g, 4, none⟩ u4).setCell ⟨g, 5, none⟩ u5).setCell ⟨g, 6, none⟩ u6).setCell ⟨g, 7, none⟩ u7).setCell ⟨g, 8, none⟩ u8).setCell ⟨g, 9, none⟩ u9).setCell ⟨g, 10, none⟩ u10).setCell ⟨g, 11, none⟩ u11).drew.cell? ⟨b, 5, none⟩ = some x5 ∧ ((((((((((((W.setCell ⟨g, 0, none⟩ u0).setCell ⟨g, 1, none⟩ u1).setCell ⟨g, 2, none⟩ u2).setCell ⟨g, 3, none⟩ u3).setCell ⟨g, 4, none⟩ u4).setCell ⟨g, 5, none⟩ u5).setCell ⟨g, 6, none⟩ u6).setCell ⟨g, 7, none⟩ u7).setCell ⟨g, 8, none⟩ u8).setCell ⟨g, 9, none⟩ u9).setCell ⟨g, 10, none⟩ u10).setCell ⟨g, 11, none⟩ u11).drew.cell? ⟨b, 6, none⟩ = some x6 ∧ ((((((((((((W.setCell ⟨g, 0, none⟩ u0).setCell ⟨g, 1, none⟩ u1).setCell ⟨g, 2, none⟩ u2).setCell ⟨g, 3, none⟩ u3).setCell ⟨g, 4, none⟩ u4).setCell ⟨g, 5, none⟩ u5).setCell ⟨g, 6, none⟩ u6).setCell ⟨g, 7, none⟩ u7).setCell ⟨g, 8, none⟩ u8).setCell ⟨g, 9, none⟩ u9).setCell ⟨g, 10, none⟩ u10).setCell ⟨g, 11, none⟩ u11).drew.cell? ⟨b, 7, none⟩ = some x7 ∧ ((((((((((((W.setCell ⟨g, 0, none⟩ u0).setCell ⟨g, 1, none⟩ u1).setCell ⟨g, 2, none⟩ u2).setCell ⟨g, 3, none⟩ u3).setCell ⟨g, 4, none⟩ u4).setCell ⟨g, 5, none⟩ u5).setCell ⟨g, 6, none⟩ u6).setCell ⟨g, 7, none⟩ u7).setCell ⟨g, 8, none⟩ u8).setCell ⟨g, 9, none⟩ u9).setCell ⟨g, 10, none⟩ u10).setCell ⟨g, 11, none⟩ u11).drew.cell? ⟨b, 8, none⟩ = some x8 ∧ ((((((((((((W.setCell ⟨g, 0, none⟩ u0).setCell ⟨g, 1, none⟩ u1).setCell ⟨g, 2, none⟩ u2).setCell ⟨g, 3, none⟩ u3).setCell ⟨g, 4, none⟩ u4).setCell ⟨g, 5, none⟩ u5).setCell ⟨g, 6, none⟩ u6).setCell ⟨g, 7, none⟩ u7).setCell ⟨g, 8, none⟩ u8).setCell ⟨g, 9, none⟩ u9).setCell ⟨g, 10, none⟩ u10).setCell ⟨g, 11, none⟩ u11).drew.cell? ⟨b, 9, none⟩ = some x9 ∧ ((((((((((((W.setCell ⟨g, 0, none⟩ u0).setCell ⟨g, 1, none⟩ u1).setCell ⟨g, 2, none⟩ u2).setCell ⟨g, 3, none⟩ u3).setCell ⟨g, 4, none⟩ u4).setCell ⟨g, 5, none⟩ u5).setCell ⟨g, 6, none⟩ u6).setCell ⟨g, 7, none⟩ u7).setCell ⟨g, 8, none⟩ u8).setCell ⟨g, 9, none⟩ u9).setCell ⟨g, 10, none⟩ u10).setCell ⟨g, 11, none⟩ u11).drew.cell? ⟨b, 10, none⟩ = some x10 ∧ ((((((((((((W.setCell ⟨g, 0, none⟩ u0).setCell ⟨g, 1, none⟩ u1).setCell ⟨g, 2, none⟩ u2).setCell ⟨g, 3, none⟩ u3).setCell ⟨g, 4, none⟩ u4).setCell ⟨g, 5, none⟩ u5).setCell ⟨g, 6, none⟩ u6).setCell ⟨g, 7, none⟩ u7).setCell ⟨g, 8, none⟩ u8).setCell ⟨g, 9, none⟩ u9).setCell ⟨g, 10, none⟩ u10).setCell ⟨g, 11, none⟩ u11).drew.cell? ⟨b, 11, none⟩ = some x11 ∧ ((((((((((((W.setCell ⟨g, 0, none⟩ u0).setCell ⟨g, 1, none⟩ u1).setCell ⟨g, 2, none⟩ u2).setCell ⟨g, 3, none⟩ u3).setCell ⟨g, 4, none⟩ u4).setCell ⟨g, 5, none⟩ u5).setCell ⟨g, 6, none⟩ u6).setCell ⟨g, 7, none⟩ u7).setCell ⟨g, 8, none⟩ u8).setCell ⟨g, 9, none⟩ u9).setCell ⟨g, 10, none⟩ u10).setCell ⟨g, 11, none⟩ u11).drew.cell? ⟨h, 1, none⟩ = some y :=
  ⟨far12d hgb hS.1 _ _ _ _ _ _ _ _ _ _ _ _, far12d hgb hS.2.1 _ _ _ _ _ _ _ _ _ _ _ _, far12d hgb hS.2.2.1 _ _ _ _ _ _ _ _ _ _ _ _, far12d hgb hS.2.2.2.1 _ _ _ _ _ _ _ _ _ _ _ _, far12d hgb hS.2.2.2.2.1 _ _ _ _ _ _ _ _ _ _ _ _, far12d hgb hS.2.2.2.2.2.1 _ _ _ _ _ _ _ _ _ _ _ _, far12d hgb hS.2.2.2.2.2.2.1 _ _ _ _ _ _ _ _ _ _ _ _, far12d hgb hS.2.2.2.2.2.2.2.1 _ _ _ _ _ _ _ _ _ _ _ _, far12d hgb hS.2.2.2.2.2.2.2.2.1 _ _ _ _ _ _ _ _ _ _ _ _, far12d hgb hS.2.2.2.2.2.2.2.2.2.1 _ _ _ _ _ _ _ _ _ _ _ _, far12d hgb hS.2.2.2.2.2.2.2.2.2.2.1 _ _ _ _ _ _ _ _ _ _ _ _, far12d hgb hS.2.2.2.2.2.2.2.2.2.2.2.1 _ _ _ _ _ _ _ _ _ _ _ _, far12d hgh hS.2.2.2.2.2.2.2.2.2.2.2.2 _ _ _ _ _ _ _ _ _ _ _ _⟩
theorem refTakeText_n (a : Option Addr) (bs : List Int) (n cap : Nat) (w : World) (hn : n = bs.length) (hr : RowK .u8 w a bs) (hb : IsB bs) (hcap : bs.length ≤ cap) (hlen : bs.length ≤ 140737488355328) {s : ByteArray} {k : Nat} {x : Int} (h : tkS bs = (s, k, x)) : Calls Tryd.prog 81 #[.slice a n cap] w fun e w' => e = .returned (.tuple #[.string s, .int .i64 (k : Int), .int .i64 x]) ∧ w = w' := by
  subst hn
  have := refTakeText_any a bs cap w hr hb hcap hlen
  unfold TextPost at this
  rw [h] at this
  exact this
theorem tstamp_zero (h : Nat) (a : Option Addr) (bs : List Int) (n cap : Nat) (w : World) (hB : Blk w h (tkrV a n cap 0 0)) (hn : n = bs.length) (hr : RowK .u8 w a bs) (hb : IsB bs) (hcap : bs.length ≤ cap) (hlen : bs.length ≤ 140737488355328) {y1 y2 : Int} {k' : Nat} {x : Int} (hs : St.tkSt bs = (y1, y2, k', x)) : Calls Tryd.prog 80 #[.pointer (some ⟨h, 0, none⟩)] w (StT h a n cap y1 y2 (k' : Int) x w) := by
  have := tstamp_on h a bs n cap 0 w hB hn hr hb hcap hlen (Nat.zero_le _) (k' := k') (x := x) hs
  rw [Nat.zero_add] at this
  exact this
theorem tstamp_is (h : Nat) (a : Option Addr) (bs : List Int) (n cap kk : Nat) (w : World) (hB : Blk w h (tkrV a n cap (kk : Int) 0)) (hn : n = bs.length) (hr : RowK .u8 w a bs) (hb : IsB bs) (hcap : bs.length ≤ cap) (hlen : bs.length ≤ 140737488355328) (hk : kk ≤ bs.length) {y1 y2 : Int} {k' m : Nat} {x : Int} (hs : St.tkSt (bs.drop kk) = (y1, y2, k', x)) (hm : kk + k' = m) : Calls Tryd.prog 80 #[.pointer (some ⟨h, 0, none⟩)] w (StT h a n cap y1 y2 (m : Int) x w) := by
  subst hm
  exact tstamp_on h a bs n cap kk w hB hn hr hb hcap hlen hk hs
theorem tnum_is (h : Nat) (a : Option Addr) (bs : List Int) (n cap kk : Nat) (w : World) (hB : Blk w h (tkrV a n cap (kk : Int) 0)) (hn : n = bs.length) (hr : RowK .u8 w a bs) (hb : IsB bs) (hcap : bs.length ≤ cap) (hlen : bs.length ≤ 140737488355328) (hk : kk ≤ bs.length) {y : Int} {k' m : Nat} {x : Int} (hs : tkN (bs.drop kk) = (y, k', x)) (hm : kk + k' = m) : Calls Tryd.prog 52 #[.pointer (some ⟨h, 0, none⟩)] w (NumT h a n cap y (m : Int) x w) := by
  subst hm
  exact tnum_on h a bs n cap kk w hB hn hr hb hcap hlen hk hs
end Go.Proofs.YtfhppfbmnnkikaaDoor

/- Small functions of the laws of operations. -/
namespace Go.Proofs.YtfhppfbmnnkikaaDoor
open Go.RowKit Go.Lib
set_option linter.unusedVariables false

set_option maxHeartbeats 400000 in
theorem num15_any (n : Int) (w : World) : Calls Tryd.prog 9 #[.int .i64 n] w fun e w' => e = .returned (.int .i64 n) ∧ w = w' := by
  go_enter Tryd.func9, Tryd.ntmps9
  go_wp2
  go_ret
  exact ⟨rfl, rfl⟩
set_option maxHeartbeats 400000 in
theorem copyI_big (a : Option Addr) (zs : List Int) (n c : Nat) (w : World) (ha : RowK .i64 w a zs) (hn : n = zs.length) (hl : zs.length ≤ 17592186044416) :
    Calls Tryd.prog 31 #[.slice a n c] w (fun e w' => ∃ v, e = .returned v ∧ OwnK .i64 3 w' w.heap.size v zs ∧ Below w.heap.size w w') := by
  subst hn
  have HA := Lib.hid ha
  clear ha
  go_enter Tryd.func31, Tryd.ntmps31
  go_wp2
  go_loopg [3, 4] zs.length (fun g1 v i wr => ∃ k : Nat, i = .int .i64 k ∧ k ≤ zs.length ∧ zs.length - k ≤ g1 ∧ Hid (OwnK .i64 3 wr w.heap.size v (zs.take k) ∧ Below w.heap.size w wr))
  case atStart => exact ⟨0, rfl, Nat.zero_le _, by omega, ⟨OwnK.nil _ _ _ _, Below.refl _ _⟩⟩
  case round =>
    obtain ⟨k, rfl, hk, hg, HI⟩ := hrel
    by_cases hlt : k < zs.length
    · obtain ⟨b1, o1, rfl, hc1⟩ := HA.out k hlt
      have hbl := World.block_lt_of_cell? _ _ hc1
      have hsz := HI.out.2.size
      have hd1 : wr.cell? ⟨b1, o1 + k, none⟩ = some (.int .i64 (zs.getD k 0)) := (HI.out.2.cell (p := ⟨b1, o1 + k, none⟩) hbl).trans hc1
      have hltz : (k : Int) < (zs.length : Int) := by omega
      have HT := Lib.hid (take_getD zs k hlt)
      clear hc1 hbl
      generalize zs.getD k 0 = z at *
      go_wp2_with (at_builtin
                   refine wpI_one rfl _ _ rfl w.heap.size wr u3 (zs.take k) z rfl HI.out.1 rfl (by rw [List.length_take]; omega) (by omega) ?_
                   intro v1 w2 hp1
                   have HI2 : Hid (OwnK .i64 3 w2 w.heap.size v1 (zs.take (k + 1)) ∧ Below w.heap.size w w2) := ⟨by rw [HT.out]; exact hp1.own, hp1.bel _ _ HI.out.2 (Nat.le_refl _) (by omega)⟩
                   clear hp1 HI HT hd1)
      go_roundg (zs.length - (k + 1))
      case measure => omega
      case rel => exact ⟨k + 1, by go_num, by omega, by omega, HI2⟩
    · have hltz : ¬ (k : Int) < (zs.length : Int) := by omega
      have HF : Hid (OwnK .i64 3 wr w.heap.size u3 zs ∧ Below w.heap.size w wr) := by
        have h1 := HI.out.1
        rw [List.take_of_length_le (by omega)] at h1
        exact ⟨h1, HI.out.2⟩
      clear HI
      go_wp2
      go_ret
      exact ⟨u3, rfl, HF.out.1, HF.out.2⟩

def SomeInt (w : World) (e : Ending) (w' : World) : Prop := ∃ z : Int, e = .returned (.int .i64 z) ∧ Below w.heap.size w w'
set_option maxHeartbeats 400000 in
theorem weight_any (t r q : Int) (da : Option Addr) (ds : List Int) (dn dc : Nat) (k nt nr pt pr : Int) (s : ByteArray) (p v : Int) (w : World) : Calls Tryd.prog 65 #[.agg #[.int .i64 t, .int .i64 r, .int .i64 q, .slice da dn dc, .int .i64 k, .int .i64 nt, .int .i64 nr, .int .i64 pt, .int .i64 pr, .string s, .int .i64 p, .int .i64 v]] w (SomeInt w) := by
  go_enter Tryd.func65, Tryd.ntmps65
  go_wp2
  go_ret
  exact ⟨_, rfl, (Below.refl _ _).alloc (Nat.le_refl _) _⟩
/-- too much to be played: if not, the bytes are few -/
def HeavyPost (nx : Nat) (w : World) (e : Ending) (w' : World) : Prop := ∃ b : Bool, e = .returned (.bool b) ∧ (b = false → nx ≤ 3000) ∧ Below w.heap.size w w'
theorem HeavyPost.mk' {nx : Nat} {w w' : World} {b : Bool} (h : b = false → nx ≤ 3000) (hb : Below w.heap.size w w') : HeavyPost nx w (.returned (.bool b)) w' := ⟨b, rfl, h, hb⟩
theorem blkO_new (w : World) (t r q : Int) (d : Value) (k nt nr pt pr : Int) (s : ByteArray) (p v : Int) (ds : List Int) : Blk (w.alloc (.cells #[.int .i64 t, .int .i64 r, .int .i64 q, d, .int .i64 k, .int .i64 nt, .int .i64 nr, .int .i64 pt, .int .i64 pr, .string s, .int .i64 p, .int .i64 v] 27)) w.heap.size ((⟨t, r, ds, k, nt, nr, pt, pr, s, p, v⟩ : OpR).cells q d) := by
  constructor
  · intro i u hi
    match i, hi with
    | 0, hi | 1, hi | 2, hi | 3, hi | 4, hi | 5, hi | 6, hi | 7, hi | 8, hi | 9, hi | 10, hi | 11, hi => simp [OpR.cells] at hi; subst hi; simp
    | _ + 12, hi => simp [OpR.cells] at hi
  · intro i u hi
    match i, hi with
    | 0, hi | 1, hi | 2, hi | 3, hi | 4, hi | 5, hi | 6, hi | 7, hi | 8, hi | 9, hi | 10, hi | 11, hi => simp
    | _ + 12, hi => simp [OpR.cells] at hi

def CopyPost (t r q : Int) (ds : List Int) (k nt nr pt pr : Int) (s : ByteArray) (p v : Int) (w : World) (e : Ending) (w' : World) : Prop := ∃ da dn dc, e = .returned (.agg #[.int .i64 t, .int .i64 r, .int .i64 q, .slice da dn dc, .int .i64 k, .int .i64 nt, .int .i64 nr, .int .i64 pt, .int .i64 pr, .string s, .int .i64 p, .int .i64 v]) ∧ OwnK .i64 3 w' w.heap.size (.slice da dn dc) ds ∧ Below w.heap.size w w'
set_option maxHeartbeats 2000000 in
set_option maxRecDepth 100000 in
theorem copyOp_any (t r q : Int) (da : Option Addr) (ds : List Int) (dn dc : Nat) (k nt nr pt pr : Int) (s : ByteArray) (p v : Int) (w : World) (hr : RowK .i64 w da ds) (hn : dn = ds.length) (hl : ds.length ≤ 17592186044416) : Calls Tryd.prog 11 #[.agg #[.int .i64 t, .int .i64 r, .int .i64 q, .slice da dn dc, .int .i64 k, .int .i64 nt, .int .i64 nr, .int .i64 pt, .int .i64 pr, .string s, .int .i64 p, .int .i64 v]] w (CopyPost t r q ds k nt nr pt pr s p v w) := by
  obtain ⟨g, hg⟩ : ∃ g, w.heap.size = g := ⟨_, rfl⟩
  have HG : Hid (w.heap.size = g) := hg
  have HB0 := Lib.hid (box_bel w (.cells #[.int .i64 t, .int .i64 r, .int .i64 q, .slice da dn dc, .int .i64 k, .int .i64 nt, .int .i64 nr, .int .i64 pt, .int .i64 pr, .string s, .int .i64 p, .int .i64 v] 27))
  have HB1 := Lib.hid (HB0.out.trans ((box_bel (w.alloc (.cells #[.int .i64 t, .int .i64 r, .int .i64 q, .slice da dn dc, .int .i64 k, .int .i64 nt, .int .i64 nr, .int .i64 pt, .int .i64 pr, .string s, .int .i64 p, .int .i64 v] 27)) (.cells #[.int .i64 0, .int .i64 0, .int .i64 0, .slice none 0 0, .int .i64 0, .int .i64 0, .int .i64 0, .int .i64 0, .int .i64 0, .string ⟨#[]⟩, .int .i64 0, .int .i64 0] 27)).mono HB0.out.size))
  have HB2 := Lib.hid (HB1.out.trans ((box_bel ((w.alloc (.cells #[.int .i64 t, .int .i64 r, .int .i64 q, .slice da dn dc, .int .i64 k, .int .i64 nt, .int .i64 nr, .int .i64 pt, .int .i64 pr, .string s, .int .i64 p, .int .i64 v] 27)).alloc (.cells #[.int .i64 0, .int .i64 0, .int .i64 0, .slice none 0 0, .int .i64 0, .int .i64 0, .int .i64 0, .int .i64 0, .int .i64 0, .string ⟨#[]⟩, .int .i64 0, .int .i64 0] 27)) (.cells #[.int .i64 t, .int .i64 r, .int .i64 q, .slice da dn dc, .int .i64 k, .int .i64 nt, .int .i64 nr, .int .i64 pt, .int .i64 pr, .string s, .int .i64 p, .int .i64 v] 27)).mono HB1.out.size))
  have C := Lib.hid (copyI_big da ds dn dc (((w.alloc (.cells #[.int .i64 t, .int .i64 r, .int .i64 q, .slice da dn dc, .int .i64 k, .int .i64 nt, .int .i64 nr, .int .i64 pt, .int .i64 pr, .string s, .int .i64 p, .int .i64 v] 27)).alloc (.cells #[.int .i64 0, .int .i64 0, .int .i64 0, .slice none 0 0, .int .i64 0, .int .i64 0, .int .i64 0, .int .i64 0, .int .i64 0, .string ⟨#[]⟩, .int .i64 0, .int .i64 0] 27)).alloc (.cells #[.int .i64 t, .int .i64 r, .int .i64 q, .slice da dn dc, .int .i64 k, .int .i64 nt, .int .i64 nr, .int .i64 pt, .int .i64 pr, .string s, .int .i64 p, .int .i64 v] 27)) (((hr.alloc _).alloc _).alloc _) hn hl)
  have HR1 : Hid (Blk (((w.alloc (.cells #[.int .i64 t, .int .i64 r, .int .i64 q, .slice da dn dc, .int .i64 k, .int .i64 nt, .int .i64 nr, .int .i64 pt, .int .i64 pr, .string s, .int .i64 p, .int .i64 v] 27)).alloc (.cells #[.int .i64 0, .int .i64 0, .int .i64 0, .slice none 0 0, .int .i64 0, .int .i64 0, .int .i64 0, .int .i64 0, .int .i64 0, .string ⟨#[]⟩, .int .i64 0, .int .i64 0] 27)).alloc (.cells #[.int .i64 t, .int .i64 r, .int .i64 q, .slice da dn dc, .int .i64 k, .int .i64 nt, .int .i64 nr, .int .i64 pt, .int .i64 pr, .string s, .int .i64 p, .int .i64 v] 27)) (g + 1) (zR.cells 0 (.slice none 0 0))) := by
    have h1 := (blk_new (w.alloc (.cells #[.int .i64 t, .int .i64 r, .int .i64 q, .slice da dn dc, .int .i64 k, .int .i64 nt, .int .i64 nr, .int .i64 pt, .int .i64 pr, .string s, .int .i64 p, .int .i64 v] 27))).next (box_bel _ (.cells #[.int .i64 t, .int .i64 r, .int .i64 q, .slice da dn dc, .int .i64 k, .int .i64 nt, .int .i64 nr, .int .i64 pt, .int .i64 pr, .string s, .int .i64 p, .int .i64 v] 27))
    rw [World.size_alloc, hg] at h1
    exact h1
  have HX1 : Hid (Blk (((w.alloc (.cells #[.int .i64 t, .int .i64 r, .int .i64 q, .slice da dn dc, .int .i64 k, .int .i64 nt, .int .i64 nr, .int .i64 pt, .int .i64 pr, .string s, .int .i64 p, .int .i64 v] 27)).alloc (.cells #[.int .i64 0, .int .i64 0, .int .i64 0, .slice none 0 0, .int .i64 0, .int .i64 0, .int .i64 0, .int .i64 0, .int .i64 0, .string ⟨#[]⟩, .int .i64 0, .int .i64 0] 27)).alloc (.cells #[.int .i64 t, .int .i64 r, .int .i64 q, .slice da dn dc, .int .i64 k, .int .i64 nt, .int .i64 nr, .int .i64 pt, .int .i64 pr, .string s, .int .i64 p, .int .i64 v] 27)) (g + 1 + 1) ((⟨t, r, ds, k, nt, nr, pt, pr, s, p, v⟩ : OpR).cells q (.slice da dn dc))) := by
    have h1 := blkO_new ((w.alloc (.cells #[.int .i64 t, .int .i64 r, .int .i64 q, .slice da dn dc, .int .i64 k, .int .i64 nt, .int .i64 nr, .int .i64 pt, .int .i64 pr, .string s, .int .i64 p, .int .i64 v] 27)).alloc (.cells #[.int .i64 0, .int .i64 0, .int .i64 0, .slice none 0 0, .int .i64 0, .int .i64 0, .int .i64 0, .int .i64 0, .int .i64 0, .string ⟨#[]⟩, .int .i64 0, .int .i64 0] 27)) t r q (.slice da dn dc) k nt nr pt pr s p v ds
    rw [World.size_alloc, World.size_alloc, hg] at h1
    exact h1
  have HSZ : Hid ((((w.alloc (.cells #[.int .i64 t, .int .i64 r, .int .i64 q, .slice da dn dc, .int .i64 k, .int .i64 nt, .int .i64 nr, .int .i64 pt, .int .i64 pr, .string s, .int .i64 p, .int .i64 v] 27)).alloc (.cells #[.int .i64 0, .int .i64 0, .int .i64 0, .slice none 0 0, .int .i64 0, .int .i64 0, .int .i64 0, .int .i64 0, .int .i64 0, .string ⟨#[]⟩, .int .i64 0, .int .i64 0] 27)).alloc (.cells #[.int .i64 t, .int .i64 r, .int .i64 q, .slice da dn dc, .int .i64 k, .int .i64 nt, .int .i64 nr, .int .i64 pt, .int .i64 pr, .string s, .int .i64 p, .int .i64 v] 27)).heap.size = g + 3) := (by simp [hg] : (((w.alloc (.cells #[.int .i64 t, .int .i64 r, .int .i64 q, .slice da dn dc, .int .i64 k, .int .i64 nt, .int .i64 nr, .int .i64 pt, .int .i64 pr, .string s, .int .i64 p, .int .i64 v] 27)).alloc (.cells #[.int .i64 0, .int .i64 0, .int .i64 0, .slice none 0 0, .int .i64 0, .int .i64 0, .int .i64 0, .int .i64 0, .int .i64 0, .string ⟨#[]⟩, .int .i64 0, .int .i64 0] 27)).alloc (.cells #[.int .i64 t, .int .i64 r, .int .i64 q, .slice da dn dc, .int .i64 k, .int .i64 nt, .int .i64 nr, .int .i64 pt, .int .i64 pr, .string s, .int .i64 p, .int .i64 v] 27)).heap.size = g + 3)
  clear hr hn hl
  go_enter Tryd.func11, Tryd.ntmps11
  go_wp2_with fail
  refine (C.out).mono ?_
  rintro e w1 ⟨v1, rfl, ho, hb⟩
  have HO1 := Lib.hid (ho.mono (show g + 3 ≤ _ from Nat.le_of_eq HSZ.out.symm))
  have HL1 := Lib.hid (HB2.out.trans (hb.mono HB2.out.size))
  have HR2 := Lib.hid (HR1.out.next hb)
  have HX2 := Lib.hid (HX1.out.next hb)
  obtain ⟨a9, n9, c9, rfl, hn9, hr9, hc9⟩ := ho.form'
  clear ho hb hn9 hr9 hc9 HR1 HX1 C HB0 HB1 HB2 hg
  have xc0 := HX2.out.cell 0 _ rfl
  have xc1 := HX2.out.cell 1 _ rfl
  have xc2 := HX2.out.cell 2 _ rfl
  have xc3 := HX2.out.cell 3 _ rfl
  have xc4 := HX2.out.cell 4 _ rfl
  have xc5 := HX2.out.cell 5 _ rfl
  have xc6 := HX2.out.cell 6 _ rfl
  have xc7 := HX2.out.cell 7 _ rfl
  have xc8 := HX2.out.cell 8 _ rfl
  have xc9 := HX2.out.cell 9 _ rfl
  have xc10 := HX2.out.cell 10 _ rfl
  have xc11 := HX2.out.cell 11 _ rfl
  have xf3 := HX2.out.free 3 _ rfl
  have zc0 := HR2.out.cell 0 _ rfl
  have zf0 := HR2.out.free 0 _ rfl
  have zc1 := HR2.out.cell 1 _ rfl
  have zf1 := HR2.out.free 1 _ rfl
  have zc2 := HR2.out.cell 2 _ rfl
  have zf2 := HR2.out.free 2 _ rfl
  have zc3 := HR2.out.cell 3 _ rfl
  have zf3 := HR2.out.free 3 _ rfl
  have zc4 := HR2.out.cell 4 _ rfl
  have zf4 := HR2.out.free 4 _ rfl
  have zc5 := HR2.out.cell 5 _ rfl
  have zf5 := HR2.out.free 5 _ rfl
  have zc6 := HR2.out.cell 6 _ rfl
  have zf6 := HR2.out.free 6 _ rfl
  have zc7 := HR2.out.cell 7 _ rfl
  have zf7 := HR2.out.free 7 _ rfl
  have zc8 := HR2.out.cell 8 _ rfl
  have zf8 := HR2.out.free 8 _ rfl
  have zc9 := HR2.out.cell 9 _ rfl
  have zf9 := HR2.out.free 9 _ rfl
  have zc10 := HR2.out.cell 10 _ rfl
  have zf10 := HR2.out.free 10 _ rfl
  have zc11 := HR2.out.cell 11 _ rfl
  have zf11 := HR2.out.free 11 _ rfl
  go_wp2
  have HZ := (((((((((((((HR2.out.other (b := g + 1 + 1) (by omega) 3 (.slice a9 n9 c9)).set 0 (.int .i64 t)).set 1 (.int .i64 r)).set 2 (.int .i64 q)).set 3 (.slice a9 n9 c9)).set 4 (.int .i64 k)).set 5 (.int .i64 nt)).set 6 (.int .i64 nr)).set 7 (.int .i64 pt)).set 8 (.int .i64 pr)).set 9 (.string s)).set 10 (.int .i64 p)).set 11 (.int .i64 v))
  have z0 := HZ.cell 0 _ rfl
  have z1 := HZ.cell 1 _ rfl
  have z2 := HZ.cell 2 _ rfl
  have z3 := HZ.cell 3 _ rfl
  have z4 := HZ.cell 4 _ rfl
  have z5 := HZ.cell 5 _ rfl
  have z6 := HZ.cell 6 _ rfl
  have z7 := HZ.cell 7 _ rfl
  have z8 := HZ.cell 8 _ rfl
  have z9 := HZ.cell 9 _ rfl
  have z10 := HZ.cell 10 _ rfl
  have z11 := HZ.cell 11 _ rfl
  refine bodyPost_ret (v := .agg #[.int .i64 t, .int .i64 r, .int .i64 q, .slice a9 n9 c9, .int .i64 k, .int .i64 nt, .int .i64 nr, .int .i64 pt, .int .i64 pr, .string s, .int .i64 p, .int .i64 v]) (by simp [results, Tryd.results11, go_sem, z0, z1, z2, z3, z4, z5, z6, z7, z8, z9, z10, z11]) rfl ?_
  exact ⟨_, _, _, rfl, (((((((((((((HO1.out.far (show g + 1 + 1 < g + 3 by omega) 3 (.slice a9 n9 c9)).far (show g + 1 < g + 3 by omega) 0 (.int .i64 t)).far (show g + 1 < g + 3 by omega) 1 (.int .i64 r)).far (show g + 1 < g + 3 by omega) 2 (.int .i64 q)).far (show g + 1 < g + 3 by omega) 3 (.slice a9 n9 c9)).far (show g + 1 < g + 3 by omega) 4 (.int .i64 k)).far (show g + 1 < g + 3 by omega) 5 (.int .i64 nt)).far (show g + 1 < g + 3 by omega) 6 (.int .i64 nr)).far (show g + 1 < g + 3 by omega) 7 (.int .i64 pt)).far (show g + 1 < g + 3 by omega) 8 (.int .i64 pr)).far (show g + 1 < g + 3 by omega) 9 (.string s)).far (show g + 1 < g + 3 by omega) 10 (.int .i64 p)).far (show g + 1 < g + 3 by omega) 11 (.int .i64 v)).mono (by have := HG.out; omega), (((((((((((((HL1.out.setCell (p := ⟨g + 1 + 1, 3, none⟩) (by have := HG.out; show w.heap.size ≤ g + 1 + 1; omega) (.slice a9 n9 c9)).setCell (p := ⟨g + 1, 0, none⟩) (by have := HG.out; show w.heap.size ≤ g + 1; omega) (.int .i64 t)).setCell (p := ⟨g + 1, 1, none⟩) (by have := HG.out; show w.heap.size ≤ g + 1; omega) (.int .i64 r)).setCell (p := ⟨g + 1, 2, none⟩) (by have := HG.out; show w.heap.size ≤ g + 1; omega) (.int .i64 q)).setCell (p := ⟨g + 1, 3, none⟩) (by have := HG.out; show w.heap.size ≤ g + 1; omega) (.slice a9 n9 c9)).setCell (p := ⟨g + 1, 4, none⟩) (by have := HG.out; show w.heap.size ≤ g + 1; omega) (.int .i64 k)).setCell (p := ⟨g + 1, 5, none⟩) (by have := HG.out; show w.heap.size ≤ g + 1; omega) (.int .i64 nt)).setCell (p := ⟨g + 1, 6, none⟩) (by have := HG.out; show w.heap.size ≤ g + 1; omega) (.int .i64 nr)).setCell (p := ⟨g + 1, 7, none⟩) (by have := HG.out; show w.heap.size ≤ g + 1; omega) (.int .i64 pt)).setCell (p := ⟨g + 1, 8, none⟩) (by have := HG.out; show w.heap.size ≤ g + 1; omega) (.int .i64 pr)).setCell (p := ⟨g + 1, 9, none⟩) (by have := HG.out; show w.heap.size ≤ g + 1; omega) (.string s)).setCell (p := ⟨g + 1, 10, none⟩) (by have := HG.out; show w.heap.size ≤ g + 1; omega) (.int .i64 p)).setCell (p := ⟨g + 1, 11, none⟩) (by have := HG.out; show w.heap.size ≤ g + 1; omega) (.int .i64 v))⟩

set_option maxHeartbeats 1000000 in
theorem spoilOp_any (t r q : Int) (da : Option Addr) (ds : List Int) (dn dc : Nat) (k nt nr pt pr : Int) (s : ByteArray) (p v : Int) (base : Nat) (w : World) (hv : OwnK .i64 3 w base (.slice da dn dc) ds) (hbase : base ≤ w.heap.size) (hl : ds.length ≤ 65536) : Calls Tryd.prog 82 #[.agg #[.int .i64 t, .int .i64 r, .int .i64 q, .slice da dn dc, .int .i64 k, .int .i64 nt, .int .i64 nr, .int .i64 pt, .int .i64 pr, .string s, .int .i64 p, .int .i64 v]] w (SpoilPost w base) := by
  have HB := Lib.hid ((box_bel w (.cells #[.int .i64 t, .int .i64 r, .int .i64 q, .slice da dn dc, .int .i64 k, .int .i64 nt, .int .i64 nr, .int .i64 pt, .int .i64 pr, .string s, .int .i64 p, .int .i64 v] 27)).mono hbase)
  have C := Lib.hid (spoil_any (.slice da dn dc) base ds (w.alloc (.cells #[.int .i64 t, .int .i64 r, .int .i64 q, .slice da dn dc, .int .i64 k, .int .i64 nt, .int .i64 nr, .int .i64 pt, .int .i64 pr, .string s, .int .i64 p, .int .i64 v] 27)) (hv.alloc _) (by simp; omega) hl)
  clear hv hbase hl
  go_enter Tryd.func82, Tryd.ntmps82
  go_wp2_with fail
  refine (C.out).mono ?_
  rintro e w1 ⟨rfl, hb⟩
  have HB1 := Lib.hid (HB.out.trans hb)
  clear hb
  go_wp2
  go_end0
  exact ⟨rfl, HB1.out⟩

end Go.Proofs.YtfhppfbmnnkikaaDoor
