/- Joined: O4. -/
import Derived.Test.YtjlbpmmckgjajaaDoorZD

/- The page's own: whether an operation may be. -/
namespace Go.Proofs.YtjlbpmmckgjajaaDoor
open Go.RowKit Go.Lib
set_option linter.unusedVariables false

theorem OpAt.regrown {w : World} {b o : Nat} {t r q : Int} {da : Option Addr} {dn dc : Nat} {k nt nr pt pr : Int} {s : ByteArray} {p v : Int} (h : OpAt w b o t r q da dn dc k nt nr pt pr s p v) : (∀ d os, (Go.Sort.grow (redrawn w d) os).cell? ⟨b, o, none⟩ = some (.int .i64 t)) ∧ (∀ d os, (Go.Sort.grow (redrawn w d) os).cell? ⟨b, o + 1, none⟩ = some (.int .i64 r)) ∧ (∀ d os, (Go.Sort.grow (redrawn w d) os).cell? ⟨b, o + 2, none⟩ = some (.int .i64 q)) ∧ (∀ d os, (Go.Sort.grow (redrawn w d) os).cell? ⟨b, o + 3, none⟩ = some (.slice da dn dc)) ∧ (∀ d os, (Go.Sort.grow (redrawn w d) os).cell? ⟨b, o + 4, none⟩ = some (.int .i64 k)) ∧ (∀ d os, (Go.Sort.grow (redrawn w d) os).cell? ⟨b, o + 5, none⟩ = some (.int .i64 nt)) ∧ (∀ d os, (Go.Sort.grow (redrawn w d) os).cell? ⟨b, o + 6, none⟩ = some (.int .i64 nr)) ∧ (∀ d os, (Go.Sort.grow (redrawn w d) os).cell? ⟨b, o + 7, none⟩ = some (.int .i64 pt)) ∧ (∀ d os, (Go.Sort.grow (redrawn w d) os).cell? ⟨b, o + 8, none⟩ = some (.int .i64 pr)) ∧ (∀ d os, (Go.Sort.grow (redrawn w d) os).cell? ⟨b, o + 9, none⟩ = some (.string s)) ∧ (∀ d os, (Go.Sort.grow (redrawn w d) os).cell? ⟨b, o + 10, none⟩ = some (.int .i64 p)) ∧ (∀ d os, (Go.Sort.grow (redrawn w d) os).cell? ⟨b, o + 11, none⟩ = some (.int .i64 v)) :=
  ⟨cell_regrown h.c0, cell_regrown h.c1, cell_regrown h.c2, cell_regrown h.c3, cell_regrown h.c4, cell_regrown h.c5, cell_regrown h.c6, cell_regrown h.c7, cell_regrown h.c8, cell_regrown h.c9, cell_regrown h.c10, cell_regrown h.c11⟩
theorem RowK.drew {kd : IntKind} {w : World} {a : Option Addr} {zs : List Int} (h : RowK kd w a zs) : RowK kd w.drew a zs := h
theorem refSt_is (t r : Int) (b : Bool) (h : St.stB t r = b) (w : World) : Calls Tryd.prog 59 #[.agg #[.int .i64 t, .int .i64 r]] w (BoolPost w b) := by rw [← h]; exact St.refStamp_any t r w
theorem vec_regrown {w W : World} {da : Option Addr} {ds : List Int} {dn : Nat} (dc : Nat) (hB : Below w.heap.size w W) (hr : RowK .i64 w da ds) (hn : dn = ds.length) (hl : ds.length ≤ 140737488355328) {b : Bool} (h : Hv.vecB ds = b) : St.RegrownTo W 60 #[.slice da dn dc] (.bool b) := fun d os =>
  (Hv.refVector_is da ds dn dc _ ((hr.below hB (Nat.le_refl _)).below (below_regrown W d os) (Nat.le_refl _)) hn hl h).mono fun _ _ ⟨he, hw⟩ => ⟨he, ⟨d, os⟩, hw.symm⟩

set_option maxHeartbeats 4000000 in
set_option maxRecDepth 100000 in
theorem refOp_any (t r q : Int) (da : Option Addr) (ds : List Int) (dn dc : Nat) (k nt nr pt pr : Int) (s : ByteArray) (p v : Int) (w : World) (hr : RowK .i64 w da ds) (hn : dn = ds.length) (hl : ds.length ≤ 140737488355328) : Calls Tryd.prog 43 #[.agg #[.int .i64 t, .int .i64 r, .int .i64 q, .slice da dn dc, .int .i64 k, .int .i64 nt, .int .i64 nr, .int .i64 pt, .int .i64 pr, .string s, .int .i64 p, .int .i64 v]] w (BoolPost w (opB t r q ds k nt nr pt pr s p v)) := by
  have mixed : Tryd.prog.follows .mixedOrders = true := by kernel_rfl
  have HB := Lib.hid (box_bel w (.cells #[.int .i64 t, .int .i64 r, .int .i64 q, .slice da dn dc, .int .i64 k, .int .i64 nt, .int .i64 nr, .int .i64 pt, .int .i64 pr, .string s, .int .i64 p, .int .i64 v] 39))
  obtain ⟨c0, c1, c2, c3, c4, c5, c6, c7, c8, c9, c10, c11⟩ := (OpAt.new w t r q da ds dn dc k nt nr pt pr s p v).regrown

  obtain ⟨B, hB⟩ : ∃ B, opB t r q ds k nt nr pt pr s p v = B := ⟨_, rfl⟩
  rw [hB]
  have HR := Lib.hid (hr.alloc (.cells #[.int .i64 t, .int .i64 r, .int .i64 q, .slice da dn dc, .int .i64 k, .int .i64 nt, .int .i64 nr, .int .i64 pt, .int .i64 pr, .string s, .int .i64 p, .int .i64 v] 39))
  have HA := Lib.hid (OpAt.new w t r q da ds dn dc k nt nr pt pr s p v)
  have hvr := fun {b : Bool} (h : Hv.vecB ds = b) => vec_regrown dc HB.out hr hn hl h
  have HN := Lib.hid hn
  have HL := Lib.hid hl
  have HVR := Lib.hid (fun b => @hvr b)
  clear hn hl hr hvr
  go_enter Tryd.func43, Tryd.ntmps43
  go_wp2_with fail
  refine wp_region_quiet_below (by assumption) (by kernel_rfl) ?_
  generalize w.alloc (.cells #[.int .i64 t, .int .i64 r, .int .i64 q, .slice da dn dc, .int .i64 k, .int .i64 nt, .int .i64 nr, .int .i64 pt, .int .i64 pr, .string s, .int .i64 p, .int .i64 v] 39) = W at *
  generalize hg : w.heap.size = g at c0 c1 c2 c3 c4 c5 c6 c7 c8 c9 c10 c11 HA ⊢
  clear hg
  cases g1 : St.stB t r
  · have x1 : St.RegrownTo W 59 #[.agg #[.int .i64 t, .int .i64 r]] (.bool false) := St.regrown_bel fun W => refSt_is t r false g1 W
    have x2 : True := trivial
    have x3 : True := trivial
    obtain rfl : B = false := by rw [← hB]; simp [opB, g1]
    clear hB g1 HVR
    repeat (go_big_quiet_step ((first | (go_at_call_of 59 (Value.agg #[.int .i64 t, .int .i64 r]); with_reducible exact x1 _ _) | (go_at_call_of 59 (Value.agg #[.int .i64 nt, .int .i64 nr]); with_reducible exact x3 _ _) | (go_at_call 60; with_reducible exact x2 _ _))))
    refine wpQuiet_nil ?_
    intro _ hw'
    obtain ⟨⟨dq, osq⟩, hw''⟩ := hw'
    subst hw''
    go_wp2
    go_ret
    exact ⟨rfl, HB.out.trans ((below_regrown _ dq osq).mono HB.out.size)⟩
  · have x1 : St.RegrownTo W 59 #[.agg #[.int .i64 t, .int .i64 r]] (.bool true) := St.regrown_bel fun W => refSt_is t r true g1 W
    obtain ⟨hr0, hr1⟩ := stB_rep g1
    cases g2 : Hv.vecB ds
    · have x2 := HVR.out _ g2
      have x3 : True := trivial
      obtain rfl : B = false := by rw [← hB]; simp [opB, cntB, g2]
      clear hB g1 g2 HVR
      repeat (go_big_quiet_step ((first | (go_at_call_of 59 (Value.agg #[.int .i64 t, .int .i64 r]); with_reducible exact x1 _ _) | (go_at_call_of 59 (Value.agg #[.int .i64 nt, .int .i64 nr]); with_reducible exact x3 _ _) | (go_at_call 60; with_reducible exact x2 _ _))))
      refine wpQuiet_nil ?_
      intro _ hw'
      obtain ⟨⟨dq, osq⟩, hw''⟩ := hw'
      subst hw''
      go_wp2
      go_ret
      exact ⟨rfl, HB.out.trans ((below_regrown _ dq osq).mono HB.out.size)⟩
    · have x2 := HVR.out _ g2
      by_cases g3 : r < ds.length
      · have hd3 : decide ((dn : Int) ≤ r) = false := decide_eq_false (by have := HN.out; omega)
        have hd3' : ¬ (dn : Int) ≤ r := by have := HN.out; omega
        by_cases g4 : q < 1
        · have hd4 : decide (q < 1) = true := decide_eq_true g4
          have x3 : True := trivial
          obtain rfl : B = false := by
            rw [← hB]
            have : ¬ 1 ≤ q := by omega
            simp [opB, cntB, this]
          clear hB g1 g2 g3 HVR
          repeat (go_big_quiet_step ((first | (go_at_call_of 59 (Value.agg #[.int .i64 t, .int .i64 r]); with_reducible exact x1 _ _) | (go_at_call_of 59 (Value.agg #[.int .i64 nt, .int .i64 nr]); with_reducible exact x3 _ _) | (go_at_call 60; with_reducible exact x2 _ _))))
          refine wpQuiet_nil ?_
          intro _ hw'
          obtain ⟨⟨dq, osq⟩, hw''⟩ := hw'
          subst hw''
          go_wp2
          go_ret
          exact ⟨rfl, HB.out.trans ((below_regrown _ dq osq).mono HB.out.size)⟩
        · have hd4 : decide (q < 1) = false := decide_eq_false g4
          by_cases g5 : 1099511627776 < q
          · have hd5 : decide (1099511627776 < q) = true := decide_eq_true g5
            have x3 : True := trivial
            obtain rfl : B = false := by
              rw [← hB]
              have : ¬ q ≤ 1099511627776 := by omega
              simp [opB, cntB, this]
            clear hB g1 g2 g3 HVR
            repeat (go_big_quiet_step ((first | (go_at_call_of 59 (Value.agg #[.int .i64 t, .int .i64 r]); with_reducible exact x1 _ _) | (go_at_call_of 59 (Value.agg #[.int .i64 nt, .int .i64 nr]); with_reducible exact x3 _ _) | (go_at_call 60; with_reducible exact x2 _ _))))
            refine wpQuiet_nil ?_
            intro _ hw'
            obtain ⟨⟨dq, osq⟩, hw''⟩ := hw'
            subst hw''
            go_wp2
            go_ret
            exact ⟨rfl, HB.out.trans ((below_regrown _ dq osq).mono HB.out.size)⟩
          · have hd5 : decide (1099511627776 < q) = false := decide_eq_false g5
            obtain ⟨rn, hrn⟩ : ∃ rn : Nat, r = rn := ⟨r.toNat, by omega⟩
            obtain ⟨b, off, hda, hc⟩ := HR.out rn (by omega)
            have hc' : ∀ d os, (Go.Sort.grow (redrawn W d) os).cell? ⟨b, off + rn, none⟩ = some (.int .i64 (ds.getD rn 0)) := cell_regrown hc
            have hx := Hv.vecB_at g2 (k := rn) (by omega)
            have hwx : wrap64 (ds.getD rn 0 + 1) = ds.getD rn 0 + 1 := IntWalk.wrap64_in _ (by omega)
            have hw2 : IntKind.i64.wrap (ds.getD rn 0 + 1) = ds.getD rn 0 + 1 := IntWalk.i64_in _ (by omega)
            have hlr : rn < dn := by have := HN.out; omega
            have hE : cntB r q ds = decide (q = ds.getD rn 0 + 1) := by
              have e1 : r.toNat = rn := by omega
              simp only [cntB, g2, g3, e1, decide_true, Bool.true_and, decide_eq_true (show 1 ≤ q by omega), decide_eq_true (show q ≤ 1099511627776 by omega)]
            unfold opB at hB
            rw [g1, hE] at hB
            clear hE g1 g2 hc g3 HVR
            generalize ds.getD rn 0 = x at *
            subst hrn hda
            by_cases g6 : q = x + 1
            · have hd6 : (q != x + 1) = false := by simpa using g6
              rw [decide_eq_true g6] at hB
              clear g6
              cases g7 : St.stB nt nr
              · have x3 : St.RegrownTo W 59 #[.agg #[.int .i64 nt, .int .i64 nr]] (.bool false) := St.regrown_bel fun W => refSt_is nt nr false g7 W
                obtain rfl : B = false := by rw [← hB, g7]; rfl
                clear g7 hB
                repeat (go_big_quiet_step ((first | (go_at_call_of 59 (Value.agg #[.int .i64 t, .int .i64 (rn : Int)]); with_reducible exact x1 _ _) | (go_at_call_of 59 (Value.agg #[.int .i64 nt, .int .i64 nr]); with_reducible exact x3 _ _) | (go_at_call 60; with_reducible exact x2 _ _))))
                refine wpQuiet_nil ?_
                intro _ hw'
                obtain ⟨⟨dq, osq⟩, hw''⟩ := hw'
                subst hw''
                go_wp2
                go_ret
                exact ⟨rfl, HB.out.trans ((below_regrown _ dq osq).mono HB.out.size)⟩
              · have x3 : St.RegrownTo W 59 #[.agg #[.int .i64 nt, .int .i64 nr]] (.bool true) := St.regrown_bel fun W => refSt_is nt nr true g7 W
                rw [g7] at hB
                simp only [Bool.true_and] at hB
                clear g7
                repeat (go_big_quiet_step ((first | (go_at_call_of 59 (Value.agg #[.int .i64 t, .int .i64 (rn : Int)]); with_reducible exact x1 _ _) | (go_at_call_of 59 (Value.agg #[.int .i64 nt, .int .i64 nr]); with_reducible exact x3 _ _) | (go_at_call 60; with_reducible exact x2 _ _))))
                refine wpQuiet_nil ?_
                intro _ hw'
                obtain ⟨⟨dq, osq⟩, hw''⟩ := hw'
                subst hw''
                have HB1 := Lib.hid (HB.out.trans ((below_regrown _ dq osq).mono HB.out.size))
                have HA1 := Lib.hid (HA.out.next (below_regrown _ dq osq))
                have HR1 := Lib.hid (HR.out.below (below_regrown _ dq osq) (Nat.le_refl _))
                clear c0 c1 c2 c3 c4 c5 c6 c7 c8 c9 c10 c11 x1 x2 x3 hc' HB HA HR hd3 hd3' hd4 hd5 hd6 hwx hw2 hlr
                generalize Go.Sort.grow (redrawn W dq) osq = W1 at *
                obtain ⟨c0, c1, c2, c3, c4, c5, c6, c7, c8, c9, c10, c11⟩ := HA1.out
                have hbd := fun W => op_build t (rn : Int) q (some ⟨b, off, none⟩) dn dc k nt nr W
                have hgl := HA1.out.lt
                have E := Lib.hid (fun W (h : RowK .i64 W (some ⟨b, off, none⟩) ds) pt pr s p v pt' pr' s' p' v' => eqOp_any t (rn : Int) q (some ⟨b, off, none⟩) ds dn dc k nt nr pt pr s p v pt' pr' s' p' v' (some ⟨b, off, none⟩) dn dc W h HN.out HL.out h HN.out)
                by_cases g8 : k = 1
                · subst g8
                  cases hq : eqOB pt pr s 0 0 pt pr s p v
                  · obtain rfl : B = false := by
                      rw [← hB]
                      have : ¬ (0 = p ∧ 0 = v) := by
                        rintro ⟨rfl, rfl⟩
                        rw [eqOB_same] at hq
                        exact absurd hq (by decide)
                      by_cases h0 : p = 0
                      · have : ¬ v = 0 := by omega
                        simp [kndB, this]
                      · simp [kndB, h0]
                    clear hB
                    go_wp2_with fail
                    go_region
                    go_wp2_with fail
                    refine (E.out _ (HR1.out.alloc _).drew _ _ _ _ _ _ _ _ _ _).mono ?_
                    rintro e W3 ⟨rfl, hb3⟩
                    rw [hq]
                    have HB3 := Lib.hid ((HB1.out.alloc HB1.out.size _).drew.trans (hb3.mono (HB1.out.alloc HB1.out.size _).drew.size))
                    have HA3 := Lib.hid ((HA1.out.next (box_bel _ _)).drew.next hb3)
                    clear hb3 c0 c1 c2 c3 c4 c5 c6 c7 c8 c9 c10 c11 hq
                    obtain ⟨c0, c1, c2, c3, c4, c5, c6, c7, c8, c9, c10, c11⟩ := HA3.out
                    go_wp2
                    go_ret
                    exact ⟨rfl, HB3.out⟩
                  · have hpv : p = 0 ∧ v = 0 := by
                      simp [eqOB] at hq
                      omega
                    obtain ⟨hp0, hv0⟩ := hpv
                    cases h1 : St.plB pt pr
                    · obtain rfl : B = false := by rw [← hB]; simp [kndB, h1]
                      have D1 := Lib.hid (fun W => St.refPlace_is pt pr false h1 W)
                      clear h1 hp0 hv0
                      clear hB
                      go_wp2_with fail
                      go_region
                      go_wp2_with fail
                      refine (E.out _ (HR1.out.alloc _).drew _ _ _ _ _ _ _ _ _ _).mono ?_
                      rintro e W3 ⟨rfl, hb3⟩
                      rw [hq]
                      have HB3 := Lib.hid ((HB1.out.alloc HB1.out.size _).drew.trans (hb3.mono (HB1.out.alloc HB1.out.size _).drew.size))
                      have HA3 := Lib.hid ((HA1.out.next (box_bel _ _)).drew.next hb3)
                      clear hb3 c0 c1 c2 c3 c4 c5 c6 c7 c8 c9 c10 c11 hq
                      obtain ⟨c0, c1, c2, c3, c4, c5, c6, c7, c8, c9, c10, c11⟩ := HA3.out
                      go_wp2_with fail
                      refine (D1.out _).mono ?_
                      rintro e W4 ⟨rfl, hb4⟩
                      have HB4 := Lib.hid (HB3.out.trans (hb4.mono HB3.out.size))
                      have HA4 := Lib.hid (HA3.out.next hb4)
                      clear hb4 c0 c1 c2 c3 c4 c5 c6 c7 c8 c9 c10 c11
                      obtain ⟨c0, c1, c2, c3, c4, c5, c6, c7, c8, c9, c10, c11⟩ := HA4.out
                      go_wp2
                      go_ret
                      exact ⟨rfl, HB4.out⟩
                    · have D1 := Lib.hid (fun W => St.refPlace_is pt pr true h1 W)
                      have D2 := Lib.hid (fun W => Ky.refKey_any s W)
                      have hB' : Ky.keyB (strN s) = B := by rw [← hB]; simp [kndB, h1, hp0, hv0]
                      rw [hB'] at D2
                      clear h1 hp0 hv0 hB'
                      clear hB
                      go_wp2_with fail
                      go_region
                      go_wp2_with fail
                      refine (E.out _ (HR1.out.alloc _).drew _ _ _ _ _ _ _ _ _ _).mono ?_
                      rintro e W3 ⟨rfl, hb3⟩
                      rw [hq]
                      have HB3 := Lib.hid ((HB1.out.alloc HB1.out.size _).drew.trans (hb3.mono (HB1.out.alloc HB1.out.size _).drew.size))
                      have HA3 := Lib.hid ((HA1.out.next (box_bel _ _)).drew.next hb3)
                      clear hb3 c0 c1 c2 c3 c4 c5 c6 c7 c8 c9 c10 c11 hq
                      obtain ⟨c0, c1, c2, c3, c4, c5, c6, c7, c8, c9, c10, c11⟩ := HA3.out
                      go_wp2_with fail
                      refine (D1.out _).mono ?_
                      rintro e W4 ⟨rfl, hb4⟩
                      have HB4 := Lib.hid (HB3.out.trans (hb4.mono HB3.out.size))
                      have HA4 := Lib.hid (HA3.out.next hb4)
                      clear hb4 c0 c1 c2 c3 c4 c5 c6 c7 c8 c9 c10 c11
                      obtain ⟨c0, c1, c2, c3, c4, c5, c6, c7, c8, c9, c10, c11⟩ := HA4.out
                      go_wp2_with fail
                      refine (D2.out _).mono ?_
                      rintro e W5 ⟨rfl, rfl⟩
                      go_wp2
                      go_ret
                      exact ⟨rfl, HB4.out⟩
                · by_cases g9 : k = 2
                  · subst g9
                    cases hq : eqOB 0 0 ⟨#[]⟩ p v pt pr s p v
                    · obtain rfl : B = false := by
                        rw [← hB]
                        have e0 : strN ⟨#[]⟩ = [] := rfl
                        by_cases h0 : pt = 0 ∧ pr = 0
                        · have : ¬ strN s = [] := by
                            intro h
                            obtain ⟨rfl, rfl⟩ := h0
                            have : eqOB 0 0 ⟨#[]⟩ p v 0 0 s p v = true := by simp [eqOB, e0, h]
                            rw [this] at hq
                            exact absurd hq (by decide)
                          simp [kndB, this]
                        · simp [kndB, h0]
                      clear hB
                      go_wp2_with fail
                      go_region
                      go_wp2_with fail
                      refine (E.out _ (HR1.out.alloc _).drew _ _ _ _ _ _ _ _ _ _).mono ?_
                      rintro e W3 ⟨rfl, hb3⟩
                      rw [hq]
                      have HB3 := Lib.hid ((HB1.out.alloc HB1.out.size _).drew.trans (hb3.mono (HB1.out.alloc HB1.out.size _).drew.size))
                      have HA3 := Lib.hid ((HA1.out.next (box_bel _ _)).drew.next hb3)
                      clear hb3 c0 c1 c2 c3 c4 c5 c6 c7 c8 c9 c10 c11 hq
                      obtain ⟨c0, c1, c2, c3, c4, c5, c6, c7, c8, c9, c10, c11⟩ := HA3.out
                      go_wp2
                      go_ret
                      exact ⟨rfl, HB3.out⟩
                    · have hpv : (pt = 0 ∧ pr = 0) ∧ strN s = [] := by
                        have e0 : strN ⟨#[]⟩ = [] := rfl
                        simp [eqOB, e0] at hq
                        exact ⟨⟨by omega, by omega⟩, hq.2⟩
                      obtain ⟨hp0, hv0⟩ := hpv
                      have D2 := Lib.hid (fun W => Pr.refCheck_any p v W)
                      by_cases h1 : Pr.errP p v = 0
                      · obtain rfl : B = true := by rw [← hB]; simp [kndB, h1, hp0, hv0]
                        rw [h1] at D2
                        clear h1 hp0 hv0
                        clear hB
                        go_wp2_with fail
                        go_region
                        go_wp2_with fail
                        refine (E.out _ (HR1.out.alloc _).drew _ _ _ _ _ _ _ _ _ _).mono ?_
                        rintro e W3 ⟨rfl, hb3⟩
                        rw [hq]
                        have HB3 := Lib.hid ((HB1.out.alloc HB1.out.size _).drew.trans (hb3.mono (HB1.out.alloc HB1.out.size _).drew.size))
                        have HA3 := Lib.hid ((HA1.out.next (box_bel _ _)).drew.next hb3)
                        clear hb3 c0 c1 c2 c3 c4 c5 c6 c7 c8 c9 c10 c11 hq
                        obtain ⟨c0, c1, c2, c3, c4, c5, c6, c7, c8, c9, c10, c11⟩ := HA3.out
                        go_wp2_with fail
                        refine (D2.out _).mono ?_
                        rintro e W5 ⟨rfl, rfl⟩
                        go_wp2
                        go_ret
                        exact ⟨rfl, HB3.out⟩
                      · obtain rfl : B = false := by rw [← hB]; simp [kndB, h1]
                        have h1' : (Pr.errP p v == 0) = false := by simpa using h1
                        generalize Pr.errP p v = z at *
                        clear hp0 hv0
                        clear hB
                        go_wp2_with fail
                        go_region
                        go_wp2_with fail
                        refine (E.out _ (HR1.out.alloc _).drew _ _ _ _ _ _ _ _ _ _).mono ?_
                        rintro e W3 ⟨rfl, hb3⟩
                        rw [hq]
                        have HB3 := Lib.hid ((HB1.out.alloc HB1.out.size _).drew.trans (hb3.mono (HB1.out.alloc HB1.out.size _).drew.size))
                        have HA3 := Lib.hid ((HA1.out.next (box_bel _ _)).drew.next hb3)
                        clear hb3 c0 c1 c2 c3 c4 c5 c6 c7 c8 c9 c10 c11 hq
                        obtain ⟨c0, c1, c2, c3, c4, c5, c6, c7, c8, c9, c10, c11⟩ := HA3.out
                        go_wp2_with fail
                        refine (D2.out _).mono ?_
                        rintro e W5 ⟨rfl, rfl⟩
                        go_wp2
                        go_ret
                        exact ⟨rfl, HB3.out⟩
                  · obtain rfl : B = false := by rw [← hB]; simp [kndB, g8, g9]
                    have g8' : (k == 1) = false := by simpa using g8
                    have g9' : (k == 2) = false := by simpa using g9
                    clear hB E
                    go_wp2
                    go_ret
                    exact ⟨rfl, HB1.out.alloc HB1.out.size _⟩
            · have hd6 : (q != x + 1) = true := by simpa using g6
              have x3 : True := trivial
              rw [decide_eq_false g6] at hB
              obtain rfl : B = false := by rw [← hB]; simp
              clear hB
              repeat (go_big_quiet_step ((first | (go_at_call_of 59 (Value.agg #[.int .i64 t, .int .i64 (rn : Int)]); with_reducible exact x1 _ _) | (go_at_call_of 59 (Value.agg #[.int .i64 nt, .int .i64 nr]); with_reducible exact x3 _ _) | (go_at_call 60; with_reducible exact x2 _ _))))
              refine wpQuiet_nil ?_
              intro _ hw'
              obtain ⟨⟨dq, osq⟩, hw''⟩ := hw'
              subst hw''
              go_wp2
              go_ret
              exact ⟨rfl, HB.out.trans ((below_regrown _ dq osq).mono HB.out.size)⟩
      · have hd3 : decide ((dn : Int) ≤ r) = true := decide_eq_true (by have := HN.out; omega)
        have hd3' : (dn : Int) ≤ r := by have := HN.out; omega
        have x3 : True := trivial
        obtain rfl : B = false := by rw [← hB]; simp [opB, cntB, g3]
        clear hB g1 g2 g3 HVR
        repeat (go_big_quiet_step ((first | (go_at_call_of 59 (Value.agg #[.int .i64 t, .int .i64 r]); with_reducible exact x1 _ _) | (go_at_call_of 59 (Value.agg #[.int .i64 nt, .int .i64 nr]); with_reducible exact x3 _ _) | (go_at_call 60; with_reducible exact x2 _ _))))
        refine wpQuiet_nil ?_
        intro _ hw'
        obtain ⟨⟨dq, osq⟩, hw''⟩ := hw'
        subst hw''
        go_wp2
        go_ret
        exact ⟨rfl, HB.out.trans ((below_regrown _ dq osq).mono HB.out.size)⟩
end Go.Proofs.YtjlbpmmckgjajaaDoor
