/- Joined: D25. -/
import Derived.Test.YtdpopdlifcjdeaaDoorYD12

/- Hold: the page's Hold. -/
namespace Go.Proofs.YtdpopdlifcjdeaaDoor
open Go.RowKit Go.Lib
set_option linter.unusedVariables false

theorem heldAt_prev {v : List Int} {hs : List OpD} {k : Nat} {x : OpD} (h : hs[k]? = some x) (h1 : fitsB v x = true) (h2 : readyB v x = false) (h3 : knownB v (hs.take k) x = false) (h4 : prevB hs x k = true) : heldAt v hs k = true := by rw [heldAt_is h, h1, h2, h3, h4]; rfl
set_option maxHeartbeats 8000000 in
set_option maxRecDepth 100000 in
theorem refHold_any (va : Option Addr) (v : List Int) (vn vc : Nat) (ha : Option Addr) (hs : List OpD) (n c : Nat) (w : World) (hv : RowK .i64 w va v) (hvn : vn = v.length) (hvl : v.length ≤ 140737488355328) (hr : RowO w ha hs) (hn : n = hs.length) (hl : hs.length * 120 ≤ 140737488355328) :
    Calls Tryd.prog 13 #[.slice va vn vc, .slice ha n c] w (BoolPost w (heldB v hs)) := by
  have mixed : Tryd.prog.follows .mixedOrders = true := by kernel_rfl
  have HA := Lib.hid hr
  have HN := Lib.hid hn
  have HV := Lib.hid hv
  have HVN := Lib.hid hvn
  have HVL := Lib.hid hvl
  have HL := Lib.hid hl
  have hnl : n * 120 ≤ 140737488355328 := by omega
  obtain ⟨fin, hfin⟩ : ∃ fin, heldB v hs = fin := ⟨_, rfl⟩
  rw [hfin]
  have HFIN := Lib.hid hfin
  clear hfin
  cases hvec : Hv.vecB v
  · have C := Lib.hid (Hv.refVector_is va v vn vc w hv hvn hvl hvec)
    have HF : Hid (fin = false) := by show _ = _; rw [← HFIN.out]; simp [heldB, hvec]
    clear hvec hr hn hv hvn hvl hl
    go_enter Tryd.func13, Tryd.ntmps13
    go_wp2_with fail
    refine (C.out).mono ?_
    rintro e w1 ⟨rfl, rfl⟩
    go_wp2
    go_ret
    exact ⟨by rw [HF.out]; rfl, Below.refl _ _⟩
  · have C := Lib.hid (Hv.refVector_is va v vn vc w hv hvn hvl hvec)
    have HVEC := Lib.hid hvec
    by_cases h16 : n ≤ 16
    · have h16z : ¬ (16 : Int) < (n : Int) := by omega
      clear hvec hr hn hv hvn hvl hl
      go_enter Tryd.func13, Tryd.ntmps13
      go_wp2_with fail
      refine (C.out).mono ?_
      rintro e w1 ⟨rfl, rfl⟩
      go_wp2
      go_loopg [5, 6, 7] n (fun gg s5 _ _ wr => ∃ k : Nat, s5 = .int .i64 (k : Int) ∧ k ≤ n ∧ n - k ≤ gg ∧ Hid (∀ j, j < k → heldAt v hs j = true) ∧ Hid (Below w.heap.size w wr))
      case atStart => exact ⟨0, rfl, Nat.zero_le _, by omega, fun j hj => absurd hj (Nat.not_lt_zero _), Below.refl _ _⟩
      case round =>
        obtain ⟨k, rfl, hk, hg, HF, HI⟩ := hrel
        by_cases hin : k < n
        · have hinz : (k : Int) < (n : Int) := by omega
          obtain ⟨x, hx⟩ : ∃ x, hs[k]? = some x := ⟨_, List.getElem?_eq_getElem (by rw [← HN.out]; exact hin)⟩
          obtain ⟨b, off, rfl, da, dc, hat, hrow, hdm⟩ := (HA.out.below HI.out) k x hx
          have HX := Lib.hid hx
          have HBX := Lib.hid (box_bel wr (objO x da x.1.ds.length dc))
          have HBX2 := Lib.hid (HI.out.trans (HBX.out.mono HI.out.size))
          have HAX := Lib.hid (OpX.new wr x da x.1.ds.length dc)
          have HRW := Lib.hid (hrow.alloc (objO x da x.1.ds.length dc))
          have HDM := Lib.hid hdm
          obtain ⟨f, hf⟩ : ∃ f, fitsB v x = f := ⟨_, rfl⟩
          have CF := Lib.hid (fun W (hb : Below wr.heap.size wr W) => refFits_any va v vn vc x da x.1.ds.length dc W (HV.out.below (HI.out.trans (hb.mono HI.out.size)) (Nat.le_refl _)) HVN.out HVL.out (hrow.below hb (Nat.le_refl _)) rfl (by have := HDM.out; omega))
          rw [hf] at CF
          have HFX := Lib.hid hf
          have HRX := Lib.hid (fun W (hb : Below wr.heap.size wr W) => hrow.below hb (Nat.le_refl _))
          clear hx hf hrow
          obtain ⟨c0, c1, c2, c3, c4, c5, c6, c7, c8, c9, c10, c11⟩ := hat
          generalize hdn : x.1.ds.length = dn at *
          have HDN := Lib.hid hdn
          clear hdn hdm
          go_wp2_with fail
          obtain ⟨W, hW⟩ : ∃ W, wr.alloc (objO x da dn dc) = W := ⟨_, rfl⟩
          rw [hW] at HBX HBX2 HAX HRW
          have HW := Lib.hid hW
          clear c0 c1 c2 c3 c4 c5 c6 c7 c8 c9 c10 c11
          simp only [objO] at hW
          rw [hW]
          clear hW
          have x1 : St.RegrownTo W 14 #[.slice va vn vc, valO x da dn dc] (.bool f) := regrown_at fun W' hb => CF.out W' (HBX.out.trans (hb.mono HBX.out.size))
          obtain ⟨g0, g1, g2, g3, g4, g5, g6, g7, g8, g9, g10, g11⟩ := HAX.out.regrown
          cases f
          · have HR : Hid (fin = false) := by show _ = _; rw [← HFIN.out]; exact held_no (by rw [← HN.out]; exact hin) (heldAt_fits HX.out HFX.out)
            refine wp_region_quiet_below (by assumption) (by kernel_rfl) ?_
            repeat (go_big_quiet_step ((first | (go_at_call 14; with_reducible exact x1 _ _))))
            refine wpQuiet_nil ?_
            intro _ hw'
            obtain ⟨⟨dq, osq⟩, hw''⟩ := hw'
            subst hw''
            have HB2 := Lib.hid (HBX2.out.trans ((below_regrown _ dq osq).mono HBX2.out.size))
            have HAY := Lib.hid (HAX.out.next (below_regrown _ dq osq))
            generalize Go.Sort.grow (redrawn W dq) osq = w2 at *
            clear g0 g1 g2 g3 g4 g5 g6 g7 g8 g9 g10 g11
            clear x1
            go_wp2
            go_ret
            exact ⟨by rw [HR.out]; rfl, HB2.out⟩
          · have F := ok_facts (fits_iff.1 HFX.out).2.1
            have hlt := fits_lt HFX.out
            have hr0 : 0 ≤ x.1.r := F.r0
            have hr1 : x.1.r < (vn : Int) := by have := HVN.out; omega
            obtain ⟨vb, vo, rfl, hc⟩ := (HV.out.below HBX2.out (Nat.le_refl _)) x.1.r.toNat (by have := HVN.out; omega)
            have HZ : Hid (atV v x = v.getD x.1.r.toNat 0) := rfl
            have gv := cell_regrown hc
            clear hc F hlt
            generalize v.getD x.1.r.toNat 0 = z at *
            cases hd : decide (x.2 ≤ z)
            · have HD0 := Lib.hid hd
              obtain ⟨rb, hrb⟩ : ∃ rb, readyB v x = rb := ⟨_, rfl⟩
              have CR := Lib.hid (fun W' (hb : Below W.heap.size W W') => refReady_any (some ⟨vb, vo, none⟩) v vn vc x da dn dc W' (HV.out.below (HBX2.out.trans (hb.mono HBX2.out.size)) (Nat.le_refl _)) HVN.out (HRX.out W' (HBX.out.trans (hb.mono HBX.out.size))) HDN.out.symm HFX.out)
              rw [hrb] at CR
              have HRB := Lib.hid hrb
              clear hrb
              have x2 : St.RegrownTo W 16 #[.slice (some ⟨vb, vo, none⟩) vn vc, valO x da dn dc] (.bool rb) := regrown_at fun W' hb => CR.out W' hb
              cases rb
              · rcases Nat.eq_zero_or_pos k with hk0 | hkp
                · have hkpz : ¬ (0 : Int) < (k : Int) := by omega
                  refine wp_region_quiet_below (by assumption) (by kernel_rfl) ?_
                  repeat (go_big_quiet_step ((first | (go_at_call 14; with_reducible exact x1 _ _) | (go_at_call 16; with_reducible exact x2 _ _))))
                  refine wpQuiet_nil ?_
                  intro _ hw'
                  obtain ⟨⟨dq, osq⟩, hw''⟩ := hw'
                  subst hw''
                  have HB2 := Lib.hid (HBX2.out.trans ((below_regrown _ dq osq).mono HBX2.out.size))
                  have HAY := Lib.hid (HAX.out.next (below_regrown _ dq osq))
                  generalize Go.Sort.grow (redrawn W dq) osq = w2 at *
                  clear g0 g1 g2 g3 g4 g5 g6 g7 g8 g9 g10 g11 gv
                  clear x1 x2
                  go_wp2_with fail
                  go_loopg [7] k (fun gi s7 wi => ∃ j : Nat, s7 = .int .i64 (j : Int) ∧ j ≤ k ∧ k - j ≤ gi ∧ Hid (∀ i y, i < j → hs[i]? = some y → sameB y x = false) ∧ Hid (Below w2.heap.size w2 wi))
                  case atStart => exact ⟨0, rfl, Nat.zero_le _, by omega, fun i y hi => absurd hi (Nat.not_lt_zero _), Below.refl _ _⟩
                  case round =>
                    obtain ⟨j, rfl, hj, hgi, HS, HBI⟩ := hrel
                    have HB3 := Lib.hid (HB2.out.trans (HBI.out.mono HB2.out.size))
                    by_cases hjk : j < k
                    · omega
                    · have hjkz : ¬ (j : Int) < (k : Int) := by omega
                      have HKN : Hid (knownB v (hs.take k) x = false) := by
                        show _ = _
                        unfold knownB
                        rw [Bool.or_eq_false_iff]
                        refine ⟨by rw [HZ.out]; exact HD0.out, ?_⟩
                        rw [List.any_eq_false]
                        intro y hy
                        obtain ⟨i, hi⟩ := List.getElem?_of_mem hy
                        rw [List.getElem?_take] at hi
                        split at hi
                        · rw [HS.out i y (by omega) hi]; simp
                        · cases hi
                      have HF2 : Hid (∀ j, j < k + 1 → heldAt v hs j = true) := fun j' hj' => by
                        by_cases e : j' = k
                        · subst e
                          exact heldAt_prev HX.out HFX.out HRB.out HKN.out (by rw [hk0]; rfl)
                        · exact HF.out j' (by omega)
                      go_wp2_with fail
                      go_roundg (n - (k + 1))
                      case measure => omega
                      case rel => exact ⟨k + 1, by go_num, by omega, by omega, HF2.out, HB3.out⟩
                · obtain ⟨k', hk'⟩ : ∃ k', k = k' + 1 := ⟨k - 1, by omega⟩
                  obtain ⟨y, hy⟩ : ∃ y, hs[k']? = some y := ⟨_, List.getElem?_eq_getElem (by have := HN.out; omega)⟩
                  obtain ⟨b', off', hbo, da', dc', hat', -, -⟩ := (HA.out.below HBX2.out) k' y hy
                  obtain ⟨rfl, rfl⟩ : b = b' ∧ off = off' := by simpa using hbo
                  clear hbo
                  have HYP := Lib.hid hy
                  have hkz : (k : Int) - 1 = (k' : Int) := by omega
                  have hkw : wrap64 ((k : Int) - 1) = (k' : Int) := by rw [IntWalk.wrap64_in _ (by omega)]; omega
                  have hkw2 : IntKind.i64.wrap ((k : Int) - 1) = (k' : Int) := by rw [IntWalk.i64_in _ (by omega)]; omega
                  have hkpz : (0 : Int) < (k : Int) := by omega
                  have hk'n : (k' : Int) < (n : Int) := by omega
                  generalize y.1.ds.length = dn' at hat'
                  obtain ⟨cz, hcz⟩ : ∃ cz, cmpO y x = cz := ⟨_, rfl⟩
                  have CL := Lib.hid (fun W => St.refCmp_any y.1.t y.1.r x.1.t x.1.r W)
                  have HCZ := Lib.hid hcz
                  unfold cmpO at hcz
                  rw [hcz] at CL
                  clear hcz hy
                  have x3 : St.RegrownTo W 36 #[.agg #[.int .i64 y.1.t, .int .i64 y.1.r], .agg #[.int .i64 x.1.t, .int .i64 x.1.r]] (.int .i64 cz) := regrown_at fun W' hb => CL.out W'
                  obtain ⟨f0, f1, f2, f3, f4, f5, f6, f7, f8, f9, f10, f11⟩ := hat'.regrown
                  clear hat' CL
                  cases hcd : decide (0 ≤ cz)
                  · refine wp_region_quiet_below (by assumption) (by kernel_rfl) ?_
                    repeat (go_big_quiet_step ((first | (go_at_call 14; with_reducible exact x1 _ _) | (go_at_call 16; with_reducible exact x2 _ _) | (go_at_call 36; with_reducible exact x3 _ _))))
                    refine wpQuiet_nil ?_
                    intro _ hw'
                    obtain ⟨⟨dq, osq⟩, hw''⟩ := hw'
                    subst hw''
                    have HB2 := Lib.hid (HBX2.out.trans ((below_regrown _ dq osq).mono HBX2.out.size))
                    have HAY := Lib.hid (HAX.out.next (below_regrown _ dq osq))
                    generalize Go.Sort.grow (redrawn W dq) osq = w2 at *
                    clear g0 g1 g2 g3 g4 g5 g6 g7 g8 g9 g10 g11 gv
                    clear f0 f1 f2 f3 f4 f5 f6 f7 f8 f9 f10 f11
                    clear x1 x2 x3
                    have HPV : Hid (prevB hs x k = true) := by
                      show _ = _
                      rw [hk', prevB_succ HYP.out, HCZ.out]
                      exact decide_eq_true (by have := of_decide_eq_false hcd; omega)
                    go_wp2_with fail
                    go_loopg [7] k (fun gi s7 wi => ∃ j : Nat, s7 = .int .i64 (j : Int) ∧ j ≤ k ∧ k - j ≤ gi ∧ Hid (∀ i y, i < j → hs[i]? = some y → sameB y x = false) ∧ Hid (Below w2.heap.size w2 wi))
                    case atStart => exact ⟨0, rfl, Nat.zero_le _, by omega, fun i y hi => absurd hi (Nat.not_lt_zero _), Below.refl _ _⟩
                    case round =>
                      obtain ⟨j, rfl, hj, hgi, HS, HBI⟩ := hrel
                      have HB3 := Lib.hid (HB2.out.trans (HBI.out.mono HB2.out.size))
                      by_cases hjk : j < k
                      · have hjkz : (j : Int) < (k : Int) := by omega
                        have hjnz : (j : Int) < (n : Int) := by omega
                        obtain ⟨y, hy⟩ : ∃ y, hs[j]? = some y := ⟨_, List.getElem?_eq_getElem (by have := HN.out; omega)⟩
                        obtain ⟨b', off', hbo, da', dc', hat', -, -⟩ := (HA.out.below HB3.out) j y hy
                        obtain ⟨rfl, rfl⟩ : b = b' ∧ off = off' := by simpa using hbo
                        clear hbo
                        have HY := Lib.hid hy
                        generalize y.1.ds.length = dn' at hat'
                        obtain ⟨sb, hsb⟩ : ∃ sb, sameB y x = sb := ⟨_, rfl⟩
                        have CSM := Lib.hid (fun W => refSame_any y da' dn' dc' x da dn dc W)
                        rw [hsb] at CSM
                        have HSB := Lib.hid hsb
                        clear hy hsb
                        have x4 : St.RegrownTo wr 37 #[valO y da' dn' dc', valO x da dn dc] (.bool sb) := regrown_at fun W' hb => CSM.out W'
                        obtain ⟨g0, g1, g2, g3, g4, g5, g6, g7, g8, g9, g10, g11⟩ := (HAY.out.next HBI.out).regrown
                        obtain ⟨f0, f1, f2, f3, f4, f5, f6, f7, f8, f9, f10, f11⟩ := hat'.regrown
                        clear hat' CSM
                        go_wp2_with fail
                        refine wp_region_quiet_below (by assumption) (by kernel_rfl) ?_
                        repeat (go_big_quiet_step ((first | (go_at_call 37; with_reducible exact x4 _ _))))
                        refine wpQuiet_nil ?_
                        intro _ hw'
                        obtain ⟨⟨dq, osq⟩, hw''⟩ := hw'
                        subst hw''
                        have HB4 := Lib.hid (HBI.out.trans ((below_regrown _ dq osq).mono HBI.out.size))
                        clear g0 g1 g2 g3 g4 g5 g6 g7 g8 g9 g10 g11 f0 f1 f2 f3 f4 f5 f6 f7 f8 f9 f10 f11 x4
                        generalize Go.Sort.grow (redrawn wr dq) osq = w4 at *
                        cases sb
                        · have HS2 : Hid (∀ i y', i < j + 1 → hs[i]? = some y' → sameB y' x = false) := fun i y' hi hy' => by
                            by_cases e : i = j
                            · subst e
                              rw [HY.out] at hy'
                              injection hy' with hy'
                              rw [← hy']
                              exact HSB.out
                            · exact HS.out i y' (by omega) hy'
                          go_wp2_with fail
                          go_roundg (k - (j + 1))
                          case measure => omega
                          case rel => exact ⟨j + 1, by go_num, by omega, by omega, HS2.out, HB4.out⟩
                        · have HR : Hid (fin = false) := by
                            show _ = _
                            rw [← HFIN.out]
                            refine held_no (by rw [← HN.out]; exact hin) (heldAt_known HX.out ?_)
                            unfold knownB
                            rw [Bool.or_eq_true]
                            right
                            rw [List.any_eq_true]
                            exact ⟨y, List.mem_of_getElem? (by rw [List.getElem?_take, if_pos hjk]; exact HY.out), HSB.out⟩
                          go_wp2
                          go_ret
                          exact ⟨by rw [HR.out]; rfl, HB2.out.trans (HB4.out.mono HB2.out.size)⟩
                      · have hjkz : ¬ (j : Int) < (k : Int) := by omega
                        have HKN : Hid (knownB v (hs.take k) x = false) := by
                          show _ = _
                          unfold knownB
                          rw [Bool.or_eq_false_iff]
                          refine ⟨by rw [HZ.out]; exact HD0.out, ?_⟩
                          rw [List.any_eq_false]
                          intro y hy
                          obtain ⟨i, hi⟩ := List.getElem?_of_mem hy
                          rw [List.getElem?_take] at hi
                          split at hi
                          · rw [HS.out i y (by omega) hi]; simp
                          · cases hi
                        have HF2 : Hid (∀ j, j < k + 1 → heldAt v hs j = true) := fun j' hj' => by
                          by_cases e : j' = k
                          · subst e
                            exact heldAt_prev HX.out HFX.out HRB.out HKN.out HPV.out
                          · exact HF.out j' (by omega)
                        go_wp2_with fail
                        go_roundg (n - (k + 1))
                        case measure => omega
                        case rel => exact ⟨k + 1, by go_num, by omega, by omega, HF2.out, HB3.out⟩
                  · have HR : Hid (fin = false) := by
                      show _ = _
                      rw [← HFIN.out]
                      refine held_no (by rw [← HN.out]; exact hin) ?_
                      have hx := HX.out
                      rw [hk'] at hx ⊢
                      exact heldAt_less hx HYP.out (by rw [HCZ.out]; exact decide_eq_false (by have := of_decide_eq_true hcd; omega))
                    refine wp_region_quiet_below (by assumption) (by kernel_rfl) ?_
                    repeat (go_big_quiet_step ((first | (go_at_call 14; with_reducible exact x1 _ _) | (go_at_call 16; with_reducible exact x2 _ _) | (go_at_call 36; with_reducible exact x3 _ _))))
                    refine wpQuiet_nil ?_
                    intro _ hw'
                    obtain ⟨⟨dq, osq⟩, hw''⟩ := hw'
                    subst hw''
                    have HB2 := Lib.hid (HBX2.out.trans ((below_regrown _ dq osq).mono HBX2.out.size))
                    have HAY := Lib.hid (HAX.out.next (below_regrown _ dq osq))
                    generalize Go.Sort.grow (redrawn W dq) osq = w2 at *
                    clear g0 g1 g2 g3 g4 g5 g6 g7 g8 g9 g10 g11 gv
                    clear f0 f1 f2 f3 f4 f5 f6 f7 f8 f9 f10 f11
                    clear x1 x2 x3
                    go_wp2
                    go_ret
                    exact ⟨by rw [HR.out]; rfl, HB2.out⟩
              · have HR : Hid (fin = false) := by show _ = _; rw [← HFIN.out]; exact held_no (by rw [← HN.out]; exact hin) (heldAt_ready HX.out HRB.out)
                refine wp_region_quiet_below (by assumption) (by kernel_rfl) ?_
                repeat (go_big_quiet_step ((first | (go_at_call 14; with_reducible exact x1 _ _) | (go_at_call 16; with_reducible exact x2 _ _))))
                refine wpQuiet_nil ?_
                intro _ hw'
                obtain ⟨⟨dq, osq⟩, hw''⟩ := hw'
                subst hw''
                have HB2 := Lib.hid (HBX2.out.trans ((below_regrown _ dq osq).mono HBX2.out.size))
                have HAY := Lib.hid (HAX.out.next (below_regrown _ dq osq))
                generalize Go.Sort.grow (redrawn W dq) osq = w2 at *
                clear g0 g1 g2 g3 g4 g5 g6 g7 g8 g9 g10 g11 gv
                clear x1 x2
                go_wp2
                go_ret
                exact ⟨by rw [HR.out]; rfl, HB2.out⟩
            · have HR : Hid (fin = false) := by show _ = _; rw [← HFIN.out]; exact held_no (by rw [← HN.out]; exact hin) (heldAt_known HX.out (by unfold knownB; rw [HZ.out, hd, Bool.true_or]))
              refine wp_region_quiet_below (by assumption) (by kernel_rfl) ?_
              repeat (go_big_quiet_step ((first | (go_at_call 14; with_reducible exact x1 _ _))))
              refine wpQuiet_nil ?_
              intro _ hw'
              obtain ⟨⟨dq, osq⟩, hw''⟩ := hw'
              subst hw''
              have HB2 := Lib.hid (HBX2.out.trans ((below_regrown _ dq osq).mono HBX2.out.size))
              have HAY := Lib.hid (HAX.out.next (below_regrown _ dq osq))
              generalize Go.Sort.grow (redrawn W dq) osq = w2 at *
              clear g0 g1 g2 g3 g4 g5 g6 g7 g8 g9 g10 g11 gv
              clear x1
              go_wp2
              go_ret
              exact ⟨by rw [HR.out]; rfl, HB2.out⟩
        · have hinz : ¬ (k : Int) < (n : Int) := by omega
          have HF2 : Hid (fin = true) := by
            show _ = _
            rw [← HFIN.out]
            exact held_iff.2 ⟨HVEC.out, by have := HN.out; omega, fun j hj => HF.out j (by have := HN.out; omega)⟩
          go_wp2
          go_ret
          exact ⟨by rw [HF2.out]; rfl, HI.out⟩
    · have h16z : (16 : Int) < (n : Int) := by omega
      have HF : Hid (fin = false) := by
        show _ = _
        rw [← HFIN.out]
        simp [heldB, hvec]
        intro h
        omega
      clear hvec hr hn hv hvn hvl hl
      go_enter Tryd.func13, Tryd.ntmps13
      go_wp2_with fail
      refine (C.out).mono ?_
      rintro e w1 ⟨rfl, rfl⟩
      go_wp2
      go_ret
      exact ⟨by rw [HF.out]; rfl, Below.refl _ _⟩
end Go.Proofs.YtdpopdlifcjdeaaDoor
