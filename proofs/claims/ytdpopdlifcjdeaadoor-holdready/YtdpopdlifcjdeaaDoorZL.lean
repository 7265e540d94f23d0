/- Joined: D15. -/
import Derived.Test.YtdpopdlifcjdeaaDoorZK

/- Hold: HoldReady's walk. -/
namespace Go.Proofs.YtdpopdlifcjdeaaDoor
open Go.RowKit Go.Lib
set_option linter.unusedVariables false

set_option maxHeartbeats 8000000 in
set_option maxRecDepth 100000 in
theorem holdReady_walk (va : Option Addr) (v : List Int) (vn vc : Nat) (ha : Option Addr) (hs : List OpD) (hn hc : Nat) (la : Option Addr) (ls : List OpD) (ln lc : Nat) (w : World) (ht : Pr.Tab w) (h : ScR w va v vn vc ha hs hn hc la ls ln lc) :
    Calls Tryd.prog 6 #[.agg #[.slice va vn vc, .slice ha hn hc, .slice la ln lc]] w (BoolPost w true) := by
  have mixed : Tryd.prog.follows .mixedOrders = true := by kernel_rfl
  have HR := Lib.hid h
  have HTW := Lib.hid (fun W (hb : Below w.heap.size w W) => ht.below hb ht.lt)
  clear h ht
  go_enter Tryd.func6, Tryd.ntmps6
  have HBT := Lib.hid (box_bel w (scO va vn vc ha hn hc la ln lc))
  have HSC := Lib.hid (ScAt.new w va vn vc ha hn hc la ln lc)
  have HT := Lib.hid (fun W (hb : Below (w.alloc (scO va vn vc ha hn hc la ln lc)).heap.size (w.alloc (scO va vn vc ha hn hc la ln lc)) W) => HTW.out W (HBT.out.trans (hb.mono HBT.out.size)))
  have CH := Lib.hid (heavy14_any va v vn vc ha hs hn hc la ls ln lc _ (HR.out.below (box_bel w (scO va vn vc ha hn hc la ln lc))))
  go_wp2_with fail
  refine (CH.out).mono ?_
  rintro e w0 ⟨hvb, rfl, hb0⟩
  have HB0 := Lib.hid hb0
  clear hb0 CH
  cases hvb
  · have hS0 := HSC.out.next HB0.out
    obtain ⟨s0, s1, s2⟩ := hS0
    go_wp2
    clear s0 s1 s2
    go_loopg [3, 4, 5, 6] 25 (fun g1 s3 _ _ _ wr => ∃ i : Nat, s3 = .int .i64 i ∧ i ≤ 25 ∧ 25 - i ≤ g1 ∧ Hid (Below (w.alloc (scO va vn vc ha hn hc la ln lc)).heap.size (w.alloc (scO va vn vc ha hn hc la ln lc)) wr))
    case atStart => exact ⟨0, rfl, by omega, by omega, HB0.out⟩
    case round =>
      obtain ⟨i, rfl, hi12, hg1, HB⟩ := hrel
      clear HB0
      obtain ⟨s0, s1, s2⟩ := HSC.out.next HB.out
      by_cases hin : i < ln
      · have hinz : decide ((i : Int) < (ln : Int)) = true := decide_eq_true (by omega)
        have hiny : (i : Int) < (ln : Int) := by omega
        by_cases hi : i < 25
        · have hiz : decide ((i : Int) < 25) = true := decide_eq_true (by omega)
          have hiy : (i : Int) < 25 := by omega
          obtain ⟨x, hx⟩ : ∃ x, ls[i]? = some x := ⟨_, List.getElem?_eq_getElem (by rw [← HR.out.ll]; exact hin)⟩
          obtain ⟨b, off, rfl, da, dc, hat, hrow, hdm⟩ := HR.out.rl i x hx
          have HRW := Lib.hid hrow
          have HDM := Lib.hid hdm
          have HB0T := Lib.hid (fun W (hb : Below (w.alloc (scO va vn vc ha hn hc (some ⟨b, off, none⟩) ln lc)).heap.size (w.alloc (scO va vn vc ha hn hc (some ⟨b, off, none⟩) ln lc)) W) => HBT.out.trans (hb.mono HBT.out.size))
          have HSwr := Lib.hid (HSC.out.next HB.out)
          have HXwr : Hid (OpX wr b (off + i * 12) x da x.1.ds.length dc) := hat.next (HB0T.out wr HB.out)
          clear hx hrow hdm
          generalize hdn : x.1.ds.length = dn at *
          have HDN := Lib.hid hdn
          clear hdn
          cases hf : fitsB v x
          · have HF := Lib.hid hf
            clear hf
            have CR := Lib.hid (fun W (hb : Below w.heap.size w W) => ready_no va v vn vc x da dn dc W (HTW.out W hb) (HR.out.rv.below hb (Nat.le_refl _)) HR.out.vl (by have := HR.out.vm; omega) (HRW.out.below hb (Nat.le_refl _)) HDN.out.symm (by have := HDM.out; have := HDN.out; omega) HF.out)
            have CF := Lib.hid (fun W (hb : Below w.heap.size w W) => refFits_any va v vn vc x da dn dc W (HR.out.rv.below hb (Nat.le_refl _)) HR.out.vl (by have := HR.out.vm; omega) (HRW.out.below hb (Nat.le_refl _)) HDN.out.symm (by have := HDM.out; have := HDN.out; omega))
            rw [HF.out] at CF
            have x1 : St.RegrownTo wr 15 #[.slice va vn vc, valO x da dn dc] (.tuple #[.bool false, .int .i64 1]) := regrown_at fun W' hb => CR.out W' ((HB0T.out wr HB.out).trans (hb.mono (HB0T.out wr HB.out).size))
            have gs0 := cell_regrown HSwr.out.c0
            have gs2 := cell_regrown HSwr.out.c2
            obtain ⟨g0, g1, g2, g3, g4, g5, g6, g7, g8, g9, g10, g11⟩ := HXwr.out.regrown
            go_wp2_with fail
            refine wp_region_quiet_below (by assumption) (by kernel_rfl) ?_
            repeat (go_big_quiet_step ((first | (go_at_call 15; with_reducible exact x1 _ _))))
            refine wpQuiet_nil ?_
            intro _ hw'
            obtain ⟨⟨dq, osq⟩, hw''⟩ := hw'
            subst hw''
            have HB1 := Lib.hid (HB.out.trans ((below_regrown _ dq osq).mono HB.out.size))
            generalize Go.Sort.grow (redrawn wr dq) osq = w1 at *
            clear x1
            clear gs0 gs2 g0 g1 g2 g3 g4 g5 g6 g7 g8 g9 g10 g11
            have HSw1 := Lib.hid (HSC.out.next HB1.out)
            have HXw1 : Hid (OpX w1 b (off + i * 12) x da dn dc) := hat.next (HB0T.out w1 HB1.out)
            have x2 : St.RegrownTo w1 14 #[.slice va vn vc, valO x da dn dc] (.bool false) := regrown_at fun W' hb => CF.out W' ((HB0T.out w1 HB1.out).trans (hb.mono (HB0T.out w1 HB1.out).size))
            have gs0 := cell_regrown HSw1.out.c0
            have gs2 := cell_regrown HSw1.out.c2
            obtain ⟨g0, g1, g2, g3, g4, g5, g6, g7, g8, g9, g10, g11⟩ := HXw1.out.regrown
            go_wp2_with fail
            refine wp_region_quiet_below (by assumption) (by kernel_rfl) ?_
            repeat (go_big_quiet_step ((first | (go_at_call 14; with_reducible exact x2 _ _))))
            refine wpQuiet_nil ?_
            intro _ hw'
            obtain ⟨⟨dq, osq⟩, hw''⟩ := hw'
            subst hw''
            have HB2 := Lib.hid (HB1.out.trans ((below_regrown _ dq osq).mono HB1.out.size))
            generalize Go.Sort.grow (redrawn w1 dq) osq = w2 at *
            clear x2
            clear gs0 gs2 g0 g1 g2 g3 g4 g5 g6 g7 g8 g9 g10 g11
            have HSw2 := Lib.hid (HSC.out.next HB2.out)
            have HXw2 : Hid (OpX w2 b (off + i * 12) x da dn dc) := hat.next (HB0T.out w2 HB2.out)
            have x3 : St.RegrownTo w2 11 #[.int .i64 1] (.int .i64 1) := St.regrown_same fun W => num14_any 1 W
            have gs0 := cell_regrown HSw2.out.c0
            have gs2 := cell_regrown HSw2.out.c2
            obtain ⟨g0, g1, g2, g3, g4, g5, g6, g7, g8, g9, g10, g11⟩ := HXw2.out.regrown
            go_wp2_with fail
            refine wp_region_quiet_below (by assumption) (by kernel_rfl) ?_
            repeat (go_big_quiet_step ((first | (go_at_call 11; with_reducible exact x3 _ _))))
            refine wpQuiet_nil ?_
            intro _ hw'
            obtain ⟨⟨dq, osq⟩, hw''⟩ := hw'
            subst hw''
            have HB3 := Lib.hid (HB2.out.trans ((below_regrown _ dq osq).mono HB2.out.size))
            generalize Go.Sort.grow (redrawn w2 dq) osq = w3 at *
            clear x3
            clear gs0 gs2 g0 g1 g2 g3 g4 g5 g6 g7 g8 g9 g10 g11
            go_wp2_with fail
            go_roundg (25 - (i + 1))
            case measure => omega
            case rel => exact ⟨i + 1, by go_num, by omega, by omega, HB3.out⟩
          · have HF := Lib.hid hf
            clear hf
            obtain ⟨rb, hrb⟩ : ∃ rb, readyB v x = rb := ⟨_, rfl⟩
            have CR := Lib.hid (fun W (hb : Below w.heap.size w W) => ready_yes va v vn vc x da dn dc W (HTW.out W hb) (HR.out.rv.below hb (Nat.le_refl _)) HR.out.vl (HRW.out.below hb (Nat.le_refl _)) HDN.out.symm HF.out)
            have CQ := Lib.hid (fun W (hb : Below w.heap.size w W) => refReady_any va v vn vc x da dn dc W (HR.out.rv.below hb (Nat.le_refl _)) HR.out.vl (HRW.out.below hb (Nat.le_refl _)) HDN.out.symm HF.out)
            rw [hrb] at CR CQ
            clear hrb
            have CF := Lib.hid (fun W (hb : Below w.heap.size w W) => refFits_any va v vn vc x da dn dc W (HR.out.rv.below hb (Nat.le_refl _)) HR.out.vl (by have := HR.out.vm; omega) (HRW.out.below hb (Nat.le_refl _)) HDN.out.symm (by have := HDM.out; have := HDN.out; omega))
            rw [HF.out] at CF
            have x1 : St.RegrownTo wr 15 #[.slice va vn vc, valO x da dn dc] (.tuple #[.bool rb, .int .i64 0]) := regrown_at fun W' hb => CR.out W' ((HB0T.out wr HB.out).trans (hb.mono (HB0T.out wr HB.out).size))
            have gs0 := cell_regrown HSwr.out.c0
            have gs2 := cell_regrown HSwr.out.c2
            obtain ⟨g0, g1, g2, g3, g4, g5, g6, g7, g8, g9, g10, g11⟩ := HXwr.out.regrown
            go_wp2_with fail
            refine wp_region_quiet_below (by assumption) (by kernel_rfl) ?_
            repeat (go_big_quiet_step ((first | (go_at_call 15; with_reducible exact x1 _ _))))
            refine wpQuiet_nil ?_
            intro _ hw'
            obtain ⟨⟨dq, osq⟩, hw''⟩ := hw'
            subst hw''
            have HB1 := Lib.hid (HB.out.trans ((below_regrown _ dq osq).mono HB.out.size))
            generalize Go.Sort.grow (redrawn wr dq) osq = w1 at *
            clear x1
            clear gs0 gs2 g0 g1 g2 g3 g4 g5 g6 g7 g8 g9 g10 g11
            have HSw1 := Lib.hid (HSC.out.next HB1.out)
            have HXw1 : Hid (OpX w1 b (off + i * 12) x da dn dc) := hat.next (HB0T.out w1 HB1.out)
            have x2 : St.RegrownTo w1 14 #[.slice va vn vc, valO x da dn dc] (.bool true) := regrown_at fun W' hb => CF.out W' ((HB0T.out w1 HB1.out).trans (hb.mono (HB0T.out w1 HB1.out).size))
            have gs0 := cell_regrown HSw1.out.c0
            have gs2 := cell_regrown HSw1.out.c2
            obtain ⟨g0, g1, g2, g3, g4, g5, g6, g7, g8, g9, g10, g11⟩ := HXw1.out.regrown
            go_wp2_with fail
            refine wp_region_quiet_below (by assumption) (by kernel_rfl) ?_
            repeat (go_big_quiet_step ((first | (go_at_call 14; with_reducible exact x2 _ _))))
            refine wpQuiet_nil ?_
            intro _ hw'
            obtain ⟨⟨dq, osq⟩, hw''⟩ := hw'
            subst hw''
            have HB2 := Lib.hid (HB1.out.trans ((below_regrown _ dq osq).mono HB1.out.size))
            generalize Go.Sort.grow (redrawn w1 dq) osq = w2 at *
            clear x2
            clear gs0 gs2 g0 g1 g2 g3 g4 g5 g6 g7 g8 g9 g10 g11
            have HSw2 := Lib.hid (HSC.out.next HB2.out)
            have HXw2 : Hid (OpX w2 b (off + i * 12) x da dn dc) := hat.next (HB0T.out w2 HB2.out)
            have x3 : St.RegrownTo w2 11 #[.int .i64 0] (.int .i64 0) := St.regrown_same fun W => num14_any 0 W
            have x4 : St.RegrownTo w2 16 #[.slice va vn vc, valO x da dn dc] (.bool rb) := regrown_at fun W' hb => CQ.out W' ((HB0T.out w2 HB2.out).trans (hb.mono (HB0T.out w2 HB2.out).size))
            have gs0 := cell_regrown HSw2.out.c0
            have gs2 := cell_regrown HSw2.out.c2
            obtain ⟨g0, g1, g2, g3, g4, g5, g6, g7, g8, g9, g10, g11⟩ := HXw2.out.regrown
            go_wp2_with fail
            refine wp_region_quiet_below (by assumption) (by kernel_rfl) ?_
            repeat (go_big_quiet_step ((first | (go_at_call 11; with_reducible exact x3 _ _) | (go_at_call 16; with_reducible exact x4 _ _))))
            refine wpQuiet_nil ?_
            intro _ hw'
            obtain ⟨⟨dq, osq⟩, hw''⟩ := hw'
            subst hw''
            have HB3 := Lib.hid (HB2.out.trans ((below_regrown _ dq osq).mono HB2.out.size))
            generalize Go.Sort.grow (redrawn w2 dq) osq = w3 at *
            clear x3 x4
            clear gs0 gs2 g0 g1 g2 g3 g4 g5 g6 g7 g8 g9 g10 g11
            go_wp2_with fail
            go_roundg (25 - (i + 1))
            case measure => omega
            case rel => exact ⟨i + 1, by go_num, by omega, by omega, HB3.out⟩
        · have hiz : decide ((i : Int) < 25) = false := decide_eq_false (by omega)
          have hiy : ¬ (i : Int) < 25 := by omega
          go_wp2_with fail
          refine (wakes14_any wr (HT.out wr HB.out)).mono ?_
          rintro e w9 ⟨rfl, hb9⟩
          have HB9 := Lib.hid (HBT.out.trans ((HB.out.trans (hb9.mono HB.out.size)).mono HBT.out.size))
          clear hb9
          go_wp2
          go_ret
          exact ⟨rfl, HB9.out⟩
      · have hinz : decide ((i : Int) < (ln : Int)) = false := decide_eq_false (by omega)
        have hiny : ¬ (i : Int) < (ln : Int) := by omega
        go_wp2_with fail
        refine (wakes14_any wr (HT.out wr HB.out)).mono ?_
        rintro e w9 ⟨rfl, hb9⟩
        have HB9 := Lib.hid (HBT.out.trans ((HB.out.trans (hb9.mono HB.out.size)).mono HBT.out.size))
        clear hb9
        go_wp2
        go_ret
        exact ⟨rfl, HB9.out⟩
  · go_wp2
    go_ret
    exact ⟨rfl, HBT.out.trans (HB0.out.mono HBT.out.size)⟩
end Go.Proofs.YtdpopdlifcjdeaaDoor
