/- The operation that bytes begin with: the program's. -/
import Derived.Test.YtabbbpmhmlapgaaDoorO9
namespace Go.Proofs.YtabbbpmhmlapgaaDoor
open Go.RowKit Go.Lib
set_option linter.unusedVariables false

theorem bel_at {B g : Nat} {a b : World} (e : g = B) (h : Below g a b) : Below B a b := by subst e; exact h
set_option maxHeartbeats 8000000 in
set_option maxRecDepth 100000 in
theorem opTake_any (a : Option Addr) (bs : List Int) (n cap : Nat) (w : World) (ht : Pr.Tab w) (hn : n = bs.length) (hr : RowK .u8 w a bs) (hb : IsB bs) (hcap : bs.length ≤ cap) (hlen : bs.length ≤ 140737488355328) : Calls Tryd.prog 19 #[.slice a n cap] w (TakeO (tkO bs) w) := by
  have HT := Lib.hid ht
  have HN := Lib.hid hn
  have HLT := Lib.hid hr.rowLt
  have HR := Lib.hid hr
  have HB := Lib.hid hb
  have HCAP := Lib.hid hcap
  have HLEN := Lib.hid hlen
  obtain ⟨g, hg⟩ : ∃ g, w.heap.size = g := ⟨_, rfl⟩
  have HG := Lib.hid hg.symm
  have HI0 : Hid (TakI w (w.alloc (.cells #[.int .i64 0, .int .i64 0, .int .i64 0, .slice none 0 0, .int .i64 0, .int .i64 0, .int .i64 0, .int .i64 0, .int .i64 0, .string ⟨#[]⟩, .int .i64 0, .int .i64 0] 27)) g zR none 0 0) := ⟨hg ▸ blk_new w, OwnK.nil _ _ _ _, hg ▸ box_bel w _⟩
  have HROW0 := Lib.hid (hr.alloc (.cells #[.int .i64 0, .int .i64 0, .int .i64 0, .slice none 0 0, .int .i64 0, .int .i64 0, .int .i64 0, .int .i64 0, .int .i64 0, .string ⟨#[]⟩, .int .i64 0, .int .i64 0] 27))
  rw [hg] at HLT
  clear ht hn hr hb hcap hlen
  go_enter Tryd.func19, Tryd.ntmps19
  go_wp2
  refine wp_scope_jumps 0 (TakJ w g a bs n cap) (fun a' _ => 6 - intOf (a'.tmps.getD 5 undef)) rfl ?_ ?_
  · go_wp2_with fail
    have HROW := HROW0
    generalize w.alloc (.cells #[.int .i64 0, .int .i64 0, .int .i64 0, .slice none 0 0, .int .i64 0, .int .i64 0, .int .i64 0, .int .i64 0, .int .i64 0, .string ⟨#[]⟩, .int .i64 0, .int .i64 0] 27) = WX at *
    have HI := HI0
    clear HI0 HROW0 hg
    obtain ⟨⟨R', k', x⟩, hs⟩ : ∃ Z, updF 0 bs zR = Z := ⟨_, rfl⟩
    have FT := Lib.hid (takeF0 g zR 0 (.slice none 0 0) (partA a 0 cap) bs n cap WX.drew HI.out.blk.drew HI.out.own HN.out (HROW.out.drew.rest 0 cap HCAP.out) HB.out HCAP.out HLEN.out)
    rw [hs] at FT
    have FT2 := FT
    clear FT
    have HRUN : Hid (runR bs 0 = (zR, 0, 0)) := (rfl : runR bs 0 = (zR, 0, 0))
    have HSR : Hid (updF (fAt 0 zR.k) (bs.drop 0) zR = (R', k', x)) := hs
    have hsl : ∀ W, (Instr.slice 33 (.slice a n cap) (some (.int .i64 0)) none none).run Tryd.prog W = .ok (.slice (partA a 0 cap) n cap) W := fun W => slice_l W a n cap 0 0 rfl (by omega)
    have FA := Lib.hid (fun W => fieldAt_zero 0 W)
    have hk4 : WX.cell? ⟨g, 4, none⟩ = some (.int .i64 0) := HI.out.blk.cell 4 _ rfl
    clear hs
    by_cases hx : x = 0
    · -- MA
      subst hx
      have hkb : (k' : Int) ≤ 140737488355328 := by
        have h1 := (run_back HB.out 1 (by omega) (by rw [run_stepR HRUN.out HSR.out])).1
        rw [run_stepR HRUN.out HSR.out] at h1
        have h2 := HLEN.out
        simp only at h1
        omega
      go_step3
      go_wp2_with fail
      go_region_with (first
          | (go_at_call 33
             (with_reducible refine (FA.out _).mono ?_)
             rintro e w8 ⟨rfl, rfl⟩)
          | (go_at_call 34
             (with_reducible refine (FT2.out).mono ?_)
             rintro e w9 ⟨d9, rfl, hB9, ho9, hl9⟩
             obtain ⟨a9, n9, c9, rfl, hn9, hr9, hc9⟩ := ho9.form'
             have HI9 : Hid (TakI w w9 g R' a9 n9 c9) := ⟨hB9, ho9, HI.out.bel.drew.trans hl9⟩
             have HN9 := Lib.hid hn9
             have HR9 := Lib.hid hr9
             clear hB9 ho9 hl9 hn9 hr9 hc9))
      go_wp2
      go_step3
      exact ⟨rfl, R', k', 1, a9, n9, c9, _, _, _, _, _, _, _, _, _, _, _, _, _, _, _, _, _, _, _, _, _, _, _, _, _, _, _, _, _, _, _, _, _, _, _, _, _, _, _, _, _, _, _, _, _, _, _, rfl, by omega, by have := run_stepR HRUN.out HSR.out; rw [Nat.zero_add, Nat.zero_add] at this; exact this, HI9.out⟩
    · -- MB
      go_step3
      go_wp2_with fail
      go_region_with (first
          | (go_at_call 33
             (with_reducible refine (FA.out _).mono ?_)
             rintro e w8 ⟨rfl, rfl⟩)
          | (go_at_call 34
             (with_reducible refine (FT2.out).mono ?_)
             rintro e w9 ⟨d9, rfl, hB9, ho9, hl9⟩
             obtain ⟨a9, n9, c9, rfl, hn9, hr9, hc9⟩ := ho9.form'
             have HI9 : Hid (TakI w w9 g R' a9 n9 c9) := ⟨hB9, ho9, HI.out.bel.drew.trans hl9⟩
             have HN9 := Lib.hid hn9
             have HR9 := Lib.hid hr9
             clear hB9 ho9 hl9 hn9 hr9 hc9))
      have hx' : (x == 0) = false := by simpa using hx
      have e0 := HI9.out.blk.cell 0 _ rfl
      have f0 := HI9.out.blk.free 0 _ rfl
      have e1 := HI9.out.blk.cell 1 _ rfl
      have f1 := HI9.out.blk.free 1 _ rfl
      have e2 := HI9.out.blk.cell 2 _ rfl
      have f2 := HI9.out.blk.free 2 _ rfl
      have e3 := HI9.out.blk.cell 3 _ rfl
      have f3 := HI9.out.blk.free 3 _ rfl
      have e4 := HI9.out.blk.cell 4 _ rfl
      have f4 := HI9.out.blk.free 4 _ rfl
      have e5 := HI9.out.blk.cell 5 _ rfl
      have f5 := HI9.out.blk.free 5 _ rfl
      have e6 := HI9.out.blk.cell 6 _ rfl
      have f6 := HI9.out.blk.free 6 _ rfl
      have e7 := HI9.out.blk.cell 7 _ rfl
      have f7 := HI9.out.blk.free 7 _ rfl
      have e8 := HI9.out.blk.cell 8 _ rfl
      have f8 := HI9.out.blk.free 8 _ rfl
      have e9 := HI9.out.blk.cell 9 _ rfl
      have f9 := HI9.out.blk.free 9 _ rfl
      have e10 := HI9.out.blk.cell 10 _ rfl
      have f10 := HI9.out.blk.free 10 _ rfl
      have e11 := HI9.out.blk.cell 11 _ rfl
      have f11 := HI9.out.blk.free 11 _ rfl
      have hb0 := op_build0
      go_wp2
      simp only [Exit.jump]
      have HZ := ((((((((((((HI9.out.blk.set 0 (.int .i64 0)).set 1 (.int .i64 0)).set 2 (.int .i64 0)).set 3 (.slice none 0 0)).set 4 (.int .i64 0)).set 5 (.int .i64 0)).set 6 (.int .i64 0)).set 7 (.int .i64 0)).set 8 (.int .i64 0)).set 9 (.string ⟨#[]⟩)).set 10 (.int .i64 0)).set 11 (.int .i64 0))
      have z0 := HZ.cell 0 _ rfl
      have z1 := HZ.cell 1 _ rfl
      have z2 := HZ.cell 2 _ rfl
      have z3 := HZ.cell 3 _ rfl
      have z4 := HZ.cell 4 _ rfl
      have z5 := HZ.cell 5 _ rfl
      have z6 := HZ.cell 6 _ rfl
      have z7 := HZ.cell 7 _ rfl
      have z8 := HZ.cell 8 _ rfl
      have z9 := HZ.cell 9 _ rfl
      have z10 := HZ.cell 10 _ rfl
      have z11 := HZ.cell 11 _ rfl
      clear HZ e0 f0 e1 f1 e2 f2 e3 f3 e4 f4 e5 f5 e6 f6 e7 f7 e8 f8 e9 f9 e10 f10 e11 f11
      refine bodyPost_ret (v := .tuple #[.agg #[.int .i64 0, .int .i64 0, .int .i64 0, .slice none 0 0, .int .i64 0, .int .i64 0, .int .i64 0, .int .i64 0, .int .i64 0, .string ⟨#[]⟩, .int .i64 0, .int .i64 0], .int .i64 0, .int .i64 x]) (by simp [results, Tryd.results19, go_sem, z0, z1, z2, z3, z4, z5, z6, z7, z8, z9, z10, z11]) rfl ?_
      rw [run_stepE (by omega) HRUN.out hx HSR.out]
      exact ⟨none, 0, 0, rfl, OwnK.nil _ _ _ _, bel_at HG.out ((((((((((((HI9.out.bel.setCell (p := ⟨g, 0, none⟩) (Nat.le_refl _) _).setCell (p := ⟨g, 1, none⟩) (Nat.le_refl _) _).setCell (p := ⟨g, 2, none⟩) (Nat.le_refl _) _).setCell (p := ⟨g, 3, none⟩) (Nat.le_refl _) _).setCell (p := ⟨g, 4, none⟩) (Nat.le_refl _) _).setCell (p := ⟨g, 5, none⟩) (Nat.le_refl _) _).setCell (p := ⟨g, 6, none⟩) (Nat.le_refl _) _).setCell (p := ⟨g, 7, none⟩) (Nat.le_refl _) _).setCell (p := ⟨g, 8, none⟩) (Nat.le_refl _) _).setCell (p := ⟨g, 9, none⟩) (Nat.le_refl _) _).setCell (p := ⟨g, 10, none⟩) (Nat.le_refl _) _).setCell (p := ⟨g, 11, none⟩) (Nat.le_refl _) _)⟩
  · rintro a' WX ⟨R, kk, i, da, dn, dc, u1, u4, u6, u7, u8, u9, u10, u11, u12, u13, u14, u15, u16, u17, u18, u19, u20, u21, u22, u23, u24, u25, u26, u27, u28, u29, u30, u31, u32, u33, u34, u35, u36, u37, u38, u39, u40, u41, u42, u43, u44, u45, u46, u47, u48, u49, u50, rfl, hi6, hrun, hI⟩
    have HI := Lib.hid hI
    have HI6 := Lib.hid hi6
    have HRUN := Lib.hid hrun
    have HROW := Lib.hid (HR.out.below' HLT.out hI.bel)
    clear hI hi6 hrun HI0 HROW0 hg
    obtain ⟨⟨R', k', x⟩, hs⟩ : ∃ Z, updF (fAt i R.k) (bs.drop kk) R = Z := ⟨_, rfl⟩
    have hkk : kk ≤ bs.length := by have := run_k HB.out i (by have := HI6.out; omega) (by rw [HRUN.out]); rw [HRUN.out] at this; exact this
    have FT := Lib.hid (takeField_any (fAt i R.k) (fAt_lt i R.k HI6.out) g R 0 (.slice da dn dc) (partA a kk cap) (bs.drop kk) (n - kk) (cap - kk) WX.drew HI.out.blk.drew HI.out.own (by rw [List.length_drop, HN.out]) (HROW.out.drew.rest kk cap HCAP.out) (HB.out.drop kk) (by have := HCAP.out; rw [List.length_drop]; omega) (by have := HLEN.out; rw [List.length_drop]; omega))
    rw [hs] at FT
    have FT2 := FT
    clear FT
    have HSR := Lib.hid hs
    have hsl := fun W => slice_l W a n cap kk (kk : Int) rfl (by rw [HN.out]; exact hkk)
    have FA := Lib.hid (fun W => fieldAt_is i R.k W HI6.out)
    have hk4 : WX.cell? ⟨g, 4, none⟩ = some (.int .i64 R.k) := HI.out.blk.cell 4 _ rfl
    clear hs
    by_cases hx : x = 0
    · subst hx
      have hkb : (kk : Int) + (k' : Int) ≤ 140737488355328 := by
        have h1 := (run_back HB.out (i + 1) (by have := HI6.out; omega) (by rw [run_stepR HRUN.out HSR.out])).1
        rw [run_stepR HRUN.out HSR.out] at h1
        have h2 := HLEN.out
        simp only at h1
        omega
      clear hkk
      have hib : (i : Int) < 6 := by have := HI6.out; omega
      by_cases hlast : i + 1 < 6
      · -- MC
        have hd : decide ((i : Int) + 1 < 6) = true := decide_eq_true (by omega)
        go_wp2_with fail
        go_region_with (first
            | (go_at_call 33
               (with_reducible refine (FA.out _).mono ?_)
               rintro e w8 ⟨rfl, rfl⟩)
            | (go_at_call 34
               (with_reducible refine (FT2.out).mono ?_)
               rintro e w9 ⟨d9, rfl, hB9, ho9, hl9⟩
               obtain ⟨a9, n9, c9, rfl, hn9, hr9, hc9⟩ := ho9.form'
               have HI9 : Hid (TakI w w9 g R' a9 n9 c9) := ⟨hB9, ho9, HI.out.bel.drew.trans hl9⟩
               have HN9 := Lib.hid hn9
               have HR9 := Lib.hid hr9
               clear hB9 ho9 hl9 hn9 hr9 hc9))
        go_wp2
        go_step3
        refine ⟨rfl, ⟨R', kk + k', i + 1, a9, n9, c9, _, _, _, _, _, _, _, _, _, _, _, _, _, _, _, _, _, _, _, _, _, _, _, _, _, _, _, _, _, _, _, _, _, _, _, _, _, _, _, _, _, _, _, _, _, _, _, rfl, by omega, run_stepR HRUN.out HSR.out, HI9.out⟩, ?_⟩
        simp [intOf]
        omega
      · have hd : decide ((i : Int) + 1 < 6) = false := decide_eq_false (by omega)
        have HI5 : Hid (i = 5) := (by have := HI6.out; omega : i = 5)
        clear hlast
        go_wp2_with fail
        go_region_with (first
            | (go_at_call 33
               (with_reducible refine (FA.out _).mono ?_)
               rintro e w8 ⟨rfl, rfl⟩)
            | (go_at_call 34
               (with_reducible refine (FT2.out).mono ?_)
               rintro e w9 ⟨d9, rfl, hB9, ho9, hl9⟩
               obtain ⟨a9, n9, c9, rfl, hn9, hr9, hc9⟩ := ho9.form'
               have HI9 : Hid (TakI w w9 g R' a9 n9 c9) := ⟨hB9, ho9, HI.out.bel.drew.trans hl9⟩
               have HN9 := Lib.hid hn9
               have HR9 := Lib.hid hr9
               clear hB9 ho9 hl9 hn9 hr9 hc9))
        have H6 := Lib.hid (show runR bs 6 = (R', kk + k', 0) from by have := run_stepR HRUN.out HSR.out; rw [HI5.out] at this; exact this)
        have HKE := Lib.hid (run_keep HB.out 6 (Nat.le_refl _) (by rw [H6.out]))
        rw [H6.out] at HKE
        have HVE : Hid (Hv.vecB R'.ds = true) := HKE.out.2 (by omega)
        have hpl : 0 ≤ R'.t ∧ R'.t ≤ 1099511627776 ∧ 0 ≤ R'.r ∧ R'.r < 16 := St.plB_num (HKE.out.1 (by omega))
        have hdl : 1 ≤ R'.ds.length ∧ R'.ds.length ≤ 16 := Hv.vecB_len HVE.out
        clear HKE
        have e0 := HI9.out.blk.cell 0 _ rfl
        have f0 := HI9.out.blk.free 0 _ rfl
        have e1 := HI9.out.blk.cell 1 _ rfl
        have f1 := HI9.out.blk.free 1 _ rfl
        have e2 := HI9.out.blk.cell 2 _ rfl
        have f2 := HI9.out.blk.free 2 _ rfl
        have e3 := HI9.out.blk.cell 3 _ rfl
        have f3 := HI9.out.blk.free 3 _ rfl
        have e4 := HI9.out.blk.cell 4 _ rfl
        have f4 := HI9.out.blk.free 4 _ rfl
        have e5 := HI9.out.blk.cell 5 _ rfl
        have f5 := HI9.out.blk.free 5 _ rfl
        have e6 := HI9.out.blk.cell 6 _ rfl
        have f6 := HI9.out.blk.free 6 _ rfl
        have e7 := HI9.out.blk.cell 7 _ rfl
        have f7 := HI9.out.blk.free 7 _ rfl
        have e8 := HI9.out.blk.cell 8 _ rfl
        have f8 := HI9.out.blk.free 8 _ rfl
        have e9 := HI9.out.blk.cell 9 _ rfl
        have f9 := HI9.out.blk.free 9 _ rfl
        have e10 := HI9.out.blk.cell 10 _ rfl
        have f10 := HI9.out.blk.free 10 _ rfl
        have e11 := HI9.out.blk.cell 11 _ rfl
        have f11 := HI9.out.blk.free 11 _ rfl
        have hb0 := op_build0
        by_cases hrl : R'.r < (R'.ds.length : Int)
        · have hdr : decide (R'.r < (n9 : Int)) = true := decide_eq_true (by rw [HN9.out]; exact hrl)
          have hdr' : R'.r < (n9 : Int) := by rw [HN9.out]; exact hrl
          obtain ⟨rn, hrn⟩ : ∃ rn : Nat, R'.r = rn := ⟨R'.r.toNat, by omega⟩
          obtain ⟨b, off, ha9, hc⟩ := HR9.out rn (by omega)
          subst ha9
          have hxx : 0 ≤ R'.ds.getD rn 0 ∧ R'.ds.getD rn 0 ≤ 1099511627776 := Hv.vecB_at HVE.out (k := rn) (by omega)
          have HSQ : Hid (seqR R' = R'.ds.getD rn 0 + 1) := (by rw [seqR, if_pos hrl, hrn, Int.toNat_natCast] : seqR R' = R'.ds.getD rn 0 + 1)
          have hw1 : wrap64 (R'.ds.getD rn 0 + 1) = R'.ds.getD rn 0 + 1 := IntWalk.wrap64_in _ (by omega)
          have hw2 : IntKind.i64.wrap (R'.ds.getD rn 0 + 1) = R'.ds.getD rn 0 + 1 := IntWalk.i64_in _ (by omega)
          have hrn9 : rn < n9 := by rw [HN9.out]; omega
          have hne : g ≠ b := fun h => by
            obtain ⟨b', off', hb', hge⟩ := HI9.out.own.rowGe (by omega)
            simp only [Option.some.injEq, Addr.mk.injEq] at hb'
            omega
          rw [hrn] at e1
          obtain ⟨xq, hxq⟩ : ∃ z, R'.ds.getD rn 0 = z := ⟨_, rfl⟩
          rw [hxq] at hc hw1 hw2 HSQ hxx
          have HB2 := Lib.hid (HI9.out.blk.set 2 (.int .i64 (xq + 1)))
          have HO2 := Lib.hid (HI9.out.own.far (Nat.lt_succ_self g) 2 (.int .i64 (xq + 1)))
          have HL2 := Lib.hid (HI9.out.bel.setCell (p := ⟨g, 2, none⟩) (Nat.le_refl _) (.int .i64 (xq + 1)))
          have HT2 := Lib.hid (HT.out.below (bel_at HG.out HL2.out) HT.out.lt)
          have HC := Lib.hid (fun x h => check_is R'.t R'.r (xq + 1) (some ⟨b, off, none⟩) R'.ds n9 c9 R'.k R'.nt R'.nr R'.pt R'.pr R'.s R'.p R'.v (w9.setCell ⟨g, 2, none⟩ (.int .i64 (xq + 1))) HT2.out (RowK.ofOwn HO2.out).1 HN9.out (by omega) x h)
          rw [hrn] at HC
          cases hok : R'.ok (xq + 1)
          · -- MD
            have hE : tkO bs = (zR, 0, 0, 1) := tkO_no (by rw [H6.out]) (by rw [H6.out]; simp only; rw [HSQ.out]; exact hok)
            have HE := Lib.hid hE
            have HC := Lib.hid (HC.out 1 (by rw [← hrn]; rw [show opB R'.t R'.r (xq + 1) R'.ds R'.k R'.nt R'.nr R'.pt R'.pr R'.s R'.p R'.v = false from hok]; rfl))
            clear hE hok hrl hdl hpl hxq hrn9
            go_wp2_with fail
            refine (HC.out).mono ?_
            rintro e w11 ⟨rfl, hb11⟩
            clear e0 f0 e1 f1 e2 f2 e3 f3 e4 f4 e5 f5 e6 f6 e7 f7 e8 f8 e9 f9 e10 f10 e11 f11 hc
            have HB3 := Lib.hid (HB2.out.next hb11)
            have HL3 := Lib.hid (HL2.out.trans (hb11.mono (Nat.le_of_lt HB2.out.lt)))
            clear hb11
            have e0 := HB3.out.cell 0 _ rfl
            have f0 := HB3.out.free 0 _ rfl
            have e1 := HB3.out.cell 1 _ rfl
            have f1 := HB3.out.free 1 _ rfl
            have e2 := HB3.out.cell 2 _ rfl
            have f2 := HB3.out.free 2 _ rfl
            have e3 := HB3.out.cell 3 _ rfl
            have f3 := HB3.out.free 3 _ rfl
            have e4 := HB3.out.cell 4 _ rfl
            have f4 := HB3.out.free 4 _ rfl
            have e5 := HB3.out.cell 5 _ rfl
            have f5 := HB3.out.free 5 _ rfl
            have e6 := HB3.out.cell 6 _ rfl
            have f6 := HB3.out.free 6 _ rfl
            have e7 := HB3.out.cell 7 _ rfl
            have f7 := HB3.out.free 7 _ rfl
            have e8 := HB3.out.cell 8 _ rfl
            have f8 := HB3.out.free 8 _ rfl
            have e9 := HB3.out.cell 9 _ rfl
            have f9 := HB3.out.free 9 _ rfl
            have e10 := HB3.out.cell 10 _ rfl
            have f10 := HB3.out.free 10 _ rfl
            have e11 := HB3.out.cell 11 _ rfl
            have f11 := HB3.out.free 11 _ rfl
            go_wp2
            simp only [Exit.jump]
            have HZ := ((((((((((((HB3.out.set 0 (.int .i64 0)).set 1 (.int .i64 0)).set 2 (.int .i64 0)).set 3 (.slice none 0 0)).set 4 (.int .i64 0)).set 5 (.int .i64 0)).set 6 (.int .i64 0)).set 7 (.int .i64 0)).set 8 (.int .i64 0)).set 9 (.string ⟨#[]⟩)).set 10 (.int .i64 0)).set 11 (.int .i64 0))
            have z0 := HZ.cell 0 _ rfl
            have z1 := HZ.cell 1 _ rfl
            have z2 := HZ.cell 2 _ rfl
            have z3 := HZ.cell 3 _ rfl
            have z4 := HZ.cell 4 _ rfl
            have z5 := HZ.cell 5 _ rfl
            have z6 := HZ.cell 6 _ rfl
            have z7 := HZ.cell 7 _ rfl
            have z8 := HZ.cell 8 _ rfl
            have z9 := HZ.cell 9 _ rfl
            have z10 := HZ.cell 10 _ rfl
            have z11 := HZ.cell 11 _ rfl
            clear HZ e0 f0 e1 f1 e2 f2 e3 f3 e4 f4 e5 f5 e6 f6 e7 f7 e8 f8 e9 f9 e10 f10 e11 f11
            refine bodyPost_ret (v := .tuple #[.agg #[.int .i64 0, .int .i64 0, .int .i64 0, .slice none 0 0, .int .i64 0, .int .i64 0, .int .i64 0, .int .i64 0, .int .i64 0, .string ⟨#[]⟩, .int .i64 0, .int .i64 0], .int .i64 0, .int .i64 1]) (by simp [results, Tryd.results19, go_sem, z0, z1, z2, z3, z4, z5, z6, z7, z8, z9, z10, z11]) rfl ?_
            rw [HE.out]
            exact ⟨none, 0, 0, rfl, OwnK.nil _ _ _ _, bel_at HG.out ((((((((((((HL3.out.setCell (p := ⟨g, 0, none⟩) (Nat.le_refl _) _).setCell (p := ⟨g, 1, none⟩) (Nat.le_refl _) _).setCell (p := ⟨g, 2, none⟩) (Nat.le_refl _) _).setCell (p := ⟨g, 3, none⟩) (Nat.le_refl _) _).setCell (p := ⟨g, 4, none⟩) (Nat.le_refl _) _).setCell (p := ⟨g, 5, none⟩) (Nat.le_refl _) _).setCell (p := ⟨g, 6, none⟩) (Nat.le_refl _) _).setCell (p := ⟨g, 7, none⟩) (Nat.le_refl _) _).setCell (p := ⟨g, 8, none⟩) (Nat.le_refl _) _).setCell (p := ⟨g, 9, none⟩) (Nat.le_refl _) _).setCell (p := ⟨g, 10, none⟩) (Nat.le_refl _) _).setCell (p := ⟨g, 11, none⟩) (Nat.le_refl _) _)⟩
          · -- ME
            have hE : tkO bs = (R', xq + 1, kk + k', 0) := by rw [tkO_yes (by rw [H6.out]) (by rw [H6.out]; simp only; rw [HSQ.out]; exact hok), H6.out]; simp only; rw [HSQ.out]
            have HE := Lib.hid hE
            have HC := Lib.hid (HC.out 0 (by rw [← hrn]; rw [show opB R'.t R'.r (xq + 1) R'.ds R'.k R'.nt R'.nr R'.pt R'.pr R'.s R'.p R'.v = true from hok]; rfl))
            clear hE hok hrl hdl hpl hxq hrn9
            go_wp2_with fail
            refine (HC.out).mono ?_
            rintro e w11 ⟨rfl, hb11⟩
            clear e0 f0 e1 f1 e2 f2 e3 f3 e4 f4 e5 f5 e6 f6 e7 f7 e8 f8 e9 f9 e10 f10 e11 f11 hc
            have HB3 := Lib.hid (HB2.out.next hb11)
            have HL3 := Lib.hid (HL2.out.trans (hb11.mono (Nat.le_of_lt HB2.out.lt)))
            have HO3 := Lib.hid (HO2.out.below hb11)
            clear hb11
            have e0 := HB3.out.cell 0 _ rfl
            have f0 := HB3.out.free 0 _ rfl
            have e1 := HB3.out.cell 1 _ rfl
            have f1 := HB3.out.free 1 _ rfl
            have e2 := HB3.out.cell 2 _ rfl
            have f2 := HB3.out.free 2 _ rfl
            have e3 := HB3.out.cell 3 _ rfl
            have f3 := HB3.out.free 3 _ rfl
            have e4 := HB3.out.cell 4 _ rfl
            have f4 := HB3.out.free 4 _ rfl
            have e5 := HB3.out.cell 5 _ rfl
            have f5 := HB3.out.free 5 _ rfl
            have e6 := HB3.out.cell 6 _ rfl
            have f6 := HB3.out.free 6 _ rfl
            have e7 := HB3.out.cell 7 _ rfl
            have f7 := HB3.out.free 7 _ rfl
            have e8 := HB3.out.cell 8 _ rfl
            have f8 := HB3.out.free 8 _ rfl
            have e9 := HB3.out.cell 9 _ rfl
            have f9 := HB3.out.free 9 _ rfl
            have e10 := HB3.out.cell 10 _ rfl
            have f10 := HB3.out.free 10 _ rfl
            have e11 := HB3.out.cell 11 _ rfl
            have f11 := HB3.out.free 11 _ rfl
            go_wp2
            simp only [Exit.jump]
            have HZ := ((((((((((((HB3.out.set 0 (.int .i64 R'.t)).set 1 (.int .i64 (rn : Int))).set 2 (.int .i64 (xq + 1))).set 3 (.slice (some ⟨b, off, none⟩) n9 c9)).set 4 (.int .i64 R'.k)).set 5 (.int .i64 R'.nt)).set 6 (.int .i64 R'.nr)).set 7 (.int .i64 R'.pt)).set 8 (.int .i64 R'.pr)).set 9 (.string R'.s)).set 10 (.int .i64 R'.p)).set 11 (.int .i64 R'.v))
            have z0 := HZ.cell 0 _ rfl
            have z1 := HZ.cell 1 _ rfl
            have z2 := HZ.cell 2 _ rfl
            have z3 := HZ.cell 3 _ rfl
            have z4 := HZ.cell 4 _ rfl
            have z5 := HZ.cell 5 _ rfl
            have z6 := HZ.cell 6 _ rfl
            have z7 := HZ.cell 7 _ rfl
            have z8 := HZ.cell 8 _ rfl
            have z9 := HZ.cell 9 _ rfl
            have z10 := HZ.cell 10 _ rfl
            have z11 := HZ.cell 11 _ rfl
            clear HZ e0 f0 e1 f1 e2 f2 e3 f3 e4 f4 e5 f5 e6 f6 e7 f7 e8 f8 e9 f9 e10 f10 e11 f11
            refine bodyPost_ret (v := .tuple #[.agg #[.int .i64 R'.t, .int .i64 (rn : Int), .int .i64 (xq + 1), .slice (some ⟨b, off, none⟩) n9 c9, .int .i64 R'.k, .int .i64 R'.nt, .int .i64 R'.nr, .int .i64 R'.pt, .int .i64 R'.pr, .string R'.s, .int .i64 R'.p, .int .i64 R'.v], .int .i64 ((kk + k' : Nat) : Int), .int .i64 0]) (by simp [results, Tryd.results19, go_sem, z0, z1, z2, z3, z4, z5, z6, z7, z8, z9, z10, z11]) rfl ?_
            rw [HE.out]
            exact ⟨_, _, _, by rw [← hrn], (((((((((((((HO3.out.far (Nat.lt_succ_self g) 0 _).far (Nat.lt_succ_self g) 1 _).far (Nat.lt_succ_self g) 2 _).far (Nat.lt_succ_self g) 3 _).far (Nat.lt_succ_self g) 4 _).far (Nat.lt_succ_self g) 5 _).far (Nat.lt_succ_self g) 6 _).far (Nat.lt_succ_self g) 7 _).far (Nat.lt_succ_self g) 8 _).far (Nat.lt_succ_self g) 9 _).far (Nat.lt_succ_self g) 10 _).far (Nat.lt_succ_self g) 11 _)).mono (by rw [← HG.out]; exact Nat.le_succ g), bel_at HG.out ((((((((((((HL3.out.setCell (p := ⟨g, 0, none⟩) (Nat.le_refl _) _).setCell (p := ⟨g, 1, none⟩) (Nat.le_refl _) _).setCell (p := ⟨g, 2, none⟩) (Nat.le_refl _) _).setCell (p := ⟨g, 3, none⟩) (Nat.le_refl _) _).setCell (p := ⟨g, 4, none⟩) (Nat.le_refl _) _).setCell (p := ⟨g, 5, none⟩) (Nat.le_refl _) _).setCell (p := ⟨g, 6, none⟩) (Nat.le_refl _) _).setCell (p := ⟨g, 7, none⟩) (Nat.le_refl _) _).setCell (p := ⟨g, 8, none⟩) (Nat.le_refl _) _).setCell (p := ⟨g, 9, none⟩) (Nat.le_refl _) _).setCell (p := ⟨g, 10, none⟩) (Nat.le_refl _) _).setCell (p := ⟨g, 11, none⟩) (Nat.le_refl _) _)⟩
        · -- MF
          have hdr : decide (R'.r < (n9 : Int)) = false := decide_eq_false (by rw [HN9.out]; exact hrl)
          have hdr' : ¬ R'.r < (n9 : Int) := by rw [HN9.out]; exact hrl
          have HT2 := Lib.hid (HT.out.below (bel_at HG.out HI9.out.bel) HT.out.lt)
          have hok : R'.ok (seqR R') = false := by
            cases h : R'.ok (seqR R')
            · rfl
            · obtain ⟨_, _, h3, _⟩ := opB_parts h
              exact absurd (cntB_parts h3).2.1 hrl
          have hok0 : R'.ok 0 = false := by rw [← show seqR R' = 0 from by rw [seqR, if_neg hrl]]; exact hok
          have HE := Lib.hid (tkO_no (by rw [H6.out]) (by rw [H6.out]; exact hok) : tkO bs = (zR, 0, 0, 1))
          have HC := Lib.hid (check_is R'.t R'.r 0 a9 R'.ds n9 c9 R'.k R'.nt R'.nr R'.pt R'.pr R'.s R'.p R'.v w9 HT2.out HR9.out HN9.out (by omega) 1 (by rw [show opB R'.t R'.r 0 R'.ds R'.k R'.nt R'.nr R'.pt R'.pr R'.s R'.p R'.v = false from hok0]; rfl))
          clear hok hok0 hrl hdl hpl
          go_wp2_with fail
          refine (HC.out).mono ?_
          rintro e w11 ⟨rfl, hb11⟩
          clear e0 f0 e1 f1 e2 f2 e3 f3 e4 f4 e5 f5 e6 f6 e7 f7 e8 f8 e9 f9 e10 f10 e11 f11
          have HB3 := Lib.hid (HI9.out.blk.next hb11)
          have HL3 := Lib.hid (HI9.out.bel.trans (hb11.mono (Nat.le_of_lt HI9.out.blk.lt)))
          clear hb11
          have e0 := HB3.out.cell 0 _ rfl
          have f0 := HB3.out.free 0 _ rfl
          have e1 := HB3.out.cell 1 _ rfl
          have f1 := HB3.out.free 1 _ rfl
          have e2 := HB3.out.cell 2 _ rfl
          have f2 := HB3.out.free 2 _ rfl
          have e3 := HB3.out.cell 3 _ rfl
          have f3 := HB3.out.free 3 _ rfl
          have e4 := HB3.out.cell 4 _ rfl
          have f4 := HB3.out.free 4 _ rfl
          have e5 := HB3.out.cell 5 _ rfl
          have f5 := HB3.out.free 5 _ rfl
          have e6 := HB3.out.cell 6 _ rfl
          have f6 := HB3.out.free 6 _ rfl
          have e7 := HB3.out.cell 7 _ rfl
          have f7 := HB3.out.free 7 _ rfl
          have e8 := HB3.out.cell 8 _ rfl
          have f8 := HB3.out.free 8 _ rfl
          have e9 := HB3.out.cell 9 _ rfl
          have f9 := HB3.out.free 9 _ rfl
          have e10 := HB3.out.cell 10 _ rfl
          have f10 := HB3.out.free 10 _ rfl
          have e11 := HB3.out.cell 11 _ rfl
          have f11 := HB3.out.free 11 _ rfl
          go_wp2
          simp only [Exit.jump]
          have HZ := ((((((((((((HB3.out.set 0 (.int .i64 0)).set 1 (.int .i64 0)).set 2 (.int .i64 0)).set 3 (.slice none 0 0)).set 4 (.int .i64 0)).set 5 (.int .i64 0)).set 6 (.int .i64 0)).set 7 (.int .i64 0)).set 8 (.int .i64 0)).set 9 (.string ⟨#[]⟩)).set 10 (.int .i64 0)).set 11 (.int .i64 0))
          have z0 := HZ.cell 0 _ rfl
          have z1 := HZ.cell 1 _ rfl
          have z2 := HZ.cell 2 _ rfl
          have z3 := HZ.cell 3 _ rfl
          have z4 := HZ.cell 4 _ rfl
          have z5 := HZ.cell 5 _ rfl
          have z6 := HZ.cell 6 _ rfl
          have z7 := HZ.cell 7 _ rfl
          have z8 := HZ.cell 8 _ rfl
          have z9 := HZ.cell 9 _ rfl
          have z10 := HZ.cell 10 _ rfl
          have z11 := HZ.cell 11 _ rfl
          clear HZ e0 f0 e1 f1 e2 f2 e3 f3 e4 f4 e5 f5 e6 f6 e7 f7 e8 f8 e9 f9 e10 f10 e11 f11
          refine bodyPost_ret (v := .tuple #[.agg #[.int .i64 0, .int .i64 0, .int .i64 0, .slice none 0 0, .int .i64 0, .int .i64 0, .int .i64 0, .int .i64 0, .int .i64 0, .string ⟨#[]⟩, .int .i64 0, .int .i64 0], .int .i64 0, .int .i64 1]) (by simp [results, Tryd.results19, go_sem, z0, z1, z2, z3, z4, z5, z6, z7, z8, z9, z10, z11]) rfl ?_
          rw [HE.out]
          exact ⟨none, 0, 0, rfl, OwnK.nil _ _ _ _, bel_at HG.out ((((((((((((HL3.out.setCell (p := ⟨g, 0, none⟩) (Nat.le_refl _) _).setCell (p := ⟨g, 1, none⟩) (Nat.le_refl _) _).setCell (p := ⟨g, 2, none⟩) (Nat.le_refl _) _).setCell (p := ⟨g, 3, none⟩) (Nat.le_refl _) _).setCell (p := ⟨g, 4, none⟩) (Nat.le_refl _) _).setCell (p := ⟨g, 5, none⟩) (Nat.le_refl _) _).setCell (p := ⟨g, 6, none⟩) (Nat.le_refl _) _).setCell (p := ⟨g, 7, none⟩) (Nat.le_refl _) _).setCell (p := ⟨g, 8, none⟩) (Nat.le_refl _) _).setCell (p := ⟨g, 9, none⟩) (Nat.le_refl _) _).setCell (p := ⟨g, 10, none⟩) (Nat.le_refl _) _).setCell (p := ⟨g, 11, none⟩) (Nat.le_refl _) _)⟩
    · -- MG
      clear hkk
      go_wp2_with fail
      go_region_with (first
          | (go_at_call 33
             (with_reducible refine (FA.out _).mono ?_)
             rintro e w8 ⟨rfl, rfl⟩)
          | (go_at_call 34
             (with_reducible refine (FT2.out).mono ?_)
             rintro e w9 ⟨d9, rfl, hB9, ho9, hl9⟩
             obtain ⟨a9, n9, c9, rfl, hn9, hr9, hc9⟩ := ho9.form'
             have HI9 : Hid (TakI w w9 g R' a9 n9 c9) := ⟨hB9, ho9, HI.out.bel.drew.trans hl9⟩
             have HN9 := Lib.hid hn9
             have HR9 := Lib.hid hr9
             clear hB9 ho9 hl9 hn9 hr9 hc9))
      have hx' : (x == 0) = false := by simpa using hx
      have e0 := HI9.out.blk.cell 0 _ rfl
      have f0 := HI9.out.blk.free 0 _ rfl
      have e1 := HI9.out.blk.cell 1 _ rfl
      have f1 := HI9.out.blk.free 1 _ rfl
      have e2 := HI9.out.blk.cell 2 _ rfl
      have f2 := HI9.out.blk.free 2 _ rfl
      have e3 := HI9.out.blk.cell 3 _ rfl
      have f3 := HI9.out.blk.free 3 _ rfl
      have e4 := HI9.out.blk.cell 4 _ rfl
      have f4 := HI9.out.blk.free 4 _ rfl
      have e5 := HI9.out.blk.cell 5 _ rfl
      have f5 := HI9.out.blk.free 5 _ rfl
      have e6 := HI9.out.blk.cell 6 _ rfl
      have f6 := HI9.out.blk.free 6 _ rfl
      have e7 := HI9.out.blk.cell 7 _ rfl
      have f7 := HI9.out.blk.free 7 _ rfl
      have e8 := HI9.out.blk.cell 8 _ rfl
      have f8 := HI9.out.blk.free 8 _ rfl
      have e9 := HI9.out.blk.cell 9 _ rfl
      have f9 := HI9.out.blk.free 9 _ rfl
      have e10 := HI9.out.blk.cell 10 _ rfl
      have f10 := HI9.out.blk.free 10 _ rfl
      have e11 := HI9.out.blk.cell 11 _ rfl
      have f11 := HI9.out.blk.free 11 _ rfl
      have hb0 := op_build0
      go_wp2
      simp only [Exit.jump]
      have HZ := ((((((((((((HI9.out.blk.set 0 (.int .i64 0)).set 1 (.int .i64 0)).set 2 (.int .i64 0)).set 3 (.slice none 0 0)).set 4 (.int .i64 0)).set 5 (.int .i64 0)).set 6 (.int .i64 0)).set 7 (.int .i64 0)).set 8 (.int .i64 0)).set 9 (.string ⟨#[]⟩)).set 10 (.int .i64 0)).set 11 (.int .i64 0))
      have z0 := HZ.cell 0 _ rfl
      have z1 := HZ.cell 1 _ rfl
      have z2 := HZ.cell 2 _ rfl
      have z3 := HZ.cell 3 _ rfl
      have z4 := HZ.cell 4 _ rfl
      have z5 := HZ.cell 5 _ rfl
      have z6 := HZ.cell 6 _ rfl
      have z7 := HZ.cell 7 _ rfl
      have z8 := HZ.cell 8 _ rfl
      have z9 := HZ.cell 9 _ rfl
      have z10 := HZ.cell 10 _ rfl
      have z11 := HZ.cell 11 _ rfl
      clear HZ e0 f0 e1 f1 e2 f2 e3 f3 e4 f4 e5 f5 e6 f6 e7 f7 e8 f8 e9 f9 e10 f10 e11 f11
      refine bodyPost_ret (v := .tuple #[.agg #[.int .i64 0, .int .i64 0, .int .i64 0, .slice none 0 0, .int .i64 0, .int .i64 0, .int .i64 0, .int .i64 0, .int .i64 0, .string ⟨#[]⟩, .int .i64 0, .int .i64 0], .int .i64 0, .int .i64 x]) (by simp [results, Tryd.results19, go_sem, z0, z1, z2, z3, z4, z5, z6, z7, z8, z9, z10, z11]) rfl ?_
      rw [run_stepE HI6.out HRUN.out hx HSR.out]
      exact ⟨none, 0, 0, rfl, OwnK.nil _ _ _ _, bel_at HG.out ((((((((((((HI9.out.bel.setCell (p := ⟨g, 0, none⟩) (Nat.le_refl _) _).setCell (p := ⟨g, 1, none⟩) (Nat.le_refl _) _).setCell (p := ⟨g, 2, none⟩) (Nat.le_refl _) _).setCell (p := ⟨g, 3, none⟩) (Nat.le_refl _) _).setCell (p := ⟨g, 4, none⟩) (Nat.le_refl _) _).setCell (p := ⟨g, 5, none⟩) (Nat.le_refl _) _).setCell (p := ⟨g, 6, none⟩) (Nat.le_refl _) _).setCell (p := ⟨g, 7, none⟩) (Nat.le_refl _) _).setCell (p := ⟨g, 8, none⟩) (Nat.le_refl _) _).setCell (p := ⟨g, 9, none⟩) (Nat.le_refl _) _).setCell (p := ⟨g, 10, none⟩) (Nat.le_refl _) _).setCell (p := ⟨g, 11, none⟩) (Nat.le_refl _) _)⟩
end Go.Proofs.YtabbbpmhmlapgaaDoor
