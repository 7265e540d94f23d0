/- Registers: RegMerges' walk. -/
import Derived.Test.YtjpjjckokonkpaaDoorA11
namespace Go.Proofs.YtjpjjckokonkpaaDoor
open Go.RowKit Go.Lib
set_option linter.unusedVariables false

set_option maxHeartbeats 8000000 in
set_option maxRecDepth 100000 in
theorem regMerges_walk (ra : Option Addr) (rs : List RgD) (rn rc : Nat) (qa : Option Addr) (qs : List RgD) (qn qc : Nat) (la : Option Addr) (ls : List RgD) (ln lc : Nat) (w : World) (ht : Pr.Tab w) (h : ScG w ra rs rn rc qa qs qn qc la ls ln lc) :
    Calls Tryd.prog 6 #[.agg #[.slice ra rn rc, .slice qa qn qc, .slice la ln lc]] w (BoolPost w true) := by
  have mixed : Tryd.prog.follows .mixedOrders = true := by kernel_rfl
  have HT := Lib.hid (fun W (hb : Below w.heap.size w W) => ht.below hb ht.lt)
  have HB0 := Lib.hid (bel1 w (scG ra rn rc qa qn qc la ln lc))
  have HS0 := Lib.hid (ScB.new w ra rn rc qa qn qc la ln lc)
  have HR := Lib.hid h
  have CH := Lib.hid (heavy15_any ra rs rn rc qa qs qn qc la ls ln lc _ (h.below HB0.out))
  have CW := Lib.hid (fun W (hb : Below w.heap.size w W) => wakes15_any W (HT.out W hb))
  clear ht h
  go_enter Tryd.func6, Tryd.ntmps6
  go_wp2_with fail
  generalize w.alloc (scG ra rn rc qa qn qc la ln lc) = W0 at *
  generalize hg : w.heap.size = g at HS0 ⊢
  clear hg
  refine (CH.out).mono ?_
  rintro e w0 ⟨rfl, hb⟩
  have HB := Lib.hid (HB0.out.trans (hb.mono HB0.out.size))
  have HS := Lib.hid (HS0.out.next hb)
  clear hb CH HS0 HB0
  by_cases hv : 2000 < rn + qn + ln
  · have hvd : decide (2000 < rn + qn + ln) = true := decide_eq_true hv
    go_wp2
    go_ret
    exact ⟨rfl, HB.out⟩
  · have hvd : decide (2000 < rn + qn + ln) = false := decide_eq_false hv
    rw [hvd]
    have hrn : rn ≤ 2000 := by omega
    have hqn : qn ≤ 2000 := by omega
    have hln : ln ≤ 2000 := by omega
    clear hv hvd
    have CR := Lib.hid (fun W (hb : Below w.heap.size w W) => copyRegs_any ra rs rn rc W (HR.out.rr.below hb (Nat.le_refl _)) HR.out.rl (by have := HR.out.rm; have := HR.out.rl; omega))
    have CQ := Lib.hid (fun W (hb : Below w.heap.size w W) => copyRegs_any qa qs qn qc W (HR.out.qr.below hb (Nat.le_refl _)) HR.out.ql (by have := HR.out.qm; have := HR.out.ql; omega))
    have CG1 := Lib.hid (fun W (hb : Below w.heap.size w W) => refRegs_any ra rs rn rc W (HR.out.rr.below hb (Nat.le_refl _)) HR.out.rl (by omega))
    have CG2 := Lib.hid (fun W (hb : Below w.heap.size w W) => refRegs_any qa qs qn qc W (HR.out.qr.below hb (Nat.le_refl _)) HR.out.ql (by omega))
    have HM := Lib.hid (show (rs.length + qs.length + 2) * 32 ≤ 140737488355328 by have := HR.out.rl; have := HR.out.ql; omega)
    have HM1 := Lib.hid (show (rs.length + qs.length) * 32 ≤ 140737488355328 by have := HR.out.rl; have := HR.out.ql; omega)
    have HM2 := Lib.hid (show (rs.length + rs.length) * 32 ≤ 140737488355328 by have := HR.out.rl; omega)
    have HK : Hid (∀ W, Below w0.heap.size w0 W → W.cell? ⟨g, 0, none⟩ = some (.slice ra rn rc) ∧ W.cell? ⟨g, 1, none⟩ = some (.slice qa qn qc) ∧ W.cell? ⟨g, 2, none⟩ = some (.slice la ln lc)) := fun W hb => ⟨(HS.out.next hb).c0, (HS.out.next hb).c1, (HS.out.next hb).c2⟩
    have HKB : Hid (∀ W, Below w0.heap.size w0 W → Below w.heap.size w W) := fun W hb => HB.out.trans (hb.mono HB.out.size)
    clear hrn hqn hln
    cases hrb : regsB rs
    · rw [hrb] at CG1
      have HNO : Hid ((regsB rs && regsB qs) = false) := by show _ = _; rw [hrb]; rfl
      have HNR : Hid ((regsB rs && regsB rs) = false) := by show _ = _; rw [hrb]; rfl
      clear hrb
      have hS0 := HK.out _ (Below.refl w0.heap.size w0).drew
      go_wp2_with fail
      go_region_held3 (fun W => W.cell? ⟨g, 0, none⟩ = some (.slice ra rn rc) ∧ W.cell? ⟨g, 1, none⟩ = some (.slice qa qn qc) ∧ W.cell? ⟨g, 2, none⟩ = some (.slice la ln lc)) (with_reducible assumption) (first
        | (go_at_call_of 9 (Value.slice ra rn rc)
           (with_reducible refine (CR.out _ (HKB.out _ (Below.refl w0.heap.size w0).drew)).mono ?_)
           rintro e w1 ⟨v1, rfl, ho1, hb1⟩
           have HE1 : Hid (Below w0.heap.size w0 w1) := (Below.refl w0.heap.size w0).drew.trans hb1
           have HO1 := Lib.hid ho1
           have hS1 := HK.out w1 HE1.out
           clear ho1 hb1)
        | (go_at_call_of 9 (Value.slice qa qn qc)
           (with_reducible refine (CQ.out _ (HKB.out _ HE1.out)).mono ?_)
           rintro e w2 ⟨v2, rfl, ho2, hb2⟩
           have HE2 : Hid (Below w0.heap.size w0 w2) := HE1.out.trans (hb2.mono HE1.out.size)
           have HO1b := Lib.hid (HO1.out.below hb2)
           obtain ⟨a1, n1, c1, rfl, hn1, hc1, hr1⟩ := HO1b.out.form
           obtain ⟨a2, n2, c2, rfl, hn2, hc2, hr2⟩ := ho2.form
           have HRW := Lib.hid hr1
           have HQW := Lib.hid hr2
           have HRN := Lib.hid hn1
           have HQN := Lib.hid hn2
           have HRC := Lib.hid hc1
           have HQC := Lib.hid hc2
           have hS2 := HK.out w2 HE2.out
           clear ho2 hb2 hr1 hr2 hn1 hn2 hc1 hc2)
        | (go_at_call 20
           (refine (merge_no _ rs _ _ _ qs _ _ _ (HT.out _ (HKB.out _ HE2.out)) HRW.out HQW.out HRN.out HQN.out HM1.out HNO.out).mono ?_)
           rintro e w3 ⟨rfl, hb3⟩
           have HE3 : Hid (Below w0.heap.size w0 w3) := HE2.out.trans (hb3.mono HE2.out.size)
           have hS3 := HK.out w3 HE3.out
           clear hb3))
      have HB3 := Lib.hid (HKB.out _ HE3.out)
      have HS3 := Lib.hid (HS.out.next HE3.out)
      clear HB HS
      have HB := HB3
      have HS := HS3
      clear HB3 HS3
      obtain ⟨s0, s1, s2⟩ := HS.out
      clear hS0 hS1 hS2 hS3
      go_wp2_with fail
      refine (CG1.out _ HB.out).mono ?_
      rintro e v1 ⟨rfl, hb⟩
      clear s0 s1 s2
      have HBx := Lib.hid (HB.out.trans (hb.mono HB.out.size))
      have HSx := Lib.hid (HS.out.next hb)
      clear HB HS
      have HB := HBx
      have HS := HSx
      clear HBx HSx
      clear hb
      obtain ⟨s0, s1, s2⟩ := HS.out
      go_wp2_with fail
      refine (num15_any 1 _).mono ?_
      rintro e wn ⟨rfl, rfl⟩
      go_wp2_with fail
      refine (merge_no ra rs rn rc ra rs rn rc _ (HT.out _ HB.out) (HR.out.rr.below HB.out (Nat.le_refl _)) (HR.out.rr.below HB.out (Nat.le_refl _)) HR.out.rl HR.out.rl HM2.out HNR.out).mono ?_
      rintro e v2 ⟨rfl, hb⟩
      clear s0 s1 s2
      have HBx := Lib.hid (HB.out.trans (hb.mono HB.out.size))
      have HSx := Lib.hid (HS.out.next hb)
      clear HB HS
      have HB := HBx
      have HS := HSx
      clear HBx HSx
      clear hb
      obtain ⟨s0, s1, s2⟩ := HS.out
      go_wp2_with fail
      refine (CG1.out _ HB.out).mono ?_
      rintro e v3 ⟨rfl, hb⟩
      clear s0 s1 s2
      have HBx := Lib.hid (HB.out.trans (hb.mono HB.out.size))
      have HSx := Lib.hid (HS.out.next hb)
      clear HB HS
      have HB := HBx
      have HS := HSx
      clear HBx HSx
      clear hb
      obtain ⟨s0, s1, s2⟩ := HS.out
      go_wp2_with fail
      refine (CW.out _ HB.out).mono ?_
      rintro e wz ⟨rfl, hb⟩
      have HBz := Lib.hid (HB.out.trans (hb.mono HB.out.size))
      clear hb
      go_wp2
      go_ret
      exact ⟨rfl, HBz.out⟩
    · cases hqb : regsB qs
      · have HRB := Lib.hid hrb
        have HQB := Lib.hid hqb
        rw [hrb] at CG1
        rw [hqb] at CG2
        have HNO : Hid ((regsB rs && regsB qs) = false) := by show _ = _; rw [hrb, hqb]; rfl
        clear hrb hqb
        have hS0 := HK.out _ (Below.refl w0.heap.size w0).drew
        go_wp2_with fail
        go_region_held3 (fun W => W.cell? ⟨g, 0, none⟩ = some (.slice ra rn rc) ∧ W.cell? ⟨g, 1, none⟩ = some (.slice qa qn qc) ∧ W.cell? ⟨g, 2, none⟩ = some (.slice la ln lc)) (with_reducible assumption) (first
          | (go_at_call_of 9 (Value.slice ra rn rc)
             (with_reducible refine (CR.out _ (HKB.out _ (Below.refl w0.heap.size w0).drew)).mono ?_)
             rintro e w1 ⟨v1, rfl, ho1, hb1⟩
             have HE1 : Hid (Below w0.heap.size w0 w1) := (Below.refl w0.heap.size w0).drew.trans hb1
             have HO1 := Lib.hid ho1
             have hS1 := HK.out w1 HE1.out
             clear ho1 hb1)
          | (go_at_call_of 9 (Value.slice qa qn qc)
             (with_reducible refine (CQ.out _ (HKB.out _ HE1.out)).mono ?_)
             rintro e w2 ⟨v2, rfl, ho2, hb2⟩
             have HE2 : Hid (Below w0.heap.size w0 w2) := HE1.out.trans (hb2.mono HE1.out.size)
             have HO1b := Lib.hid (HO1.out.below hb2)
             obtain ⟨a1, n1, c1, rfl, hn1, hc1, hr1⟩ := HO1b.out.form
             obtain ⟨a2, n2, c2, rfl, hn2, hc2, hr2⟩ := ho2.form
             have HRW := Lib.hid hr1
             have HQW := Lib.hid hr2
             have HRN := Lib.hid hn1
             have HQN := Lib.hid hn2
             have HRC := Lib.hid hc1
             have HQC := Lib.hid hc2
             have hS2 := HK.out w2 HE2.out
             clear ho2 hb2 hr1 hr2 hn1 hn2 hc1 hc2)
          | (go_at_call 20
             (refine (merge_no _ rs _ _ _ qs _ _ _ (HT.out _ (HKB.out _ HE2.out)) HRW.out HQW.out HRN.out HQN.out HM1.out HNO.out).mono ?_)
             rintro e w3 ⟨rfl, hb3⟩
             have HE3 : Hid (Below w0.heap.size w0 w3) := HE2.out.trans (hb3.mono HE2.out.size)
             have hS3 := HK.out w3 HE3.out
             clear hb3))
        have HB3 := Lib.hid (HKB.out _ HE3.out)
        have HS3 := Lib.hid (HS.out.next HE3.out)
        clear HB HS
        have HB := HB3
        have HS := HS3
        clear HB3 HS3
        obtain ⟨s0, s1, s2⟩ := HS.out
        clear hS0 hS1 hS2 hS3
        go_wp2_with fail
        refine (CG1.out _ HB.out).mono ?_
        rintro e v1 ⟨rfl, hb⟩
        clear s0 s1 s2
        have HBx := Lib.hid (HB.out.trans (hb.mono HB.out.size))
        have HSx := Lib.hid (HS.out.next hb)
        clear HB HS
        have HB := HBx
        have HS := HSx
        clear HBx HSx
        clear hb
        obtain ⟨s0, s1, s2⟩ := HS.out
        go_wp2_with fail
        refine (CG2.out _ HB.out).mono ?_
        rintro e v2 ⟨rfl, hb⟩
        clear s0 s1 s2
        have HBx := Lib.hid (HB.out.trans (hb.mono HB.out.size))
        have HSx := Lib.hid (HS.out.next hb)
        clear HB HS
        have HB := HBx
        have HS := HSx
        clear HBx HSx
        clear hb
        obtain ⟨s0, s1, s2⟩ := HS.out
        go_wp2_with fail
        refine (num15_any 1 _).mono ?_
        rintro e wn ⟨rfl, rfl⟩
        go_wp2_with fail
        refine (merge_yes ra rs rn rc ra rs rn rc _ (HT.out _ HB.out) (HR.out.rr.below HB.out (Nat.le_refl _)) (HR.out.rr.below HB.out (Nat.le_refl _)) HR.out.rl HR.out.rl HR.out.rk HR.out.rk HM2.out HRB.out HRB.out).mono ?_
        rintro e v3 ⟨vs, rfl, hos, hb⟩
        clear s0 s1 s2
        have HBx := Lib.hid (HB.out.trans (hb.mono HB.out.size))
        have HSx := Lib.hid (HS.out.next hb)
        clear HB HS
        have HB := HBx
        have HS := HSx
        clear HBx HSx
        have HOS := Lib.hid (show OwnG _ _ vs rs by rw [← merge_self rs]; exact hos)
        clear hb hos
        obtain ⟨s0, s1, s2⟩ := HS.out
        go_wp2_with fail
        refine (CG1.out _ HB.out).mono ?_
        rintro e v4 ⟨rfl, hb⟩
        clear s0 s1 s2
        have HBx := Lib.hid (HB.out.trans (hb.mono HB.out.size))
        have HSx := Lib.hid (HS.out.next hb)
        have HOSx := Lib.hid (HOS.out.below hb)
        clear HB HS HOS
        have HB := HBx
        have HS := HSx
        have HOS := HOSx
        clear HBx HSx HOSx
        clear hb
        obtain ⟨s0, s1, s2⟩ := HS.out
        go_wp2_with fail
        refine (num15_any 0 _).mono ?_
        rintro e wn ⟨rfl, rfl⟩
        obtain ⟨a5, n5, c5, rfl, hn5, hc5, hr5⟩ := HOS.out.form
        have CF := Lib.hid (eqRegs_yes a5 ra rs n5 rn c5 rc _ hr5 (HR.out.rr.below HB.out (Nat.le_refl _)) hn5 HR.out.rl (by have := HM2.out; omega))
        clear hn5 hc5 hr5
        go_wp2_with fail
        refine (CF.out).mono ?_
        rintro e v5 ⟨rfl, hb⟩
        clear s0 s1 s2
        have HBx := Lib.hid (HB.out.trans (hb.mono HB.out.size))
        have HSx := Lib.hid (HS.out.next hb)
        clear HB HS
        have HB := HBx
        have HS := HSx
        clear HBx HSx
        clear hb
        obtain ⟨s0, s1, s2⟩ := HS.out
        go_wp2_with fail
        refine (CW.out _ HB.out).mono ?_
        rintro e wz ⟨rfl, hb⟩
        have HBz := Lib.hid (HB.out.trans (hb.mono HB.out.size))
        clear hb
        go_wp2
        go_ret
        exact ⟨rfl, HBz.out⟩
      · have HRB := Lib.hid hrb
        have HQB := Lib.hid hqb
        rw [hrb] at CG1
        rw [hqb] at CG2
        clear hrb hqb
        have hS0 := HK.out _ (Below.refl w0.heap.size w0).drew
        go_wp2_with fail
        go_region_held3 (fun W => W.cell? ⟨g, 0, none⟩ = some (.slice ra rn rc) ∧ W.cell? ⟨g, 1, none⟩ = some (.slice qa qn qc) ∧ W.cell? ⟨g, 2, none⟩ = some (.slice la ln lc)) (with_reducible assumption) (first
          | (go_at_call_of 9 (Value.slice ra rn rc)
             (with_reducible refine (CR.out _ (HKB.out _ (Below.refl w0.heap.size w0).drew)).mono ?_)
             rintro e w1 ⟨v1, rfl, ho1, hb1⟩
             have HE1 : Hid (Below w0.heap.size w0 w1) := (Below.refl w0.heap.size w0).drew.trans hb1
             have HO1 := Lib.hid ho1
             have hS1 := HK.out w1 HE1.out
             clear ho1 hb1)
          | (go_at_call_of 9 (Value.slice qa qn qc)
             (with_reducible refine (CQ.out _ (HKB.out _ HE1.out)).mono ?_)
             rintro e w2 ⟨v2, rfl, ho2, hb2⟩
             have HE2 : Hid (Below w0.heap.size w0 w2) := HE1.out.trans (hb2.mono HE1.out.size)
             have HO1b := Lib.hid (HO1.out.below hb2)
             obtain ⟨a1, n1, c1, rfl, hn1, hc1, hr1⟩ := HO1b.out.form
             obtain ⟨a2, n2, c2, rfl, hn2, hc2, hr2⟩ := ho2.form
             have HRW := Lib.hid hr1
             have HQW := Lib.hid hr2
             have HRN := Lib.hid hn1
             have HQN := Lib.hid hn2
             have HRC := Lib.hid hc1
             have HQC := Lib.hid hc2
             have hS2 := HK.out w2 HE2.out
             clear ho2 hb2 hr1 hr2 hn1 hn2 hc1 hc2)
          | (go_at_call 20
             (refine (merge_yes _ rs _ _ _ qs _ _ _ (HT.out _ (HKB.out _ HE2.out)) HRW.out HQW.out HRN.out HQN.out HRC.out HQC.out HM1.out HRB.out HQB.out).mono ?_)
             rintro e w3 ⟨v3, rfl, ho3, hb3⟩
             have HE3 : Hid (Below w0.heap.size w0 w3) := HE2.out.trans (hb3.mono HE2.out.size)
             have HO3 := Lib.hid ho3
             have hS3 := HK.out w3 HE3.out
             clear ho3 hb3))
        have HB3 := Lib.hid (HKB.out _ HE3.out)
        have HS3 := Lib.hid (HS.out.next HE3.out)
        clear HB HS
        have HB := HB3
        have HS := HS3
        clear HB3 HS3
        obtain ⟨s0, s1, s2⟩ := HS.out
        clear hS0 hS1 hS2 hS3
        go_wp2_with fail
        refine (CG1.out _ HB.out).mono ?_
        rintro e v1 ⟨rfl, hb⟩
        clear s0 s1 s2
        have HBx := Lib.hid (HB.out.trans (hb.mono HB.out.size))
        have HSx := Lib.hid (HS.out.next hb)
        have HO3x := Lib.hid (HO3.out.below hb)
        clear HB HS HO3
        have HB := HBx
        have HS := HSx
        have HO3 := HO3x
        clear HBx HSx HO3x
        clear hb
        obtain ⟨s0, s1, s2⟩ := HS.out
        go_wp2_with fail
        refine (CG2.out _ HB.out).mono ?_
        rintro e v2 ⟨rfl, hb⟩
        clear s0 s1 s2
        have HBx := Lib.hid (HB.out.trans (hb.mono HB.out.size))
        have HSx := Lib.hid (HS.out.next hb)
        have HO3x := Lib.hid (HO3.out.below hb)
        clear HB HS HO3
        have HB := HBx
        have HS := HSx
        have HO3 := HO3x
        clear HBx HSx HO3x
        clear hb
        obtain ⟨s0, s1, s2⟩ := HS.out
        go_wp2_with fail
        refine (num15_any 0 _).mono ?_
        rintro e wn ⟨rfl, rfl⟩
        go_wp2_with fail
        refine (refMerge_any ra rs rn rc qa qs qn qc _ (HR.out.rr.below HB.out (Nat.le_refl _)) (HR.out.qr.below HB.out (Nat.le_refl _)) HR.out.rl HR.out.ql HM.out).mono ?_
        rintro e v3 ⟨vf, rfl, hof, hb⟩
        clear s0 s1 s2
        have HBx := Lib.hid (HB.out.trans (hb.mono HB.out.size))
        have HSx := Lib.hid (HS.out.next hb)
        have HO3x := Lib.hid (HO3.out.below hb)
        clear HB HS HO3
        have HB := HBx
        have HS := HSx
        have HO3 := HO3x
        clear HBx HSx HO3x
        have HOF := Lib.hid (show OwnG _ _ vf (mergeG rs qs) by rw [← foldG_merge HRB.out HQB.out]; exact hof)
        clear hb hof
        obtain ⟨s0, s1, s2⟩ := HS.out
        obtain ⟨a3, n3, c3, rfl, hn3, hc3, hr3⟩ := HO3.out.form
        obtain ⟨a4, n4, c4, rfl, hn4, hc4, hr4⟩ := HOF.out.form
        have CE := Lib.hid (eqRegs_yes a3 a4 (mergeG rs qs) n3 n4 c3 c4 _ hr3 hr4 hn3 hn4 (by have h1 := mergeG_len rs qs; have h2 := HR.out.rl; have h3 := HR.out.ql; have := HM1.out; generalize (mergeG rs qs).length = q at *; omega))
        clear hn3 hc3 hr3 hn4 hc4 hr4
        go_wp2_with fail
        refine (CE.out).mono ?_
        rintro e v4 ⟨rfl, hb⟩
        clear s0 s1 s2
        have HBx := Lib.hid (HB.out.trans (hb.mono HB.out.size))
        have HSx := Lib.hid (HS.out.next hb)
        clear HB HS
        have HB := HBx
        have HS := HSx
        clear HBx HSx
        clear hb
        obtain ⟨s0, s1, s2⟩ := HS.out
        go_wp2_with fail
        refine (merge_yes ra rs rn rc ra rs rn rc _ (HT.out _ HB.out) (HR.out.rr.below HB.out (Nat.le_refl _)) (HR.out.rr.below HB.out (Nat.le_refl _)) HR.out.rl HR.out.rl HR.out.rk HR.out.rk HM2.out HRB.out HRB.out).mono ?_
        rintro e v5 ⟨vs, rfl, hos, hb⟩
        clear s0 s1 s2
        have HBx := Lib.hid (HB.out.trans (hb.mono HB.out.size))
        have HSx := Lib.hid (HS.out.next hb)
        clear HB HS
        have HB := HBx
        have HS := HSx
        clear HBx HSx
        have HOS := Lib.hid (show OwnG _ _ vs rs by rw [← merge_self rs]; exact hos)
        clear hb hos
        obtain ⟨s0, s1, s2⟩ := HS.out
        go_wp2_with fail
        refine (CG1.out _ HB.out).mono ?_
        rintro e v6 ⟨rfl, hb⟩
        clear s0 s1 s2
        have HBx := Lib.hid (HB.out.trans (hb.mono HB.out.size))
        have HSx := Lib.hid (HS.out.next hb)
        have HOSx := Lib.hid (HOS.out.below hb)
        clear HB HS HOS
        have HB := HBx
        have HS := HSx
        have HOS := HOSx
        clear HBx HSx HOSx
        clear hb
        obtain ⟨s0, s1, s2⟩ := HS.out
        go_wp2_with fail
        refine (num15_any 0 _).mono ?_
        rintro e wn ⟨rfl, rfl⟩
        obtain ⟨a5, n5, c5, rfl, hn5, hc5, hr5⟩ := HOS.out.form
        have CF := Lib.hid (eqRegs_yes a5 ra rs n5 rn c5 rc _ hr5 (HR.out.rr.below HB.out (Nat.le_refl _)) hn5 HR.out.rl (by have := HM2.out; omega))
        clear hn5 hc5 hr5
        go_wp2_with fail
        refine (CF.out).mono ?_
        rintro e v7 ⟨rfl, hb⟩
        clear s0 s1 s2
        have HBx := Lib.hid (HB.out.trans (hb.mono HB.out.size))
        have HSx := Lib.hid (HS.out.next hb)
        clear HB HS
        have HB := HBx
        have HS := HSx
        clear HBx HSx
        clear hb
        obtain ⟨s0, s1, s2⟩ := HS.out
        go_wp2_with fail
        refine (CW.out _ HB.out).mono ?_
        rintro e wz ⟨rfl, hb⟩
        have HBz := Lib.hid (HB.out.trans (hb.mono HB.out.size))
        clear hb
        go_wp2
        go_ret
        exact ⟨rfl, HBz.out⟩
end Go.Proofs.YtjpjjckokonkpaaDoor
