/- Registers: RegSets' walk. -/
import Derived.Test.YtjpjjckokonkpaaDoorA11
namespace Go.Proofs.YtjpjjckokonkpaaDoor
open Go.RowKit Go.Lib
set_option linter.unusedVariables false

theorem actA_new (w : World) (x : RgD) : RgAt (w.alloc (.cells #[.int .i64 x.p, .int .i64 x.v, .int .i64 x.t, .int .i64 x.r] 31)) w.heap.size 0 x := ⟨by simp, by simp, by simp, by simp⟩
set_option maxHeartbeats 8000000 in
set_option maxRecDepth 100000 in
theorem regSets_walk (ra : Option Addr) (rs : List RgD) (rn rc : Nat) (qa : Option Addr) (qs : List RgD) (qn qc : Nat) (la : Option Addr) (ls : List RgD) (ln lc : Nat) (w : World) (ht : Pr.Tab w) (h : ScG w ra rs rn rc qa qs qn qc la ls ln lc) :
    Calls Tryd.prog 5 #[.agg #[.slice ra rn rc, .slice qa qn qc, .slice la ln lc]] w (BoolPost w true) := by
  have mixed : Tryd.prog.follows .mixedOrders = true := by kernel_rfl
  have HT := Lib.hid (fun W (hb : Below w.heap.size w W) => ht.below hb ht.lt)
  have HB0 := Lib.hid (bel1 w (scG ra rn rc qa qn qc la ln lc))
  have HS0 := Lib.hid (ScB.new w ra rn rc qa qn qc la ln lc)
  have HR := Lib.hid h
  have CH := Lib.hid (heavy15_any ra rs rn rc qa qs qn qc la ls ln lc _ (h.below HB0.out))
  have CW := Lib.hid (fun W (hb : Below w.heap.size w W) => wakes15_any W (HT.out W hb))
  clear ht h
  go_enter Tryd.func5, Tryd.ntmps5
  go_wp2_with fail
  generalize w.alloc (scG ra rn rc qa qn qc la ln lc) = W0 at *
  generalize hg : w.heap.size = g at HS0 ⊢
  clear hg
  refine (CH.out).mono ?_
  rintro e w0 ⟨rfl, hb⟩
  have HB := Lib.hid (HB0.out.trans (hb.mono HB0.out.size))
  have HS := Lib.hid (HS0.out.next hb)
  clear hb CH HS0 HB0
  by_cases hv : 2000 < rn + qn + ln
  · have hvd : decide (2000 < rn + qn + ln) = true := decide_eq_true hv
    go_wp2
    go_ret
    exact ⟨rfl, HB.out⟩
  · have hvd : decide (2000 < rn + qn + ln) = false := decide_eq_false hv
    rw [hvd]
    have hrn : rn ≤ 2000 := by omega
    have hqn : qn ≤ 2000 := by omega
    have hln : ln ≤ 2000 := by omega
    clear hv hvd
    have HBW := Lib.hid HB.out
    have CR := Lib.hid (fun W (hb : Below w.heap.size w W) => copyRegs_any ra rs rn rc W (HR.out.rr.below hb (Nat.le_refl _)) HR.out.rl (by have := HR.out.rm; have := HR.out.rl; omega))
    have HM := Lib.hid (show (rs.length + 2) * 32 ≤ 140737488355328 by have := HR.out.rl; omega)
    have HM1 := Lib.hid (show (rs.length + 1) * 32 ≤ 140737488355328 by have := HR.out.rl; omega)
    have HSZ := Lib.hid hrn
    have HKB : Hid (∀ W, Below w0.heap.size w0 W → Below w.heap.size w W) := fun W hb => HB.out.trans (hb.mono HB.out.size)
    clear hqn
    go_wp2_with fail
    go_loopg [3, 4, 5, 6] 25 (fun gg s3 _ _ _ wr => ∃ i : Nat, s3 = .int .i64 i ∧ i ≤ 25 ∧ 25 - i ≤ gg ∧ Hid (Below w0.heap.size w0 wr))
    case atStart => exact ⟨0, rfl, by omega, by omega, Below.refl _ _⟩
    case round =>
      obtain ⟨i, rfl, hi12, hgk, HI⟩ := hrel
      have HBi := Lib.hid (HKB.out _ HI.out)
      have HSi := Lib.hid (HS.out.next HI.out)
      clear HB
      obtain ⟨s0, s1, s2⟩ := HSi.out
      by_cases hin : i < ln
      · have hinz : decide ((i : Int) < (ln : Int)) = true := decide_eq_true (by omega)
        have hiny : (i : Int) < (ln : Int) := by omega
        by_cases hi : i < 25
        · have hiz : decide ((i : Int) < 25) = true := decide_eq_true (by omega)
          have hiy : (i : Int) < 25 := by omega
          obtain ⟨x, hx⟩ : ∃ x, ls[i]? = some x := ⟨_, List.getElem?_eq_getElem (by rw [← HR.out.ll]; exact hin)⟩
          obtain ⟨b, off, rfl, hat⟩ := (HR.out.lr.below HBi.out (Nat.le_refl _)) i x hx
          obtain ⟨l0, l1, l2, l3⟩ := hat
          have HAX := Lib.hid (actA_new wr x)
          have HBX := Lib.hid (bel1 wr (.cells #[.int .i64 x.p, .int .i64 x.v, .int .i64 x.t, .int .i64 x.r] 31))
          have HE0 : Hid (Below w0.heap.size w0 (wr.alloc (.cells #[.int .i64 x.p, .int .i64 x.v, .int .i64 x.t, .int .i64 x.r] 31))) := HI.out.trans (HBX.out.mono HI.out.size)
          clear hx
          go_wp2_with fail
          clear l0 l1 l2 l3 s0 s1 s2
          generalize wr.alloc (.cells #[.int .i64 x.p, .int .i64 x.v, .int .i64 x.t, .int .i64 x.r] 31) = wa at *
          generalize hgx : wr.heap.size = gx at HAX ⊢
          clear hgx
          have HK : Hid (∀ W, Below wa.heap.size wa W → W.cell? ⟨g, 0, none⟩ = some (.slice ra rn rc) ∧ W.cell? ⟨g, 1, none⟩ = some (.slice qa qn qc) ∧ W.cell? ⟨g, 2, none⟩ = some (.slice (some ⟨b, off, none⟩) ln lc) ∧ W.cell? ⟨gx, 0, none⟩ = some (.int .i64 x.p) ∧ W.cell? ⟨gx, 0 + 1, none⟩ = some (.int .i64 x.v) ∧ W.cell? ⟨gx, 0 + 2, none⟩ = some (.int .i64 x.t) ∧ W.cell? ⟨gx, 0 + 3, none⟩ = some (.int .i64 x.r)) := fun W hb => ⟨(HS.out.next (HE0.out.trans (hb.mono HE0.out.size))).c0, (HS.out.next (HE0.out.trans (hb.mono HE0.out.size))).c1, (HS.out.next (HE0.out.trans (hb.mono HE0.out.size))).c2, (HAX.out.next hb).c0, (HAX.out.next hb).c1, (HAX.out.next hb).c2, (HAX.out.next hb).c3⟩
          have HKA : Hid (∀ W, Below wa.heap.size wa W → Below w.heap.size w W) := fun W hb => HKB.out _ (HE0.out.trans (hb.mono HE0.out.size))
          have hS0 := HK.out _ (Below.refl wa.heap.size wa).drew
          cases hmay : (regsB rs && regB x)
          · have HMAY := Lib.hid hmay
            clear hmay
            go_wp2_with fail
            go_region_held3 (fun W => W.cell? ⟨g, 0, none⟩ = some (.slice ra rn rc) ∧ W.cell? ⟨g, 1, none⟩ = some (.slice qa qn qc) ∧ W.cell? ⟨g, 2, none⟩ = some (.slice (some ⟨b, off, none⟩) ln lc) ∧ W.cell? ⟨gx, 0, none⟩ = some (.int .i64 x.p) ∧ W.cell? ⟨gx, 0 + 1, none⟩ = some (.int .i64 x.v) ∧ W.cell? ⟨gx, 0 + 2, none⟩ = some (.int .i64 x.t) ∧ W.cell? ⟨gx, 0 + 3, none⟩ = some (.int .i64 x.r)) (with_reducible assumption) (first
              | (go_at_call 9
                 (with_reducible refine (CR.out _ (HKA.out _ (Below.refl wa.heap.size wa).drew)).mono ?_)
                 rintro e w1 ⟨v1, rfl, ho1, hb1⟩
                 have HE1 : Hid (Below wa.heap.size wa w1) := (Below.refl wa.heap.size wa).drew.trans hb1
                 obtain ⟨a1, n1, c1, rfl, hn1, hc1, hr1⟩ := ho1.form
                 have HRW := Lib.hid hr1
                 have HRN := Lib.hid hn1
                 have HRC := Lib.hid hc1
                 have hS1 := HK.out w1 HE1.out
                 clear ho1 hb1 hr1 hn1 hc1)
              | (go_at_call 15
                 (refine (set_no a1 rs n1 c1 x _ (HT.out _ (HKA.out _ HE1.out)) HRW.out HRN.out HM1.out HMAY.out).mono ?_)
                 rintro e w3 ⟨rfl, hb3⟩
                 have HE3 : Hid (Below wa.heap.size wa w3) := HE1.out.trans (hb3.mono HE1.out.size)
                 have hS3 := HK.out w3 HE3.out
                 clear hb3))
            have HB := Lib.hid (HKA.out _ HE3.out)
            have HI2 := Lib.hid (HE0.out.trans (HE3.out.mono HE0.out.size))
            have HS3 := Lib.hid (HS.out.next HI2.out)
            have HX := Lib.hid (HAX.out.next HE3.out)
            obtain ⟨s0, s1, s2⟩ := HS3.out
            obtain ⟨x0, x1, x2, x3⟩ := HX.out
            clear hS0 hS1 hS3
            have CM := Lib.hid (maySet_any ra rs rn rc x _ (HR.out.rr.below HB.out (Nat.le_refl _)) HR.out.rl (by have := HSZ.out; omega))
            rw [HMAY.out] at CM
            go_wp2_with fail
            refine (CM.out).mono ?_
            rintro e v1 ⟨rfl, hb⟩
            clear s0 s1 s2 x0 x1 x2 x3
            have HBx := Lib.hid (HB.out.trans (hb.mono HB.out.size))
            have HI2x := Lib.hid (HI2.out.trans (hb.mono HI2.out.size))
            have HS3x := Lib.hid (HS3.out.next hb)
            have HXx := Lib.hid (HX.out.next hb)
            clear HB HI2 HS3 HX
            have HB := HBx
            have HI2 := HI2x
            have HS3 := HS3x
            have HX := HXx
            clear HBx HI2x HS3x HXx
            clear hb
            obtain ⟨s0, s1, s2⟩ := HS3.out
            obtain ⟨x0, x1, x2, x3⟩ := HX.out
            go_wp2_with fail
            refine (num15_any 1 _).mono ?_
            rintro e wn ⟨rfl, rfl⟩
            go_wp2_with fail
            go_roundg (25 - (i + 1))
            case measure => omega
            case rel => exact ⟨i + 1, by go_num, by omega, by omega, HI2.out⟩
          · have HMAY := Lib.hid hmay
            clear hmay
            go_wp2_with fail
            go_region_held3 (fun W => W.cell? ⟨g, 0, none⟩ = some (.slice ra rn rc) ∧ W.cell? ⟨g, 1, none⟩ = some (.slice qa qn qc) ∧ W.cell? ⟨g, 2, none⟩ = some (.slice (some ⟨b, off, none⟩) ln lc) ∧ W.cell? ⟨gx, 0, none⟩ = some (.int .i64 x.p) ∧ W.cell? ⟨gx, 0 + 1, none⟩ = some (.int .i64 x.v) ∧ W.cell? ⟨gx, 0 + 2, none⟩ = some (.int .i64 x.t) ∧ W.cell? ⟨gx, 0 + 3, none⟩ = some (.int .i64 x.r)) (with_reducible assumption) (first
              | (go_at_call 9
                 (with_reducible refine (CR.out _ (HKA.out _ (Below.refl wa.heap.size wa).drew)).mono ?_)
                 rintro e w1 ⟨v1, rfl, ho1, hb1⟩
                 have HE1 : Hid (Below wa.heap.size wa w1) := (Below.refl wa.heap.size wa).drew.trans hb1
                 obtain ⟨a1, n1, c1, rfl, hn1, hc1, hr1⟩ := ho1.form
                 have HRW := Lib.hid hr1
                 have HRN := Lib.hid hn1
                 have HRC := Lib.hid hc1
                 have hS1 := HK.out w1 HE1.out
                 clear ho1 hb1 hr1 hn1 hc1)
              | (go_at_call 15
                 (refine (set_yes a1 rs n1 c1 x _ (HT.out _ (HKA.out _ HE1.out)) HRW.out HRN.out HRC.out HM1.out HMAY.out).mono ?_)
                 rintro e w3 ⟨v3, rfl, ho3, hb3⟩
                 have HE3 : Hid (Below wa.heap.size wa w3) := HE1.out.trans (hb3.mono HE1.out.size)
                 have HO3 := Lib.hid ho3
                 have hS3 := HK.out w3 HE3.out
                 clear ho3 hb3))
            have HB := Lib.hid (HKA.out _ HE3.out)
            have HI2 := Lib.hid (HE0.out.trans (HE3.out.mono HE0.out.size))
            have HS3 := Lib.hid (HS.out.next HI2.out)
            have HX := Lib.hid (HAX.out.next HE3.out)
            obtain ⟨s0, s1, s2⟩ := HS3.out
            obtain ⟨x0, x1, x2, x3⟩ := HX.out
            clear hS0 hS1 hS3
            have CM := Lib.hid (maySet_any ra rs rn rc x _ (HR.out.rr.below HB.out (Nat.le_refl _)) HR.out.rl (by have := HSZ.out; omega))
            rw [HMAY.out] at CM
            go_wp2_with fail
            refine (CM.out).mono ?_
            rintro e v1 ⟨rfl, hb⟩
            clear s0 s1 s2 x0 x1 x2 x3
            have HBx := Lib.hid (HB.out.trans (hb.mono HB.out.size))
            have HI2x := Lib.hid (HI2.out.trans (hb.mono HI2.out.size))
            have HS3x := Lib.hid (HS3.out.next hb)
            have HXx := Lib.hid (HX.out.next hb)
            have HO3x := Lib.hid (HO3.out.below hb)
            clear HB HI2 HS3 HX HO3
            have HB := HBx
            have HI2 := HI2x
            have HS3 := HS3x
            have HX := HXx
            have HO3 := HO3x
            clear HBx HI2x HS3x HXx HO3x
            clear hb
            obtain ⟨s0, s1, s2⟩ := HS3.out
            obtain ⟨x0, x1, x2, x3⟩ := HX.out
            go_wp2_with fail
            refine (num15_any 0 _).mono ?_
            rintro e wn ⟨rfl, rfl⟩
            go_wp2_with fail
            refine (refSet_any ra rs rn rc x _ (HR.out.rr.below HB.out (Nat.le_refl _)) HR.out.rl HM.out).mono ?_
            rintro e v2 ⟨vf, rfl, hof, hb⟩
            clear s0 s1 s2 x0 x1 x2 x3
            have HBx := Lib.hid (HB.out.trans (hb.mono HB.out.size))
            have HI2x := Lib.hid (HI2.out.trans (hb.mono HI2.out.size))
            have HS3x := Lib.hid (HS3.out.next hb)
            have HXx := Lib.hid (HX.out.next hb)
            have HO3x := Lib.hid (HO3.out.below hb)
            clear HB HI2 HS3 HX HO3
            have HB := HBx
            have HI2 := HI2x
            have HS3 := HS3x
            have HX := HXx
            have HO3 := HO3x
            clear HBx HI2x HS3x HXx HO3x
            have HOF := Lib.hid (show OwnG _ _ vf (mergeG rs [x]) by rw [← setG_merge (regs_asc (by have := HMAY.out; rw [Bool.and_eq_true] at this; exact this.1))]; exact hof)
            clear hb hof
            obtain ⟨s0, s1, s2⟩ := HS3.out
            obtain ⟨x0, x1, x2, x3⟩ := HX.out
            obtain ⟨a3, n3, c3, rfl, hn3, hc3, hr3⟩ := HO3.out.form
            obtain ⟨a4, n4, c4, rfl, hn4, hc4, hr4⟩ := HOF.out.form
            have CE := Lib.hid (eqRegs_yes a3 a4 (mergeG rs [x]) n3 n4 c3 c4 _ hr3 hr4 hn3 hn4 (by have h1 := mergeG_len rs [x]; have h2 := HM1.out; rw [List.length_singleton] at h1; generalize (mergeG rs [x]).length = q at *; omega))
            clear hn3 hc3 hr3 hn4 hc4 hr4
            go_wp2_with fail
            refine (CE.out).mono ?_
            rintro e v3 ⟨rfl, hb⟩
            clear s0 s1 s2 x0 x1 x2 x3
            have HBx := Lib.hid (HB.out.trans (hb.mono HB.out.size))
            have HI2x := Lib.hid (HI2.out.trans (hb.mono HI2.out.size))
            have HS3x := Lib.hid (HS3.out.next hb)
            have HXx := Lib.hid (HX.out.next hb)
            clear HB HI2 HS3 HX
            have HB := HBx
            have HI2 := HI2x
            have HS3 := HS3x
            have HX := HXx
            clear HBx HI2x HS3x HXx
            clear hb
            obtain ⟨s0, s1, s2⟩ := HS3.out
            obtain ⟨x0, x1, x2, x3⟩ := HX.out
            go_wp2_with fail
            go_roundg (25 - (i + 1))
            case measure => omega
            case rel => exact ⟨i + 1, by go_num, by omega, by omega, HI2.out⟩
        · have hiz : decide ((i : Int) < 25) = false := decide_eq_false (by omega)
          have hiy : ¬ (i : Int) < 25 := by omega
          have HB := HBi
          go_wp2_with fail
          refine (CW.out _ HB.out).mono ?_
          rintro e wz ⟨rfl, hb⟩
          have HBz := Lib.hid (HB.out.trans (hb.mono HB.out.size))
          clear hb
          go_wp2
          go_ret
          exact ⟨rfl, HBz.out⟩
      · have hinz : decide ((i : Int) < (ln : Int)) = false := decide_eq_false (by omega)
        have hiny : ¬ (i : Int) < (ln : Int) := by omega
        have HB := HBi
        go_wp2_with fail
        refine (CW.out _ HB.out).mono ?_
        rintro e wz ⟨rfl, hb⟩
        have HBz := Lib.hid (HB.out.trans (hb.mono HB.out.size))
        clear hb
        go_wp2
        go_ret
        exact ⟨rfl, HBz.out⟩
end Go.Proofs.YtjpjjckokonkpaaDoor
