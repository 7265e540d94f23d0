/- The walk of CodeTakes. -/
import Derived.Test.YtnckaefdajnkjaaE9
namespace Go.Proofs.Ytnckaefdajnkjaa
open Go.RowKit Go.Lib
set_option linter.unusedVariables false

theorem RowK.ofOwn {kd : IntKind} {e : TypeId} {w : World} {base : Nat} {a : Option Addr} {n c : Nat} {zs : List Int} (h : OwnK kd e w base (.slice a n c) zs) : RowK kd w a zs ∧ n = zs.length ∧ zs.length ≤ c := by
  obtain ⟨a', c', e', hr, hc, _⟩ := h.form
  simp only [Value.slice.injEq] at e'
  obtain ⟨rfl, rfl, rfl⟩ := e'
  exact ⟨hr, rfl, hc⟩
theorem tkL_len (bs : List Int) : ∀ (c p : Nat) (acc : List Int), (tkL bs c p acc).1.length ≤ acc.length + c := by
  intro c
  induction c with
  | zero => intro p acc; simp [tkL]
  | succ c ih =>
    intro p acc
    rw [tkL]
    split
    · simp
    · have := ih (p + (tkN (bs.drop p)).2.1) (acc ++ [(tkN (bs.drop p)).1])
      rw [List.length_append, List.length_singleton] at this
      omega
theorem tkNs_len (bs : List Int) : (tkNs bs).1.length ≤ 1024 := by
  unfold tkNs
  split
  · simp
  · split
    · simp
    · have := tkL_len bs (tkN bs).1.toNat (tkN bs).2.1 []
      simp only [List.length_nil] at this
      omega

set_option maxHeartbeats 4000000 in
set_option maxRecDepth 100000 in
theorem codeTakes_walk (a : Option Addr) (n cap : Nat) (w : World) (h : AsksIs w a n) :
    Calls Try.prog 4 #[.slice a n cap] w (BoolPost w true) := by
  have mixed : Try.prog.follows .mixedOrders = true := by kernel_rfl
  have HA := Lib.hid h
  clear h
  go_enter Try.func4, Try.ntmps4
  go_wp2
  go_loopg [3] 20 (fun g1 v wr => ∃ i : Nat, v = .int .i64 i ∧ i ≤ 20 ∧ 20 - i ≤ g1 ∧ Hid (Below w.heap.size w wr))
  case atStart => exact ⟨0, rfl, by omega, by omega, Below.refl _ _⟩
  case round =>
    obtain ⟨i, rfl, hi20, hg1, HB⟩ := hrel
    by_cases hin : i < n
    · have hinz : decide ((i : Int) < (n : Int)) = true := decide_eq_true (by omega)
      have hiny : (i : Int) < (n : Int) := by omega
      by_cases hi : i < 20
      · have hiz : decide ((i : Int) < 20) = true := decide_eq_true (by omega)
        have hiy : (i : Int) < 20 := by omega
        obtain ⟨b, off, Nn, s, al, ls, cl, ax, xs, cx, rfl, hask, hrl, hrx, hbx, hcx⟩ := HA.out i hin
        obtain ⟨q0, q1, q2, q3⟩ := hask.below HB.out hask.lt
        have HRX : Hid (RowK .u8 wr ax xs) := hrx.below HB.out (Nat.le_refl _)
        have HBX := Lib.hid hbx
        have HV := Lib.hid (heavy_any Nn s al ax ls.length cl xs.length cx wr)
        clear hask hrl hrx hbx
        cases hhv : heavyB s.size ls.length xs.length
        · rw [hhv] at HV
          have hxl : xs.length ≤ 3000 := by simp [heavyB] at hhv; omega
          clear hhv
          go_wp2_with fail
          refine (HV.out).mono ?_
          rintro e w1 ⟨rfl, hb1⟩
          have HB1 : Hid (Below w.heap.size w w1) := HB.out.trans (hb1.mono HB.out.size)
          have HRX1 : Hid (RowK .u8 w1 ax xs) := HRX.out.below hb1 (Nat.le_refl _)
          clear hb1 HV HRX HB q0 q1 q2 q3
          have HCP := Lib.hid (copyB_any ax xs xs.length cx w1 HRX1.out rfl (by omega))
          go_wp2_with fail
          refine (HCP.out).mono ?_
          rintro e w2 ⟨v2, rfl, ho2, hb2⟩
          obtain ⟨a2, c2, rfl, hr2, hc2, _⟩ := ho2.form
          have HR2 := Lib.hid hr2
          have HRX2 : Hid (RowK .u8 w2 ax xs) := HRX1.out.below hb2 (Nat.le_refl _)
          have HB2 : Hid (Below w.heap.size w w2) := HB1.out.trans (hb2.mono HB1.out.size)
          clear ho2 hb2 hr2 HCP HRX1 HB1
          have H1 := Lib.hid (takeNum_any a2 xs c2 w2 HR2.out HBX.out)
          have H2 := Lib.hid (refTakeNum_any ax xs cx w2 HRX2.out HBX.out)
          have H3 := Lib.hid (takeText_any a2 xs c2 w2 HR2.out HBX.out hc2 (by omega))
          have H4 := Lib.hid (refTakeText_any ax xs cx w2 HRX2.out HBX.out hcx (by omega))
          have H5 := Lib.hid (takeNums_any a2 xs c2 w2 HR2.out HBX.out hc2 (by omega))
          have H6 := Lib.hid (fun W (h : RowK .u8 W ax xs) => refTakeNums_any ax xs cx W h HBX.out hcx (by omega))
          have H7 := Lib.hid (fun W (h1 : RowK .u8 W a2 xs) (h2 : RowK .u8 W ax xs) => eqB_yes a2 ax xs xs.length xs.length c2 cx W h1 h2 rfl rfl (by omega))
          unfold TakePost at H1 H2
          unfold TextPost at H3 H4
          unfold ListPost at H5 H6
          have hnl := tkNs_len xs
          obtain ⟨k1, k2, k3⟩ := tkN_k xs HBX.out
          generalize ((tkN xs).2.1 : Int) = t2 at *
          generalize (tkN xs).2.2 = t3 at *
          generalize (tkN xs).1 = t1 at *
          generalize (tkS xs).1 = S at *
          generalize ((tkS xs).2.1 : Int) = s2 at *
          generalize (tkS xs).2.2 = s3 at *
          generalize (tkNs xs).1 = L at *
          generalize ((tkNs xs).2.1 : Int) = l2 at *
          generalize (tkNs xs).2.2 = l3 at *
          generalize xs.length = nx at *
          go_wp2_with fail
          refine (H1.out).mono ?_
          rintro e w' ⟨rfl, rfl⟩
          go_wp2_with fail
          refine (H2.out).mono ?_
          rintro e w' ⟨rfl, rfl⟩
          go_wp2_with fail
          refine (num_any _ _).mono ?_
          rintro e w' ⟨rfl, rfl⟩
          go_wp2_with fail
          refine (H3.out).mono ?_
          rintro e w' ⟨rfl, rfl⟩
          go_wp2_with fail
          refine (H4.out).mono ?_
          rintro e w' ⟨rfl, rfl⟩
          go_wp2_with fail
          refine (num_any _ _).mono ?_
          rintro e w' ⟨rfl, rfl⟩
          go_wp2_with fail
          refine (H5.out).mono ?_
          rintro e w3 ⟨v3, rfl, ho3, hb3⟩
          have HO3 := Lib.hid ho3
          have HR3 : Hid (RowK .u8 w3 a2 xs) := HR2.out.below hb3 (Nat.le_refl _)
          have HRX3 : Hid (RowK .u8 w3 ax xs) := HRX2.out.below hb3 (Nat.le_refl _)
          have HB3 : Hid (Below w2.heap.size w2 w3) := hb3
          clear ho3 hb3 H5 HR2 HRX2 H1 H2 H3 H4
          have H6' := Lib.hid (H6.out w3 HRX3.out)
          go_wp2_with fail
          refine (H6'.out).mono ?_
          rintro e w4 ⟨v4, rfl, ho4, hb4⟩
          have HO34 : Hid (OwnK .i64 3 w4 w2.heap.size v3 L) := HO3.out.below hb4
          obtain ⟨a3, c3, rfl, hr3, hc3, _⟩ := HO34.out.form
          obtain ⟨a4, c4, rfl, hr4, hc4, _⟩ := ho4.form
          have HR34 := Lib.hid hr3
          have HR44 := Lib.hid hr4
          have HR4 : Hid (RowK .u8 w4 a2 xs) := HR3.out.below hb4 (Nat.le_refl _)
          have HRX4 : Hid (RowK .u8 w4 ax xs) := HRX3.out.below hb4 (Nat.le_refl _)
          have HB4 : Hid (Below w2.heap.size w2 w4) := HB3.out.trans (hb4.mono HB3.out.size)
          clear ho4 hb4 H6 H6' HR3 HRX3 HB3 HO3 hr3 hr4
          have HE1 := Lib.hid (eqI_yes a3 a4 L L.length L.length c3 c4 w4 HR34.out HR44.out rfl rfl (by omega))
          go_wp2_with fail
          refine (HE1.out).mono ?_
          rintro e w5 ⟨rfl, m5, rfl⟩
          have HE2 := Lib.hid (H7.out (w4.drewN m5) HR4.out HRX4.out)
          go_wp2_with fail
          refine (num_any _ _).mono ?_
          rintro e w' ⟨rfl, rfl⟩
          go_wp2_with fail
          refine (HE2.out).mono ?_
          rintro e w6 ⟨rfl, m6, rfl⟩
          have HSP := Lib.hid (spoil_any _ w2.heap.size L (w4.drewN (m5 + m6)) HO34.out HB4.out.size (by omega))
          go_wp2_with fail
          refine (HSP.out).mono ?_
          rintro e w7 ⟨rfl, hb7⟩
          have HZ : Hid (Below w.heap.size w w7) := HB2.out.trans (((below_drewN HB4.out (m5 + m6)).trans hb7).mono HB2.out.size)
          clear hb7 HSP HE1 HE2 HO34 HB4
          go_wp2
          go_roundg (20 - (i + 1))
          case measure => omega
          case rel => exact ⟨i + 1, by go_num, by omega, by omega, HZ⟩
        · rw [hhv] at HV
          clear hhv
          go_wp2_with fail
          refine (HV.out).mono ?_
          rintro e w1 ⟨rfl, hb1⟩
          have HZ : Hid (Below w.heap.size w w1) := HB.out.trans (hb1.mono HB.out.size)
          clear hb1 HV
          go_wp2
          go_ret
          exact ⟨rfl, HZ.out⟩
      · have hiz : decide ((i : Int) < 20) = false := decide_eq_false (by omega)
        have hiy : ¬ (i : Int) < 20 := by omega
        have HW := Lib.hid (wakes_any wr)
        go_wp2_with fail
        refine (HW.out).mono ?_
        rintro e w1 ⟨rfl, hb1⟩
        have HZ : Hid (Below w.heap.size w w1) := HB.out.trans (hb1.mono HB.out.size)
        clear hb1 HW
        go_wp2
        go_ret
        exact ⟨rfl, HZ.out⟩
    · have hinz : decide ((i : Int) < (n : Int)) = false := decide_eq_false (by omega)
      have hiny : ¬ (i : Int) < (n : Int) := by omega
      have HW := Lib.hid (wakes_any wr)
      go_wp2_with fail
      refine (HW.out).mono ?_
      rintro e w1 ⟨rfl, hb1⟩
      have HZ : Hid (Below w.heap.size w w1) := HB.out.trans (hb1.mono HB.out.size)
      clear hb1 HW
      go_wp2
      go_ret
      exact ⟨rfl, HZ.out⟩
end Go.Proofs.Ytnckaefdajnkjaa
