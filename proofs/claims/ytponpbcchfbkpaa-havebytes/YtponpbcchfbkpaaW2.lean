/- The walk of HaveBytes. -/
import Derived.Test.YtponpbcchfbkpaaH9
import Derived.Deep.RegionWith
namespace Go.Proofs.Ytponpbcchfbkpaa
open Go.RowKit Go.Lib
set_option linter.unusedVariables false

set_option maxHeartbeats 8000000 in
set_option maxRecDepth 100000 in
theorem haveBytes_walk (a : Option Addr) (n cap : Nat) (w : World) (h : AsksIs w a n) :
    Calls Try.prog 4 #[.slice a n cap] w (BoolPost w true) := by
  have mixed : Try.prog.follows .mixedOrders = true := by kernel_rfl
  have HA := Lib.hid h
  clear h
  go_enter Try.func4, Try.ntmps4
  go_wp2
  go_loopg [3] 15 (fun g1 v wr => ∃ i : Nat, v = .int .i64 i ∧ i ≤ 15 ∧ 15 - i ≤ g1 ∧ Hid (Below w.heap.size w wr))
  case atStart => exact ⟨0, rfl, by omega, by omega, Below.refl _ _⟩
  case round =>
    obtain ⟨i, rfl, hi15, hg1, HB⟩ := hrel
    by_cases hin : i < n
    · have hinz : decide ((i : Int) < (n : Int)) = true := decide_eq_true (by omega)
      have hiny : (i : Int) < (n : Int) := by omega
      by_cases hi : i < 15
      · have hiz : decide ((i : Int) < 15) = true := decide_eq_true (by omega)
        have hiy : (i : Int) < 15 := by omega
        obtain ⟨b, off, al, ls, cl, am, ms, cm, ax, xs, cx, rfl, hask, hrows, hsize⟩ := HA.out i hin
        have hask2 := hask.below HB.out hask.lt
        have HR0 := Lib.hid (hrows.below HB.out)
        obtain ⟨nl, hnl⟩ : ∃ k, k = ls.length := ⟨_, rfl⟩
        obtain ⟨nm, hnm⟩ : ∃ k, k = ms.length := ⟨_, rfl⟩
        obtain ⟨nx, hnx⟩ : ∃ k, k = xs.length := ⟨_, rfl⟩
        rw [← hnl, ← hnm, ← hnx] at hask2
        obtain ⟨q0, q1, q2⟩ := hask2
        have HV := Lib.hid (heavy_any al am ax nl cl nm cm nx cx (wr.alloc (.cells #[.slice al nl cl, .slice am nm cm, .slice ax nx cx] 26)) (by have := hsize.ll; omega) (by have := hsize.ml; omega))
        have HSZ := Lib.hid hsize
        have HNL := Lib.hid hnl
        have HNM := Lib.hid hnm
        have HNX := Lib.hid hnx
        clear hask hrows hsize hnl hnm hnx
        have HNUM := Lib.hid (fun W => num_any 0 W)
        cases hhv : heavy7 nl nm nx
        · rw [hhv] at HV
          have hlm : nl + nm ≤ 2000 := by simp [heavy7] at hhv; omega
          have hnx3 : nx ≤ 3000 := by simp [heavy7] at hhv; omega
          clear hhv
          go_wp2_with fail
          refine (HV.out).mono ?_
          rintro e w1 ⟨rfl, hb⟩
          have HP : Hid (PS w w1 wr.heap.size al nl cl ls am nm cm ms ax nx cx xs) := PS.new HB.out HR0.out hb
          clear hb HV HR0 HB q0 q1 q2
          generalize wr.heap.size = gp at *
          obtain ⟨p0, p1, p2⟩ := HP.out.ask
          obtain ⟨⟨x1, x2, x3⟩, hR⟩ : ∃ R, tkV xs = R := ⟨_, rfl⟩
          have HTK := Lib.hid hR
          clear hR
          have hx33 : (x3 != x3) = false := by simp
          have hx22 : ((x2 : Int) != (x2 : Int)) = false := by simp
          have HN3 := Lib.hid (fun W => num_any x3 W)
          have HX1 : Hid (x1.length ≤ 1024) := by have h := tkV_len xs; rw [HTK.out] at h; exact h
          cases hv : vecB ls
          · have HVB := Lib.hid hv
            clear hv
            have C := Lib.hid (bytes_no al ls nl cl w1 HP.out.rows.rl HNL.out (by have := HNL.out; omega) HVB.out)
            go_wp2_with fail
            refine (C.out).mono ?_
            rintro e w' ⟨rfl, rfl⟩
            clear C
            go_wp2_with fail
            go_quiet (first | (go_at_call 14; exact quiet_left (num_any 1 _)) | (go_at_call 13; exact quiet_vec HP.out.rows.rl HNL.out (by have := HNL.out; omega) HVB.out _))
            clear p0 p1 p2
            replace HP := Lib.hid (HP.out.drewN nq)
            generalize w1.drewN nq = w3 at *
            obtain ⟨p0, p1, p2⟩ := HP.out.ask
            have C := Lib.hid (take_is ax xs nx cx w3 HNX.out HP.out.rows.rx HSZ.out.isB HSZ.out.xc (by have := HNX.out; omega) HTK.out)
            go_wp2_with fail
            refine (C.out).mono ?_
            rintro e w4 ⟨v, rfl, ho, hb⟩
            obtain ⟨a7, c7, rfl, hr, _⟩ := ho.at (n := x1.length) rfl
            have HR7 := Lib.hid hr
            clear C ho hr
            clear p0 p1 p2
            replace HP : Hid (PS w w4 gp al nl cl ls am nm cm ms ax nx cx xs) := HP.out.below hb
            clear hb
            obtain ⟨p0, p1, p2⟩ := HP.out.ask
            have C := Lib.hid (refTake_is ax xs nx cx w4 HNX.out HP.out.rows.rx HSZ.out.isB HSZ.out.xc (by have := HNX.out; omega) HTK.out)
            go_wp2_with fail
            refine (C.out).mono ?_
            rintro e w5 ⟨v, rfl, ho, hb⟩
            obtain ⟨a10, c10, rfl, hr, _⟩ := ho.at (n := x1.length) rfl
            have HR10 := Lib.hid hr
            clear C ho hr
            clear p0 p1 p2
            replace HP : Hid (PS w w5 gp al nl cl ls am nm cm ms ax nx cx xs) := HP.out.below hb
            replace HR7 : Hid (RowK .i64 w5 a7 x1) := HR7.out.below hb (Nat.le_refl _)
            clear hb
            obtain ⟨p0, p1, p2⟩ := HP.out.ask
            go_wp2_with fail
            refine (HN3.out _).mono ?_
            rintro e w' ⟨rfl, rfl⟩
            have C := Lib.hid (eqI_yes a7 a10 x1 x1.length x1.length c7 c10 w5 HR7.out HR10.out rfl rfl (by have := HX1.out; omega))
            go_wp2_with fail
            refine (C.out).mono ?_
            rintro e w6 ⟨rfl, m6, rfl⟩
            clear C HR7 HR10
            clear p0 p1 p2
            replace HP := Lib.hid (HP.out.drewN m6)
            generalize w5.drewN m6 = w6 at *
            obtain ⟨p0, p1, p2⟩ := HP.out.ask
            go_wp2_with fail
            refine (num_any 1 _).mono ?_
            rintro e w' ⟨rfl, rfl⟩
            go_wp2_with fail
            go_roundg (15 - (i + 1))
            case measure => omega
            case rel => exact ⟨i + 1, by go_num, by omega, by omega, HP.out.bel⟩
          · have HVB := Lib.hid hv
            clear hv
            have HLE := Lib.hid (encV_len HVB.out)
            have ht2 := tkV_enc HVB.out xs
            have C := Lib.hid (bytes_yes al ls nl cl w1 HP.out.rows.rl HNL.out HVB.out)
            go_wp2_with fail
            refine (C.out).mono ?_
            rintro e w2 ⟨v5, rfl, ho, hb⟩
            obtain ⟨a5, n5, c5, rfl, hn5, hr5, hc5⟩ := ho.form'
            have HR5 := Lib.hid hr5
            rw [← hn5] at ht2
            have HT2 := Lib.hid ht2
            have HN5 := Lib.hid hn5
            have hn5le : n5 ≤ 153 := by have := HLE.out; omega
            clear ho hr5 hc5 hn5 ht2 C
            clear p0 p1 p2
            replace HP : Hid (PS w w2 gp al nl cl ls am nm cm ms ax nx cx xs) := HP.out.below hb
            clear hb
            obtain ⟨p0, p1, p2⟩ := HP.out.ask
            go_wp2_with fail
            go_quiet (first | (go_at_call 14; exact quiet_left (num_any 0 _)) | (go_at_call 13; exact quiet_vec HP.out.rows.rl HNL.out (by have := HNL.out; omega) HVB.out _))
            clear p0 p1 p2
            replace HP := Lib.hid (HP.out.drewN nq)
            replace HR5 := Lib.hid (HR5.out.drewN nq)
            generalize w2.drewN nq = w3 at *
            obtain ⟨p0, p1, p2⟩ := HP.out.ask
            have C := Lib.hid (take_is ax xs nx cx w3 HNX.out HP.out.rows.rx HSZ.out.isB HSZ.out.xc (by have := HNX.out; omega) HTK.out)
            go_wp2_with fail
            refine (C.out).mono ?_
            rintro e w4 ⟨v, rfl, ho, hb⟩
            obtain ⟨a7, c7, rfl, hr, _⟩ := ho.at (n := x1.length) rfl
            have HR7 := Lib.hid hr
            clear C ho hr
            clear p0 p1 p2
            replace HP : Hid (PS w w4 gp al nl cl ls am nm cm ms ax nx cx xs) := HP.out.below hb
            replace HR5 : Hid (RowK .u8 w4 a5 (encL ls)) := HR5.out.below hb (Nat.le_refl _)
            clear hb
            obtain ⟨p0, p1, p2⟩ := HP.out.ask
            have C := Lib.hid (refTake_is ax xs nx cx w4 HNX.out HP.out.rows.rx HSZ.out.isB HSZ.out.xc (by have := HNX.out; omega) HTK.out)
            go_wp2_with fail
            refine (C.out).mono ?_
            rintro e w5 ⟨v, rfl, ho, hb⟩
            obtain ⟨a10, c10, rfl, hr, _⟩ := ho.at (n := x1.length) rfl
            have HR10 := Lib.hid hr
            clear C ho hr
            clear p0 p1 p2
            replace HP : Hid (PS w w5 gp al nl cl ls am nm cm ms ax nx cx xs) := HP.out.below hb
            replace HR5 : Hid (RowK .u8 w5 a5 (encL ls)) := HR5.out.below hb (Nat.le_refl _)
            replace HR7 : Hid (RowK .i64 w5 a7 x1) := HR7.out.below hb (Nat.le_refl _)
            clear hb
            obtain ⟨p0, p1, p2⟩ := HP.out.ask
            go_wp2_with fail
            refine (HN3.out _).mono ?_
            rintro e w' ⟨rfl, rfl⟩
            have C := Lib.hid (eqI_yes a7 a10 x1 x1.length x1.length c7 c10 w5 HR7.out HR10.out rfl rfl (by have := HX1.out; omega))
            go_wp2_with fail
            refine (C.out).mono ?_
            rintro e w6 ⟨rfl, m6, rfl⟩
            clear C HR7 HR10
            clear p0 p1 p2
            replace HP := Lib.hid (HP.out.drewN m6)
            replace HR5 := Lib.hid (HR5.out.drewN m6)
            generalize w5.drewN m6 = w6 at *
            obtain ⟨p0, p1, p2⟩ := HP.out.ask
            go_wp2_with fail
            refine (num_any 0 _).mono ?_
            rintro e w' ⟨rfl, rfl⟩
            have q2 : w6.drew.cell? ⟨gp, 2, none⟩ = some (.slice ax nx cx) := HP.out.ask.c2
            go_upto_region 15 with fail
            go_region_held3 (fun w' => w'.cell? ⟨gp, 2, none⟩ = some (.slice ax nx cx)) (first | assumption) (first
              | (go_at_call 24
                 refine (copyB_any a5 (encL ls) n5 c5 _ (by exact HR5.out) HN5.out (by have := HLE.out; omega)).mono ?_
                 rintro e w8 ⟨v8, rfl, ho8, hb8⟩
                 have HO8 := Lib.hid ho8
                 have HB8 := Lib.hid hb8
                 have HPd := Lib.hid (PS.below (W := w6.drew) HP.out.drew hb8)
                 have r8 : w8.cell? ⟨gp, 2, none⟩ = some (.slice ax nx cx) := HPd.out.ask.c2
                 clear ho8 hb8)
              | (refine stepB_row (by rfl) _ _ (by rfl) w6.drew.heap.size w8 v8 (encL ls) xs ax nx cx HNX.out (by rfl) HO8.out (by rfl) HPd.out.rows.rx (by have h1 := HLE.out; have h2 := HNX.out; omega) HB8.out.size ?_
                 intro v9 w9 hp9
                 obtain ⟨ho9, hb9⟩ := glued HO8.out HB8.out hp9
                 obtain ⟨a9, n9, c9, rfl, hn9, hr9, hc9⟩ := ho9.form'
                 have HPe := Lib.hid (PS.below (W := w6.drew) HP.out.drew hb9)
                 have r9 : w9.cell? ⟨gp, 2, none⟩ = some (.slice ax nx cx) := HPe.out.ask.c2
                 have HN9 := Lib.hid hn9
                 have HR9 := Lib.hid hr9
                 have HC9 := Lib.hid hc9
                 clear ho9 hb9 hn9 hr9 hc9 hp9)
              | (go_at_call 22
                 refine (take_is a9 (encL ls ++ xs) n9 c9 _ HN9.out HR9.out ((encL_isB ls).app HSZ.out.isB) HC9.out (by rw [List.length_append]; have h1 := HLE.out; have h2 := HNX.out; omega) HT2.out).mono ?_
                 rintro e w10 ⟨v10, rfl, ho10, hb10⟩
                 obtain ⟨a11, c11, rfl, hr11, _⟩ := ho10.at (n := nl) HNL.out.symm
                 have HR11 := Lib.hid hr11
                 have HPf := Lib.hid (HPe.out.below hb10)
                 have r10 : w10.cell? ⟨gp, 2, none⟩ = some (.slice ax nx cx) := HPf.out.ask.c2
                 clear hb10 ho10 hr11))
            clear r8 r9 r10 q2 p0 p1 p2 HPd HPe HP HR9 HO8 HB8 HR5
            have HP := HPf
            clear HPf
            obtain ⟨p0, p1, p2⟩ := HP.out.ask
            have hn55 : ((n5 : Int) != (n5 : Int)) = false := by simp
            go_wp2_with fail
            refine (HNUM.out _).mono ?_
            rintro e w' ⟨rfl, rfl⟩
            have C := Lib.hid (eqI_yes a11 al ls nl nl c11 cl w10 HR11.out HP.out.rows.rl HNL.out HNL.out (by have := HNL.out; omega))
            go_wp2_with fail
            refine (C.out).mono ?_
            rintro e w11 ⟨rfl, m11, rfl⟩
            clear C HR11
            replace HP := Lib.hid (HP.out.drewN m11)
            go_wp2_with fail
            go_roundg (15 - (i + 1))
            case measure => omega
            case rel => exact ⟨i + 1, by go_num, by omega, by omega, HP.out.bel⟩
        · rw [hhv] at HV
          clear hhv
          go_wp2_with fail
          refine (HV.out).mono ?_
          rintro e w1 ⟨rfl, hb⟩
          have HP : Hid (PS w w1 wr.heap.size al nl cl ls am nm cm ms ax nx cx xs) := PS.new HB.out HR0.out hb
          clear hb HV HR0 HB q0 q1 q2
          generalize wr.heap.size = gp at *
          obtain ⟨p0, p1, p2⟩ := HP.out.ask
          go_wp2
          go_ret
          exact ⟨rfl, HP.out.bel⟩
      · have hiz : decide ((i : Int) < 15) = false := decide_eq_false (by omega)
        have hiy : ¬ (i : Int) < 15 := by omega
        have HW := Lib.hid (wakes_any wr)
        go_wp2_with fail
        refine (HW.out).mono ?_
        rintro e w1 ⟨rfl, hb1⟩
        have HZ : Hid (Below w.heap.size w w1) := HB.out.trans (hb1.mono HB.out.size)
        clear hb1 HW
        go_wp2
        go_ret
        exact ⟨rfl, HZ.out⟩
    · have hinz : decide ((i : Int) < (n : Int)) = false := decide_eq_false (by omega)
      have hiny : ¬ (i : Int) < (n : Int) := by omega
      have HW := Lib.hid (wakes_any wr)
      go_wp2_with fail
      refine (HW.out).mono ?_
      rintro e w1 ⟨rfl, hb1⟩
      have HZ : Hid (Below w.heap.size w w1) := HB.out.trans (hb1.mono HB.out.size)
      clear hb1 HW
      go_wp2
      go_ret
      exact ⟨rfl, HZ.out⟩
end Go.Proofs.Ytponpbcchfbkpaa
