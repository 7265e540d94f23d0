/- The walk of HaveLaws. -/
import Derived.Test.YtponpbcchfbkpaaH9
import Derived.Deep.RegionWith
namespace Go.Proofs.Ytponpbcchfbkpaa
open Go.RowKit Go.Lib
set_option linter.unusedVariables false

theorem join_lack {l m : List Int} (h : l.length = m.length) {k : Nat} (hk : k < l.length) : (joinL l m).getD k 0 = l.getD k 0 + (lackL l m).getD k 0 := by
  rw [joinL_at h hk, lackL_at h hk]
  omega
theorem join_covers {l m : List Int} (h : pairB l m = true) : coversB (joinL l m) l = true ∧ coversB (joinL l m) m = true := by
  obtain ⟨h1, h2, h3⟩ := (pairB_iff l m).1 h
  constructor
  · rw [coversB_iff (pairB_join h).1]
    intro i hi
    rw [joinL_len h3] at hi
    rw [joinL_at h3 hi]
    omega
  · rw [coversB_iff (pairB_join h).2]
    intro i hi
    rw [joinL_len h3] at hi
    rw [joinL_at h3 hi]
    omega
/-- the join with one less at one place -/
def lessL (l m : List Int) (k : Nat) : List Int := (joinL l m).set k ((joinL l m).getD k 0 - 1)
theorem lessL_len {l m : List Int} (h : l.length = m.length) (k : Nat) : (lessL l m k).length = l.length := by unfold lessL; rw [List.length_set, joinL_len h]
theorem lessL_at {l m : List Int} (h : l.length = m.length) {k j : Nat} (hj : j < l.length) : (lessL l m k).getD j 0 = if k = j then (joinL l m).getD k 0 - 1 else (joinL l m).getD j 0 := by
  unfold lessL
  have hl : j < (joinL l m).length := by rw [joinL_len h]; exact hj
  simp only [List.getD_eq_getElem?_getD, List.getElem?_set]
  by_cases e : k = j
  · subst e; simp [hl]
  · simp [e]
theorem lessL_vec {l m : List Int} (h : pairB l m = true) {k : Nat} (hk : k < l.length) (h0 : (joinL l m).getD k 0 ≠ 0) : vecB (lessL l m k) = true := by
  obtain ⟨h1, h2, h3⟩ := (pairB_iff l m).1 h
  rw [vecB_iff, lessL_len h3]
  refine ⟨fun i hi => ?_, vecB_len h1⟩
  rw [lessL_at h3 hi]
  have g := vecB_at (joinL_vec h) (k := i) (by rw [joinL_len h3]; exact hi)
  have g2 := vecB_at (joinL_vec h) (k := k) (by rw [joinL_len h3]; exact hk)
  split <;> omega
theorem lessL_pair {l m : List Int} (h : pairB l m = true) {k : Nat} (hk : k < l.length) (h0 : (joinL l m).getD k 0 ≠ 0) : pairB (lessL l m k) l = true ∧ pairB (lessL l m k) m = true := by
  obtain ⟨h1, h2, h3⟩ := (pairB_iff l m).1 h
  exact ⟨(pairB_iff _ _).2 ⟨lessL_vec h hk h0, h1, lessL_len h3 k⟩, (pairB_iff _ _).2 ⟨lessL_vec h hk h0, h2, by rw [lessL_len h3, h3]⟩⟩
theorem lessL_not {l m : List Int} (h : pairB l m = true) {k : Nat} (hk : k < l.length) (h0 : (joinL l m).getD k 0 ≠ 0) : coversB (lessL l m k) l = false ∨ coversB (lessL l m k) m = false := by
  obtain ⟨h1, h2, h3⟩ := (pairB_iff l m).1 h
  have e := lessL_at h3 (k := k) hk
  rw [if_pos rfl, joinL_at h3 hk] at e
  by_cases c : m.getD k 0 ≤ l.getD k 0
  · left
    rw [← Bool.not_eq_true, coversB_iff (lessL_pair h hk h0).1]
    intro g
    have := g k (by rw [lessL_len h3]; exact hk)
    omega
  · right
    rw [← Bool.not_eq_true, coversB_iff (lessL_pair h hk h0).2]
    intro g
    have := g k (by rw [lessL_len h3]; exact hk)
    omega

set_option maxHeartbeats 8000000 in
set_option maxRecDepth 100000 in
theorem haveLaws_walk (a : Option Addr) (n cap : Nat) (w : World) (h : AsksIs w a n) :
    Calls Try.prog 5 #[.slice a n cap] w (BoolPost w true) := by
  have mixed : Try.prog.follows .mixedOrders = true := by kernel_rfl
  have HA := Lib.hid h
  clear h
  go_enter Try.func5, Try.ntmps5
  go_wp2
  go_loopg [3] 15 (fun g1 v wr => ∃ i : Nat, v = .int .i64 i ∧ i ≤ 15 ∧ 15 - i ≤ g1 ∧ Hid (Below w.heap.size w wr))
  case atStart => exact ⟨0, rfl, by omega, by omega, Below.refl _ _⟩
  case round =>
    obtain ⟨i, rfl, hi15, hg1, HB⟩ := hrel
    by_cases hin : i < n
    · have hinz : decide ((i : Int) < (n : Int)) = true := decide_eq_true (by omega)
      have hiny : (i : Int) < (n : Int) := by omega
      by_cases hi : i < 15
      · have hiz : decide ((i : Int) < 15) = true := decide_eq_true (by omega)
        have hiy : (i : Int) < 15 := by omega
        obtain ⟨b, off, al, ls, cl, am, ms, cm, ax, xs, cx, rfl, hask, hrows, hsize⟩ := HA.out i hin
        have hask2 := hask.below HB.out hask.lt
        have HR0 := Lib.hid (hrows.below HB.out)
        obtain ⟨nl, hnl⟩ : ∃ k, k = ls.length := ⟨_, rfl⟩
        obtain ⟨nm, hnm⟩ : ∃ k, k = ms.length := ⟨_, rfl⟩
        obtain ⟨nx, hnx⟩ : ∃ k, k = xs.length := ⟨_, rfl⟩
        rw [← hnl, ← hnm, ← hnx] at hask2
        obtain ⟨q0, q1, q2⟩ := hask2
        have HV := Lib.hid (heavy_any al am ax nl cl nm cm nx cx (wr.alloc (.cells #[.slice al nl cl, .slice am nm cm, .slice ax nx cx] 26)) (by have := hsize.ll; omega) (by have := hsize.ml; omega))
        have HSZ := Lib.hid hsize
        have HNL := Lib.hid hnl
        have HNM := Lib.hid hnm
        have HNX := Lib.hid hnx
        clear hask hrows hsize hnl hnm hnx
        have HNUM := Lib.hid (fun W => num_any 0 W)
        cases hhv : heavy7 nl nm nx
        · rw [hhv] at HV
          have hlm : nl + nm ≤ 2000 := by simp [heavy7] at hhv; omega
          have hnx3 : nx ≤ 3000 := by simp [heavy7] at hhv; omega
          clear hhv
          go_wp2_with fail
          refine (HV.out).mono ?_
          rintro e w1 ⟨rfl, hb⟩
          have HP : Hid (PS w w1 wr.heap.size al nl cl ls am nm cm ms ax nx cx xs) := PS.new HB.out HR0.out hb
          clear hb HV HR0 HB q0 q1 q2
          generalize wr.heap.size = gp at *
          obtain ⟨p0, p1, p2⟩ := HP.out.ask
          have CP := Lib.hid (refPair_any al am ls ms nl cl nm cm w1 HP.out.rows.rl HP.out.rows.rm HNL.out HNM.out (by have := HNL.out; omega) (by have := HNM.out; omega))
          cases hp : pairB ls ms
          · rw [hp] at CP
            clear hp
            go_wp2_with fail
            refine (CP.out).mono ?_
            rintro e w' ⟨rfl, rfl⟩
            go_wp2
            go_roundg (15 - (i + 1))
            case measure => omega
            case rel => exact ⟨i + 1, by go_num, by omega, by omega, HP.out.bel⟩
          · rw [hp] at CP
            have HPB := Lib.hid hp
            obtain ⟨hpl, hp1, hp16⟩ := pairB_len hp
            have hnmn : nm = nl := by have := HNL.out; have := HNM.out; omega
            subst hnmn
            have hn16 : nm ≤ 16 := by have := HNM.out; omega
            have hn1 : 1 ≤ nm := by have := HNM.out; omega
            have HPL := Lib.hid hpl
            clear hp hpl hp1 hp16
            go_wp2_with fail
            refine (CP.out).mono ?_
            rintro e w' ⟨rfl, rfl⟩
            clear CP
            have C := Lib.hid (join_yes al am ls ms nm cl nm cm w1 HP.out.rows.rl HP.out.rows.rm HNL.out HNM.out HPB.out)
            go_wp2_with fail
            refine (C.out).mono ?_
            rintro e w2 ⟨v, rfl, ho, hb⟩
            obtain ⟨a5, c5, rfl, hr, hcc5⟩ := ho.at (n := nm) (by rw [joinL_len HPL.out]; exact HNL.out.symm)
            have HR5 := Lib.hid hr
            clear C ho hr
            clear p0 p1 p2
            replace HP : Hid (PS w w2 gp al nm cl ls am nm cm ms ax nx cx xs) := HP.out.below hb
            clear hb
            obtain ⟨p0, p1, p2⟩ := HP.out.ask
            have C := Lib.hid (join_yes am al ms ls nm cm nm cl w2 HP.out.rows.rm HP.out.rows.rl HNM.out HNL.out (pairB_comm HPB.out))
            rw [← joinL_comm HPL.out] at C
            go_wp2_with fail
            refine (C.out).mono ?_
            rintro e w3 ⟨v, rfl, ho, hb⟩
            obtain ⟨a7, c7, rfl, hr, hcc7⟩ := ho.at (n := nm) (by rw [joinL_len HPL.out]; exact HNL.out.symm)
            have HR7 := Lib.hid hr
            clear C ho hr
            clear p0 p1 p2
            replace HP : Hid (PS w w3 gp al nm cl ls am nm cm ms ax nx cx xs) := HP.out.below hb
            replace HR5 : Hid (RowK .i64 w3 a5 (joinL ls ms)) := HR5.out.below hb (Nat.le_refl _)
            clear hb
            obtain ⟨p0, p1, p2⟩ := HP.out.ask
            have C := Lib.hid (join_yes al al ls ls nm cl nm cl w3 HP.out.rows.rl HP.out.rows.rl HNL.out HNL.out (pairB_self ((pairB_iff ls ms).1 HPB.out).1))
            rw [joinL_self ls] at C
            go_wp2_with fail
            refine (C.out).mono ?_
            rintro e w4 ⟨v, rfl, ho, hb⟩
            obtain ⟨a9, c9, rfl, hr, hcc9⟩ := ho.at (n := nm) (HNL.out.symm)
            have HR9 := Lib.hid hr
            clear C ho hr
            clear p0 p1 p2
            replace HP : Hid (PS w w4 gp al nm cl ls am nm cm ms ax nx cx xs) := HP.out.below hb
            replace HR5 : Hid (RowK .i64 w4 a5 (joinL ls ms)) := HR5.out.below hb (Nat.le_refl _)
            replace HR7 : Hid (RowK .i64 w4 a7 (joinL ls ms)) := HR7.out.below hb (Nat.le_refl _)
            clear hb
            obtain ⟨p0, p1, p2⟩ := HP.out.ask
            have C := Lib.hid (covers_yes a5 al (joinL ls ms) ls nm c5 nm cl w4 HR5.out HP.out.rows.rl (by rw [joinL_len HPL.out]; exact HNL.out) HNL.out (pairB_join HPB.out).1)
            rw [(join_covers HPB.out).1] at C
            go_wp2_with fail
            refine (C.out).mono ?_
            rintro e w5 ⟨rfl, hb⟩
            clear C
            clear p0 p1 p2
            replace HP : Hid (PS w w5 gp al nm cl ls am nm cm ms ax nx cx xs) := HP.out.below hb
            replace HR5 : Hid (RowK .i64 w5 a5 (joinL ls ms)) := HR5.out.below hb (Nat.le_refl _)
            replace HR7 : Hid (RowK .i64 w5 a7 (joinL ls ms)) := HR7.out.below hb (Nat.le_refl _)
            replace HR9 : Hid (RowK .i64 w5 a9 ls) := HR9.out.below hb (Nat.le_refl _)
            clear hb
            obtain ⟨p0, p1, p2⟩ := HP.out.ask
            have C := Lib.hid (covers_yes a5 am (joinL ls ms) ms nm c5 nm cm w5 HR5.out HP.out.rows.rm (by rw [joinL_len HPL.out]; exact HNL.out) HNM.out (pairB_join HPB.out).2)
            rw [(join_covers HPB.out).2] at C
            go_wp2_with fail
            refine (C.out).mono ?_
            rintro e w6 ⟨rfl, hb⟩
            clear C
            clear p0 p1 p2
            replace HP : Hid (PS w w6 gp al nm cl ls am nm cm ms ax nx cx xs) := HP.out.below hb
            replace HR5 : Hid (RowK .i64 w6 a5 (joinL ls ms)) := HR5.out.below hb (Nat.le_refl _)
            replace HR7 : Hid (RowK .i64 w6 a7 (joinL ls ms)) := HR7.out.below hb (Nat.le_refl _)
            replace HR9 : Hid (RowK .i64 w6 a9 ls) := HR9.out.below hb (Nat.le_refl _)
            clear hb
            obtain ⟨p0, p1, p2⟩ := HP.out.ask
            have C := Lib.hid (lacks_yes al am ls ms nm cl nm cm w6 HP.out.rows.rl HP.out.rows.rm HNL.out HNM.out HPB.out)
            go_wp2_with fail
            refine (C.out).mono ?_
            rintro e w7 ⟨v, rfl, ho, hb⟩
            obtain ⟨a15, c15, rfl, hr, hcc15⟩ := ho.at (n := nm) (by rw [lackL_len HPL.out]; exact HNL.out.symm)
            have HR15 := Lib.hid hr
            clear C ho hr
            clear p0 p1 p2
            replace HP : Hid (PS w w7 gp al nm cl ls am nm cm ms ax nx cx xs) := HP.out.below hb
            replace HR5 : Hid (RowK .i64 w7 a5 (joinL ls ms)) := HR5.out.below hb (Nat.le_refl _)
            replace HR7 : Hid (RowK .i64 w7 a7 (joinL ls ms)) := HR7.out.below hb (Nat.le_refl _)
            replace HR9 : Hid (RowK .i64 w7 a9 ls) := HR9.out.below hb (Nat.le_refl _)
            clear hb
            obtain ⟨p0, p1, p2⟩ := HP.out.ask
            go_wp2_with fail
            refine (HNUM.out _).mono ?_
            rintro e w' ⟨rfl, rfl⟩
            go_wp2_with fail
            refine (HNUM.out _).mono ?_
            rintro e w' ⟨rfl, rfl⟩
            go_wp2_with fail
            refine (HNUM.out _).mono ?_
            rintro e w' ⟨rfl, rfl⟩
            go_wp2_with fail
            refine (HNUM.out _).mono ?_
            rintro e w' ⟨rfl, rfl⟩
            go_wp2_with fail
            refine (HNUM.out _).mono ?_
            rintro e w' ⟨rfl, rfl⟩
            go_wp2_with fail
            refine (HNUM.out _).mono ?_
            rintro e w' ⟨rfl, rfl⟩
            have C := Lib.hid (eqI_yes a5 a7 (joinL ls ms) nm nm c5 c7 w7 HR5.out HR7.out (by rw [joinL_len HPL.out]; exact HNL.out) (by rw [joinL_len HPL.out]; exact HNL.out) (by rw [joinL_len HPL.out, ← HNL.out]; omega))
            go_wp2_with fail
            refine (C.out).mono ?_
            rintro e w8 ⟨rfl, m8, rfl⟩
            clear C
            clear p0 p1 p2
            replace HP := Lib.hid (HP.out.drewN m8)
            replace HR5 := Lib.hid (HR5.out.drewN m8)
            replace HR7 := Lib.hid (HR7.out.drewN m8)
            replace HR9 := Lib.hid (HR9.out.drewN m8)
            replace HR15 := Lib.hid (HR15.out.drewN m8)
            generalize w7.drewN m8 = w8 at *
            obtain ⟨p0, p1, p2⟩ := HP.out.ask
            have C := Lib.hid (eqI_yes a9 al ls nm nm c9 cl w8 HR9.out HP.out.rows.rl HNL.out HNL.out (by rw [← HNL.out]; omega))
            go_wp2_with fail
            refine (C.out).mono ?_
            rintro e w9 ⟨rfl, m9, rfl⟩
            clear C
            clear p0 p1 p2
            replace HP := Lib.hid (HP.out.drewN m9)
            replace HR5 := Lib.hid (HR5.out.drewN m9)
            replace HR7 := Lib.hid (HR7.out.drewN m9)
            replace HR9 := Lib.hid (HR9.out.drewN m9)
            replace HR15 := Lib.hid (HR15.out.drewN m9)
            generalize w8.drewN m9 = w9 at *
            obtain ⟨p0, p1, p2⟩ := HP.out.ask
            clear HR7 HR9
            go_wp2_with fail
            go_loopg [17] nm (fun g2 v wr => ∃ k : Nat, v = .int .i64 k ∧ k ≤ nm ∧ nm - k ≤ g2 ∧ Hid (PS w wr gp al nm cl ls am nm cm ms ax nx cx xs) ∧ Hid (RowK .i64 wr a5 (joinL ls ms)) ∧ Hid (RowK .i64 wr a15 (lackL ls ms)))
            case atStart => exact ⟨0, rfl, Nat.zero_le _, by omega, HP, HR5, HR15⟩
            case round =>
              clear HP HR5 HR15 p0 p1 p2
              obtain ⟨k, rfl, hk, hg2, HP, HR5, HR15⟩ := hrel
              obtain ⟨p0, p1, p2⟩ := HP.out.ask
              by_cases hlt : k < nm
              · have hltz : (k : Int) < (nm : Int) := by omega
                have hkl : k < ls.length := by have := HNL.out; omega
                obtain ⟨bl, ol, rfl, d1⟩ := HP.out.rows.rl k hkl
                obtain ⟨b5, o5, rfl, d2⟩ := HR5.out k (by rw [joinL_len HPL.out]; exact hkl)
                obtain ⟨b15, o15, rfl, d3⟩ := HR15.out k (by rw [lackL_len HPL.out]; exact hkl)
                have HJL := Lib.hid (join_lack HPL.out hkl)
                rw [HJL.out] at d2
                obtain ⟨hx0, hx1⟩ := vecB_at ((pairB_iff ls ms).1 HPB.out).1 hkl
                obtain ⟨hz0, hz1⟩ := vecB_at (lackL_vec HPB.out) (k := k) (by rw [lackL_len HPL.out]; exact hkl)
                have HKL := Lib.hid hkl
                clear hkl
                generalize ls.getD k 0 = x at *
                generalize (lackL ls ms).getD k 0 = z at *
                have hne : (x + z != x + z) = false := by simp
                have hwr := IntWalk.i64_in (x + z) (by omega)
                go_wp2_with fail
                go_quiet (fail)
                clear hwr p0 p1 p2 d1 d2 d3
                replace HP := Lib.hid (HP.out.drewN nq)
                replace HR5 := Lib.hid (HR5.out.drewN nq)
                replace HR15 := Lib.hid (HR15.out.drewN nq)
                generalize wr.drewN nq = wa at *
                have C := Lib.hid (copyI_any (some ⟨b5, o5, none⟩) (joinL ls ms) nm c5 wa HR5.out (by rw [joinL_len HPL.out]; exact HNL.out) (by rw [joinL_len HPL.out, ← HNL.out]; omega))
                go_wp2_with fail
                refine (C.out).mono ?_
                rintro e wb ⟨v18, rfl, ho18, hb18⟩
                clear C
                have HO := Lib.hid ho18
                have HB18 := Lib.hid hb18
                rcases ho18.2 with ⟨_, h0⟩ | ⟨g, c18, cs, rfl, hgg, hh, _⟩
                · rw [joinL_len HPL.out] at h0
                  have := HNL.out
                  omega
                · clear ho18 hb18 hh hgg
                  have HLJ : Hid ((joinL ls ms).length = nm) := by rw [joinL_len HPL.out]; exact HNL.out.symm
                  rw [HLJ.out] at HO ⊢
                  obtain ⟨e1, f1, hgb, hgs⟩ := OwnK.cellAt HLJ.out HO.out k hlt
                  by_cases hy : (joinL ls ms).getD k 0 = 0
                  · rw [hy] at e1
                    have HP2 := Lib.hid (HP.out.below HB18.out)
                    have HR52 : Hid (RowK .i64 wb (some ⟨b5, o5, none⟩) (joinL ls ms)) := HR5.out.below HB18.out (Nat.le_refl _)
                    have HR152 : Hid (RowK .i64 wb (some ⟨b15, o15, none⟩) (lackL ls ms)) := HR15.out.below HB18.out (Nat.le_refl _)
                    clear HP HR5 HR15 HO HB18
                    go_wp2
                    go_roundg (nm - (k + 1))
                    case measure => omega
                    case rel => exact ⟨k + 1, by go_num, by omega, by omega, HP2, HR52, HR152⟩
                  · obtain ⟨hcx, hcy⟩ := lessL_pair HPB.out HKL.out hy
                    have HNOT := Lib.hid (lessL_not HPB.out HKL.out hy)
                    have HCX := Lib.hid hcx
                    have HCY := Lib.hid hcy
                    have HB20 : Hid (Below wa.heap.size wa (wb.setCell ⟨g, k, none⟩ (.int .i64 ((joinL ls ms).getD k 0 - 1)))) := HB18.out.setCell (p := ⟨g, k, none⟩) hgb _
                    have HR18 : Hid (RowK .i64 (wb.setCell ⟨g, k, none⟩ (.int .i64 ((joinL ls ms).getD k 0 - 1))) (some ⟨g, 0, none⟩) (lessL ls ms k)) := by
                      have h1 := OwnK.stored HLJ.out HO.out k ((joinL ls ms).getD k 0 - 1)
                      obtain ⟨a', c', e', hr', _, _⟩ := h1.form
                      simp only [Value.slice.injEq] at e'
                      obtain ⟨rfl, _, _⟩ := e'
                      exact hr'
                    have hyz : ((joinL ls ms).getD k 0 == 0) = false := beq_eq_false_iff_ne.2 hy
                    have hyb := vecB_at (joinL_vec HPB.out) (k := k) (by rw [HLJ.out]; exact hlt)
                    obtain ⟨hy0, hy1⟩ := hyb
                    have HLL : Hid (nm = (lessL ls ms k).length) := by
                      show nm = _
                      rw [lessL_len HPL.out, ← HNL.out]
                    clear HJL hcx hcy
                    generalize (joinL ls ms).getD k 0 = y at *
                    have hge : 0 ≤ (k : Int) := by omega
                    clear HO
                    go_upto_region 22 with fail
                    clear e1 f1
                    generalize wb.setCell ⟨g, k, none⟩ (.int .i64 (y - 1)) = wc at *
                    replace HP := Lib.hid (HP.out.below HB20.out)
                    replace HR5 : Hid (RowK .i64 wc (some ⟨b5, o5, none⟩) (joinL ls ms)) := HR5.out.below HB20.out (Nat.le_refl _)
                    replace HR15 : Hid (RowK .i64 wc (some ⟨b15, o15, none⟩) (lackL ls ms)) := HR15.out.below HB20.out (Nat.le_refl _)
                    clear HB20 HB18
                    obtain ⟨p0, p1, p2⟩ := HP.out.ask
                    obtain ⟨cx1, hcx1⟩ : ∃ b, b = coversB (lessL ls ms k) ls := ⟨_, rfl⟩
                    obtain ⟨cy1, hcy1⟩ : ∃ b, b = coversB (lessL ls ms k) ms := ⟨_, rfl⟩
                    have hnot : cx1 = false ∨ cy1 = false := by rw [hcx1, hcy1]; exact HNOT.out
                    have HCX1 := Lib.hid hcx1
                    have HCY1 := Lib.hid hcy1
                    clear hcx1 hcy1
                    have C := Lib.hid (covers_yes (some ⟨g, 0, none⟩) (some ⟨bl, ol, none⟩) (lessL ls ms k) ls nm c18 nm cl wc HR18.out HP.out.rows.rl HLL.out HNL.out HCX.out)
                    rw [← HCX1.out] at C
                    go_wp2_with fail
                    refine (C.out).mono ?_
                    rintro e wd ⟨rfl, hb⟩
                    clear C p0 p1 p2 HNOT
                    replace HP := Lib.hid (HP.out.below hb)
                    replace HR5 : Hid (RowK .i64 wd (some ⟨b5, o5, none⟩) (joinL ls ms)) := HR5.out.below hb (Nat.le_refl _)
                    replace HR15 : Hid (RowK .i64 wd (some ⟨b15, o15, none⟩) (lackL ls ms)) := HR15.out.below hb (Nat.le_refl _)
                    replace HR18 : Hid (RowK .i64 wd (some ⟨g, 0, none⟩) (lessL ls ms k)) := HR18.out.below hb (Nat.le_refl _)
                    clear hb
                    obtain ⟨p0, p1, p2⟩ := HP.out.ask
                    have C := Lib.hid (covers_yes (some ⟨g, 0, none⟩) am (lessL ls ms k) ms nm c18 nm cm wd HR18.out HP.out.rows.rm HLL.out HNM.out HCY.out)
                    rw [← HCY1.out] at C
                    go_wp2_with fail
                    refine (C.out).mono ?_
                    rintro e we ⟨rfl, hb⟩
                    clear C p0 p1 p2 HCX1 HCY1 HR18
                    replace HP := Lib.hid (HP.out.below hb)
                    replace HR5 : Hid (RowK .i64 we (some ⟨b5, o5, none⟩) (joinL ls ms)) := HR5.out.below hb (Nat.le_refl _)
                    replace HR15 : Hid (RowK .i64 we (some ⟨b15, o15, none⟩) (lackL ls ms)) := HR15.out.below hb (Nat.le_refl _)
                    clear hb
                    go_wp2_with fail
                    refine (HNUM.out _).mono ?_
                    rintro e w' ⟨rfl, rfl⟩
                    go_wp2_with fail
                    refine (HNUM.out _).mono ?_
                    rintro e w' ⟨rfl, rfl⟩
                    cases cx1
                    · go_wp2
                      go_roundg (nm - (k + 1))
                      case measure => omega
                      case rel => exact ⟨k + 1, by go_num, by omega, by omega, HP, HR5, HR15⟩
                    · have hcy2 : cy1 = false := by rcases hnot with h | h; cases h; exact h
                      subst hcy2
                      clear hnot
                      go_wp2
                      go_roundg (nm - (k + 1))
                      case measure => omega
                      case rel => exact ⟨k + 1, by go_num, by omega, by omega, HP, HR5, HR15⟩
              · have hltz : ¬ (k : Int) < (nm : Int) := by omega
                go_wp2
                go_roundg (15 - (i + 1))
                case measure => omega
                case rel => exact ⟨i + 1, by go_num, by omega, by omega, HP.out.bel⟩
        · rw [hhv] at HV
          clear hhv
          go_wp2_with fail
          refine (HV.out).mono ?_
          rintro e w1 ⟨rfl, hb⟩
          have HP : Hid (PS w w1 wr.heap.size al nl cl ls am nm cm ms ax nx cx xs) := PS.new HB.out HR0.out hb
          clear hb HV HR0 HB q0 q1 q2
          generalize wr.heap.size = gp at *
          obtain ⟨p0, p1, p2⟩ := HP.out.ask
          go_wp2
          go_roundg (15 - (i + 1))
          case measure => omega
          case rel => exact ⟨i + 1, by go_num, by omega, by omega, HP.out.bel⟩
      · have hiz : decide ((i : Int) < 15) = false := decide_eq_false (by omega)
        have hiy : ¬ (i : Int) < 15 := by omega
        have HW := Lib.hid (wakes_any wr)
        go_wp2_with fail
        refine (HW.out).mono ?_
        rintro e w1 ⟨rfl, hb1⟩
        have HZ : Hid (Below w.heap.size w w1) := HB.out.trans (hb1.mono HB.out.size)
        clear hb1 HW
        go_wp2
        go_ret
        exact ⟨rfl, HZ.out⟩
    · have hinz : decide ((i : Int) < (n : Int)) = false := decide_eq_false (by omega)
      have hiny : ¬ (i : Int) < (n : Int) := by omega
      have HW := Lib.hid (wakes_any wr)
      go_wp2_with fail
      refine (HW.out).mono ?_
      rintro e w1 ⟨rfl, hb1⟩
      have HZ : Hid (Below w.heap.size w w1) := HB.out.trans (hb1.mono HB.out.size)
      clear hb1 HW
      go_wp2
      go_ret
      exact ⟨rfl, HZ.out⟩
end Go.Proofs.Ytponpbcchfbkpaa
