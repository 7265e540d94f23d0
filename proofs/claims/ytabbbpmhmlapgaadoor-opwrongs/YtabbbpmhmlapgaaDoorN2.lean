/- OpWrongs: the law of the statement that copies two operations. -/
import Derived.Test.YtabbbpmhmlapgaaDoorN1
namespace Go.Proofs.YtabbbpmhmlapgaaDoor
open Go.RowKit Go.Lib
set_option linter.unusedVariables false
set_option linter.unusedSimpArgs false

theorem upd_self {v : Nat → Value} {i : Nat} {x : Value} (h : v i = x) : v = upd v i x := by
  funext j
  unfold upd
  split
  · rename_i e; rw [e, h]
  · rfl

set_option maxHeartbeats 8000000 in
set_option maxRecDepth 100000 in
theorem reg8_law (gm gs gr : Nat) (a1 : Option Addr) (W : World) (Q : Exit → Act → World → Prop) (s0 s1 s2 s5 s6 s7 s8 s9 s10 s11 s12 s13 s14 s15 s16 s17 s18 s19 s20 s21 s22 s23 s24 s25 s26 s27 s28 s29 s30 s31 s32 s33 s34 s35 s36 s37 s38 s39 s40 s41 s42 s43 s44 s45 s46 s47 s48 s49 s50 s51 s52 s53 s54 s55 s56 s57 s58 s59 s60 s61 s62 s63 s64 s65 s66 s67 s68 s69 s70 s71 s72 s73 s74 s75 s76 s77 s78 s79 s80 s81 s82 s83 s84 s85 s86 s87 s88 s89 s90 s91 s92 s93 s94 s95 s96 s97 s98 s99 s100 s101 s102 s103 s104 s105 s106 s107 s108 s109 : Value)
    (hm : OpAt W gm 0 1 0 1 a1 1 1 1 1 0 0 0 ⟨#[107]⟩ 0 0) (hs : OpAt W gs 0 3 1 3 (some ⟨gr, 0, none⟩) 2 2 2 2 0 0 0 ⟨#[]⟩ 3 (-1)) (hrm : RowK .i64 W a1 [0]) (hrs : RowK .i64 W (some ⟨gr, 0, none⟩) [7, 2])
    (hQ : ∀ (g6 g7 : Nat) (d d' u27 u28 u29 u30 : Value) (w : World), Below W.heap.size W w → W.heap.size ≤ g6 → W.heap.size ≤ g7 → g6 ≠ g7 → Blk w g6 (LM d) → Blk w g7 (LS d') → OwnK .i64 3 w W.heap.size d [0] → OwnK .i64 3 w W.heap.size d' [7, 2] → Ty w g6 27 → Ty w g7 27 →
      Q .normal ⟨#[s0, s1, s2, .pointer (some ⟨gm, 0, none⟩), .pointer (some ⟨gs, 0, none⟩), s5, .pointer (some ⟨g6, 0, none⟩), .pointer (some ⟨g7, 0, none⟩), s8, s9, s10, s11, s12, s13, s14, s15, s16, s17, s18, s19, s20, s21, s22, s23, s24, s25, s26, u27, u28, u29, u30, s31, s32, s33, s34, s35, s36, s37, s38, s39, s40, s41, s42, s43, s44, s45, s46, s47, s48, s49, s50, s51, s52, s53, s54, s55, s56, s57, s58, s59, s60, s61, s62, s63, s64, s65, s66, s67, s68, s69, s70, s71, s72, s73, s74, s75, s76, s77, s78, s79, s80, s81, s82, s83, s84, s85, s86, s87, s88, s89, s90, s91, s92, s93, s94, s95, s96, s97, s98, s99, s100, s101, s102, s103, s104, s105, s106, s107, s108, s109], []⟩ w) :
    Code.wp Tryd.prog reg8 Q ⟨#[s0, s1, s2, .pointer (some ⟨gm, 0, none⟩), .pointer (some ⟨gs, 0, none⟩), s5, s6, s7, s8, s9, s10, s11, s12, s13, s14, s15, s16, s17, s18, s19, s20, s21, s22, s23, s24, s25, s26, s27, s28, s29, s30, s31, s32, s33, s34, s35, s36, s37, s38, s39, s40, s41, s42, s43, s44, s45, s46, s47, s48, s49, s50, s51, s52, s53, s54, s55, s56, s57, s58, s59, s60, s61, s62, s63, s64, s65, s66, s67, s68, s69, s70, s71, s72, s73, s74, s75, s76, s77, s78, s79, s80, s81, s82, s83, s84, s85, s86, s87, s88, s89, s90, s91, s92, s93, s94, s95, s96, s97, s98, s99, s100, s101, s102, s103, s104, s105, s106, s107, s108, s109], []⟩ W := by
  have mixed : Tryd.prog.follows .mixedOrders = true := by kernel_rfl
  have HM := Lib.hid hm
  have HS := Lib.hid hs
  have HRM := Lib.hid hrm
  have HRS := Lib.hid hrs
  have HQ := Lib.hid hQ
  clear hm hs hrm hrs hQ
  obtain ⟨J, HJ⟩ : ∃ J : (Nat → Bool) → Act → World → Prop, Hid ((∀ D v w, I8 W.drew a1 gr D v w → ((D 6 = true → D 1 = true ∧ D 4 = true) ∧ (D 7 = true → D 3 = true ∧ D 5 = true)) → J D ⟨#[s0, s1, s2, .pointer (some ⟨gm, 0, none⟩), .pointer (some ⟨gs, 0, none⟩), s5, v 4, v 5, s8, s9, s10, s11, s12, s13, s14, s15, s16, s17, s18, s19, s20, s21, s22, s23, s24, s25, s26, v 0, v 1, v 2, v 3, s31, s32, s33, s34, s35, s36, s37, s38, s39, s40, s41, s42, s43, s44, s45, s46, s47, s48, s49, s50, s51, s52, s53, s54, s55, s56, s57, s58, s59, s60, s61, s62, s63, s64, s65, s66, s67, s68, s69, s70, s71, s72, s73, s74, s75, s76, s77, s78, s79, s80, s81, s82, s83, s84, s85, s86, s87, s88, s89, s90, s91, s92, s93, s94, s95, s96, s97, s98, s99, s100, s101, s102, s103, s104, s105, s106, s107, s108, s109], []⟩ w) ∧
      (∀ D act w, J D act w → ∃ v : Nat → Value, act = ⟨#[s0, s1, s2, .pointer (some ⟨gm, 0, none⟩), .pointer (some ⟨gs, 0, none⟩), s5, v 4, v 5, s8, s9, s10, s11, s12, s13, s14, s15, s16, s17, s18, s19, s20, s21, s22, s23, s24, s25, s26, v 0, v 1, v 2, v 3, s31, s32, s33, s34, s35, s36, s37, s38, s39, s40, s41, s42, s43, s44, s45, s46, s47, s48, s49, s50, s51, s52, s53, s54, s55, s56, s57, s58, s59, s60, s61, s62, s63, s64, s65, s66, s67, s68, s69, s70, s71, s72, s73, s74, s75, s76, s77, s78, s79, s80, s81, s82, s83, s84, s85, s86, s87, s88, s89, s90, s91, s92, s93, s94, s95, s96, s97, s98, s99, s100, s101, s102, s103, s104, s105, s106, s107, s108, s109], []⟩ ∧ I8 W.drew a1 gr D v w ∧ (D 6 = true → D 1 = true ∧ D 4 = true) ∧ (D 7 = true → D 3 = true ∧ D 5 = true))) :=
    ⟨fun D act w => ∃ v : Nat → Value, act = ⟨#[s0, s1, s2, .pointer (some ⟨gm, 0, none⟩), .pointer (some ⟨gs, 0, none⟩), s5, v 4, v 5, s8, s9, s10, s11, s12, s13, s14, s15, s16, s17, s18, s19, s20, s21, s22, s23, s24, s25, s26, v 0, v 1, v 2, v 3, s31, s32, s33, s34, s35, s36, s37, s38, s39, s40, s41, s42, s43, s44, s45, s46, s47, s48, s49, s50, s51, s52, s53, s54, s55, s56, s57, s58, s59, s60, s61, s62, s63, s64, s65, s66, s67, s68, s69, s70, s71, s72, s73, s74, s75, s76, s77, s78, s79, s80, s81, s82, s83, s84, s85, s86, s87, s88, s89, s90, s91, s92, s93, s94, s95, s96, s97, s98, s99, s100, s101, s102, s103, s104, s105, s106, s107, s108, s109], []⟩ ∧ I8 W.drew a1 gr D v w ∧ (D 6 = true → D 1 = true ∧ D 4 = true) ∧ (D 7 = true → D 3 = true ∧ D 5 = true), fun D v w h k => ⟨v, rfl, h, k.1, k.2⟩, fun _ _ _ h => h⟩
  conv => arg 2; whnf
  refine wp_region_inv mixed (by kernel_rfl) J ?_ ?_ ?_
  · have h0 : I8 W.drew a1 gr (fun _ => false) (fun i => match i with
      | 0 => s27
      | 1 => s28
      | 2 => s29
      | 3 => s30
      | 4 => s6
      | _ => s7) W.drew := ⟨Below.refl _ _, nofun, nofun, nofun, nofun, nofun, nofun, nofun⟩
    exact HJ.out.1 _ _ _ h0 ⟨nofun, nofun⟩
  · intro i o ho D act w hI hD haft
    obtain ⟨v, rfl, hi, h6, h7⟩ := HJ.out.2 _ _ _ hI
    have HI := Lib.hid hi
    have H6 := Lib.hid h6
    have H7 := Lib.hid h7
    have HB := Lib.hid ((Below.refl W.heap.size W).drew.trans hi.bel)
    clear hi h6 h7 hI
    match i, ho with
    | 0, ho =>
      simp only [List.getElem?_toArray, List.getElem?_cons_succ, List.getElem?_cons_zero, Option.some.injEq] at ho
      subst ho
      show wpOp Tryd.prog _ Q 0 (J (don D 0)) _ _
      unfold wpOp
      simp only [List.getElem?_toArray, List.getElem?_cons_succ, List.getElem?_cons_zero, Region.wanted, if_true]
      refine .inl ?_
      clear haft
      obtain ⟨c0, c1, c2, c3, c4, c5, c6, c7, c8, c9, c10, c11⟩ := HM.out.drew.below HI.out.bel (by have := HM.out.lt; exact this)
      go_wp2
      exact HJ.out.1 (don D 0) (upd v 0 (AM (.slice a1 1 1))) w HI.out.put0 ⟨fun h => H6.out h, fun h => H7.out h⟩
    | 1, ho =>
      simp only [List.getElem?_toArray, List.getElem?_cons_succ, List.getElem?_cons_zero, Option.some.injEq] at ho
      subst ho
      have e0 := HI.out.m0 (haft ⟨0, .data⟩ (by simp) rfl)
      have hn : D 6 = false := by
        cases hx : D 6 with
        | false => rfl
        | true => have := (H6.out hx).1; rw [this] at hD; cases hD
      show wpOp Tryd.prog _ Q 1 (J (don D 1)) _ _
      unfold wpOp
      simp only [List.getElem?_toArray, List.getElem?_cons_succ, List.getElem?_cons_zero, Region.wanted, if_true]
      refine .inl ?_
      clear haft
      have HI2 : Hid (I8 W.drew a1 gr D (upd v 0 (AM (.slice a1 1 1))) w) := by show I8 _ _ _ _ _ _; rw [← upd_self e0]; exact HI.out
      simp only [AM] at e0
      rw [e0]
      clear e0 HI
      go_wp2_with fail
      refine (copyOp_any 1 0 1 a1 [0] 1 1 1 1 0 0 0 ⟨#[107]⟩ 0 0 w (HRM.out.below HB.out (Nat.le_refl _)) rfl (by decide)).mono ?_
      rintro e w1 ⟨da, dn, dc, rfl, ho, hb⟩
      go_wp2
      exact HJ.out.1 (don D 1) (upd (upd v 0 (AM (.slice a1 1 1))) 1 (AM (.slice da dn dc))) w1 ((HI2.out.next hb).put1 hn ho HB.out.size) ⟨fun h => ⟨rfl, (H6.out h).2⟩, fun h => ⟨(H7.out h).1, (H7.out h).2⟩⟩
    | 2, ho =>
      simp only [List.getElem?_toArray, List.getElem?_cons_succ, List.getElem?_cons_zero, Option.some.injEq] at ho
      subst ho
      show wpOp Tryd.prog _ Q 2 (J (don D 2)) _ _
      unfold wpOp
      simp only [List.getElem?_toArray, List.getElem?_cons_succ, List.getElem?_cons_zero, Region.wanted, if_true]
      refine .inl ?_
      clear haft
      obtain ⟨c0, c1, c2, c3, c4, c5, c6, c7, c8, c9, c10, c11⟩ := HS.out.drew.below HI.out.bel (by have := HS.out.lt; exact this)
      go_wp2
      exact HJ.out.1 (don D 2) (upd v 2 (AS (.slice (some ⟨gr, 0, none⟩) 2 2))) w HI.out.put2 ⟨fun h => H6.out h, fun h => H7.out h⟩
    | 3, ho =>
      simp only [List.getElem?_toArray, List.getElem?_cons_succ, List.getElem?_cons_zero, Option.some.injEq] at ho
      subst ho
      have e0 := HI.out.s2 (haft ⟨2, .data⟩ (by simp) rfl)
      have hn : D 7 = false := by
        cases hx : D 7 with
        | false => rfl
        | true => have := (H7.out hx).1; rw [this] at hD; cases hD
      show wpOp Tryd.prog _ Q 3 (J (don D 3)) _ _
      unfold wpOp
      simp only [List.getElem?_toArray, List.getElem?_cons_succ, List.getElem?_cons_zero, Region.wanted, if_true]
      refine .inl ?_
      clear haft
      have HI2 : Hid (I8 W.drew a1 gr D (upd v 2 (AS (.slice (some ⟨gr, 0, none⟩) 2 2))) w) := by show I8 _ _ _ _ _ _; rw [← upd_self e0]; exact HI.out
      simp only [AS] at e0
      rw [e0]
      clear e0 HI
      go_wp2_with fail
      refine (copyOp_any 3 1 3 (some ⟨gr, 0, none⟩) [7, 2] 2 2 2 2 0 0 0 ⟨#[]⟩ 3 (-1) w (HRS.out.below HB.out (Nat.le_refl _)) rfl (by decide)).mono ?_
      rintro e w1 ⟨da, dn, dc, rfl, ho, hb⟩
      go_wp2
      exact HJ.out.1 (don D 3) (upd (upd v 2 (AS (.slice (some ⟨gr, 0, none⟩) 2 2))) 3 (AS (.slice da dn dc))) w1 ((HI2.out.next hb).put3 hn ho HB.out.size) ⟨fun h => ⟨(H6.out h).1, (H6.out h).2⟩, fun h => ⟨rfl, (H7.out h).2⟩⟩
    | 4, ho =>
      simp only [List.getElem?_toArray, List.getElem?_cons_succ, List.getElem?_cons_zero, Option.some.injEq] at ho
      subst ho
      have hn : D 6 = false := by
        cases hx : D 6 with
        | false => rfl
        | true => have := (H6.out hx).2; rw [this] at hD; cases hD
      show wpOp Tryd.prog _ Q 4 (J (don D 4)) _ _
      unfold wpOp
      simp only [List.getElem?_toArray, List.getElem?_cons_succ, List.getElem?_cons_zero, Region.wanted, if_true]
      refine .inl ?_
      clear haft
      go_wp2
      exact HJ.out.1 (don D 4) (upd v 4 (.pointer (some ⟨w.heap.size, 0, none⟩))) _ (HI.out.put4 hn) ⟨fun h => ⟨(H6.out h).1, rfl⟩, fun h => ⟨(H7.out h).1, (H7.out h).2⟩⟩
    | 5, ho =>
      simp only [List.getElem?_toArray, List.getElem?_cons_succ, List.getElem?_cons_zero, Option.some.injEq] at ho
      subst ho
      have hn : D 7 = false := by
        cases hx : D 7 with
        | false => rfl
        | true => have := (H7.out hx).2; rw [this] at hD; cases hD
      show wpOp Tryd.prog _ Q 5 (J (don D 5)) _ _
      unfold wpOp
      simp only [List.getElem?_toArray, List.getElem?_cons_succ, List.getElem?_cons_zero, Region.wanted, if_true]
      refine .inl ?_
      clear haft
      go_wp2
      exact HJ.out.1 (don D 5) (upd v 5 (.pointer (some ⟨w.heap.size, 0, none⟩))) _ (HI.out.put5 hn) ⟨fun h => ⟨(H6.out h).1, (H6.out h).2⟩, fun h => ⟨(H7.out h).1, rfl⟩⟩
    | 6, ho =>
      simp only [List.getElem?_toArray, List.getElem?_cons_succ, List.getElem?_cons_zero, Option.some.injEq] at ho
      subst ho
      have hk : D 1 = true := haft ⟨1, .data⟩ (by simp) rfl
      have ha : D 4 = true := haft ⟨4, .data⟩ (by simp) rfl
      obtain ⟨g, e4, hg, hty, hz, _⟩ := HI.out.p4 ha
      obtain ⟨d, e1, ho⟩ := HI.out.m1 hk
      obtain ⟨da, dn, dc, rfl, hdn, _⟩ := ho.form'
      obtain rfl : dn = 1 := hdn
      have hB := hz hD
      show wpOp Tryd.prog _ Q 6 (J (don D 6)) _ _
      unfold wpOp
      simp only [List.getElem?_toArray, List.getElem?_cons_succ, List.getElem?_cons_zero, Region.wanted, if_true]
      refine .inl ?_
      clear haft
      have HI2 : Hid (I8 W.drew a1 gr D (upd (upd v 4 (.pointer (some ⟨g, 0, none⟩))) 1 (AM (.slice da 1 dc))) w) := by show I8 _ _ _ _ _ _; rw [← upd_self (show upd v 4 _ 1 = _ from e1), ← upd_self e4]; exact HI.out
      simp only [AM] at e1
      rw [e1, e4]
      clear e1 e4 HI ho hz
      have z0 := hB.cell 0 _ rfl
      have f0 := hB.free 0 _ rfl
      have z1 := hB.cell 1 _ rfl
      have f1 := hB.free 1 _ rfl
      have z2 := hB.cell 2 _ rfl
      have f2 := hB.free 2 _ rfl
      have z3 := hB.cell 3 _ rfl
      have f3 := hB.free 3 _ rfl
      have z4 := hB.cell 4 _ rfl
      have f4 := hB.free 4 _ rfl
      have z5 := hB.cell 5 _ rfl
      have f5 := hB.free 5 _ rfl
      have z6 := hB.cell 6 _ rfl
      have f6 := hB.free 6 _ rfl
      have z7 := hB.cell 7 _ rfl
      have f7 := hB.free 7 _ rfl
      have z8 := hB.cell 8 _ rfl
      have f8 := hB.free 8 _ rfl
      have z9 := hB.cell 9 _ rfl
      have f9 := hB.free 9 _ rfl
      have z10 := hB.cell 10 _ rfl
      have f10 := hB.free 10 _ rfl
      have z11 := hB.cell 11 _ rfl
      have f11 := hB.free 11 _ rfl
      clear hB
      go_wp2
      exact HJ.out.1 (don D 6) (upd (upd v 4 (.pointer (some ⟨g, 0, none⟩))) 1 (AM (.slice da 1 dc))) (set12 w g (.int .i64 1) (.int .i64 0) (.int .i64 1) (.slice da 1 dc) (.int .i64 1) (.int .i64 1) (.int .i64 0) (.int .i64 0) (.int .i64 0) (.string ⟨#[107]⟩) (.int .i64 0) (.int .i64 0)) (HI2.out.put6 ha hD rfl rfl) ⟨fun h => ⟨hk, ha⟩, fun h => H7.out h⟩
    | 7, ho =>
      simp only [List.getElem?_toArray, List.getElem?_cons_succ, List.getElem?_cons_zero, Option.some.injEq] at ho
      subst ho
      have hk : D 3 = true := haft ⟨3, .data⟩ (by simp) rfl
      have ha : D 5 = true := haft ⟨5, .data⟩ (by simp) rfl
      obtain ⟨g, e4, hg, hty, hz, _⟩ := HI.out.p5 ha
      obtain ⟨d, e1, ho⟩ := HI.out.s3 hk
      obtain ⟨da, dn, dc, rfl, hdn, _⟩ := ho.form'
      obtain rfl : dn = 2 := hdn
      have hB := hz hD
      show wpOp Tryd.prog _ Q 7 (J (don D 7)) _ _
      unfold wpOp
      simp only [List.getElem?_toArray, List.getElem?_cons_succ, List.getElem?_cons_zero, Region.wanted, if_true]
      refine .inl ?_
      clear haft
      have HI2 : Hid (I8 W.drew a1 gr D (upd (upd v 5 (.pointer (some ⟨g, 0, none⟩))) 3 (AS (.slice da 2 dc))) w) := by show I8 _ _ _ _ _ _; rw [← upd_self (show upd v 5 _ 3 = _ from e1), ← upd_self e4]; exact HI.out
      simp only [AS] at e1
      rw [e1, e4]
      clear e1 e4 HI ho hz
      have z0 := hB.cell 0 _ rfl
      have f0 := hB.free 0 _ rfl
      have z1 := hB.cell 1 _ rfl
      have f1 := hB.free 1 _ rfl
      have z2 := hB.cell 2 _ rfl
      have f2 := hB.free 2 _ rfl
      have z3 := hB.cell 3 _ rfl
      have f3 := hB.free 3 _ rfl
      have z4 := hB.cell 4 _ rfl
      have f4 := hB.free 4 _ rfl
      have z5 := hB.cell 5 _ rfl
      have f5 := hB.free 5 _ rfl
      have z6 := hB.cell 6 _ rfl
      have f6 := hB.free 6 _ rfl
      have z7 := hB.cell 7 _ rfl
      have f7 := hB.free 7 _ rfl
      have z8 := hB.cell 8 _ rfl
      have f8 := hB.free 8 _ rfl
      have z9 := hB.cell 9 _ rfl
      have f9 := hB.free 9 _ rfl
      have z10 := hB.cell 10 _ rfl
      have f10 := hB.free 10 _ rfl
      have z11 := hB.cell 11 _ rfl
      have f11 := hB.free 11 _ rfl
      clear hB
      go_wp2
      exact HJ.out.1 (don D 7) (upd (upd v 5 (.pointer (some ⟨g, 0, none⟩))) 3 (AS (.slice da 2 dc))) (set12 w g (.int .i64 3) (.int .i64 1) (.int .i64 3) (.slice da 2 dc) (.int .i64 2) (.int .i64 2) (.int .i64 0) (.int .i64 0) (.int .i64 0) (.string ⟨#[]⟩) (.int .i64 3) (.int .i64 (-1))) (HI2.out.put7 ha hD rfl rfl) ⟨fun h => H6.out h, fun h => ⟨hk, ha⟩⟩
    | n + 8, ho => simp at ho
  · intro D act w hI hall
    obtain ⟨v, rfl, hi, h6, h7⟩ := HJ.out.2 _ _ _ hI
    obtain ⟨g6, e4, hg6, ht6, _, hb6⟩ := hi.p4 (hall 4 (by decide))
    obtain ⟨g7, e5, hg7, ht7, _, hb7⟩ := hi.p5 (hall 5 (by decide))
    obtain ⟨d, e1, ho1⟩ := hi.m1 (hall 1 (by decide))
    obtain ⟨d', e3, ho3⟩ := hi.s3 (hall 3 (by decide))
    have hne : g6 ≠ g7 := fun x => hi.ne (hall 4 (by decide)) (hall 5 (by decide)) (by rw [e4, e5, x])
    rw [e4, e5]
    exact HQ.out g6 g7 d d' (v 0) (v 1) (v 2) (v 3) w ((Below.refl _ W).drew.trans hi.bel) hg6 hg7 hne (hb6 (hall 6 (by decide)) d e1) (hb7 (hall 7 (by decide)) d' e3) ho1 ho3 ht6 ht7
end Go.Proofs.YtabbbpmhmlapgaaDoor
