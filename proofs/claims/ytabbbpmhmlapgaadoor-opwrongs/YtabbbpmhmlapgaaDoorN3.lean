/- OpWrongs: the walk. -/
import Derived.Test.YtabbbpmhmlapgaaDoorN2
import Derived.Deep.OwnRows
namespace Go.Proofs.YtabbbpmhmlapgaaDoor
open Go.RowKit Go.Lib
set_option linter.unusedVariables false
set_option linter.unusedSimpArgs false

theorem bel_alloc {B : Nat} {w w' : World} (h : Below B w w') (hB : B ≤ w.heap.size) (o : Obj) : Below B w (w'.alloc o) := h.alloc (Nat.le_trans hB h.size) o
theorem len65 : (strN (strOfNums (List.replicate 64 0) ++ ⟨#[107]⟩)).length = 65 := by
  rw [strN_len, ByteArray.size_append, strOfNums_size]; rfl
theorem key65 : opB 1 0 1 [0] 1 1 0 0 0 (strOfNums (List.replicate 64 0) ++ ⟨#[107]⟩) 0 0 = false := by
  have h : Ky.keyB (strN (strOfNums (List.replicate 64 0) ++ ⟨#[107]⟩)) = false := by
    unfold Ky.keyB
    rw [len65]
    simp
  generalize strOfNums (List.replicate 64 0) ++ ⟨#[107]⟩ = K at *
  simp [opB, kndB, h]
theorem cat65 (W : World) : (binOp .add 9 (.string (strOfNums (List.replicate 64 0))) (.string ⟨#[107]⟩)).run Tryd.prog W = .ok (.string (strOfNums (List.replicate 64 0) ++ ⟨#[107]⟩)) W := by
  have h : (strOfNums (List.replicate 64 0)).size = 64 := by rw [strOfNums_size]; rfl
  generalize strOfNums (List.replicate 64 0) = K at *
  simp [go_sem, binOp, h]
theorem own_new (W : World) (zs : List Int) (n : Nat) (hn : n = zs.length) (hm : zs.length ≤ 9223372036854775807) : OwnK .i64 3 (W.alloc (.cells (zs.map (Value.int .i64)).toArray 3)) W.heap.size (.slice (some ⟨W.heap.size, 0, none⟩) n n) zs := by
  subst hn
  refine ⟨by simp, .inr ⟨W.heap.size, zs.length, _, rfl, Nat.le_refl _, (Array.getElem?_push_size : (W.heap.push (.cells (zs.map (Value.int .i64)).toArray 3))[W.heap.size]? = _), Nat.le_refl _, hm, by simp, by rw [List.toList_toArray]; exact List.take_of_length_le (by simp)⟩⟩
def Z17 : Array Value := ((List.replicate 17 (0 : Int)).map (Value.int .i64)).toArray
def Z64 : Array Value := ((List.replicate 64 (0 : Int)).map (Value.int .u8)).toArray
theorem make17 (W : World) : (Instr.makeSlice 25 (.int .i64 17) (.int .i64 17)).run Tryd.prog W = .ok (.slice (some ⟨W.heap.size, 0, none⟩) 17 17) (W.alloc (.cells Z17 3)) := by
  rw [show Z17 = madeCells #[.int .i64 0] 17 from by kernel_rfl]
  exact Go.run_make_row' 25 3 (.int .i64 0) 8 Tryd.underlying25 Tryd.info3 rfl .i64 .i64 17 (by decide) (by decide) W
theorem make64 (W : World) : (Instr.makeSlice 33 (.int .i64 64) (.int .i64 64)).run Tryd.prog W = .ok (.slice (some ⟨W.heap.size, 0, none⟩) 64 64) (W.alloc (.cells Z64 5)) := by
  rw [show Z64 = madeCells #[.int .u8 0] 64 from by kernel_rfl]
  exact Go.run_make_row' 33 5 (.int .u8 0) 1 Tryd.underlying33 Tryd.info5 rfl .i64 .i64 64 (by decide) (by decide) W
theorem row64 (W : World) : RowK .u8 (W.alloc (.cells Z64 5)) (some ⟨W.heap.size, 0, none⟩) (List.replicate 64 0) := by
  intro i hi
  rw [List.length_replicate] at hi
  refine ⟨W.heap.size, 0, rfl, ?_⟩
  have h : Z64[0 + i]? = some (Value.int .u8 ((List.replicate 64 (0 : Int)).getD i 0)) := by
    rw [Nat.zero_add]
    simp only [Z64, List.getElem?_toArray, List.getElem?_map, List.getD_eq_getElem?_getD]
    rw [List.getElem?_replicate, if_pos hi]
    rfl
  rw [World.cell?_alloc_new]
  exact h
theorem op_buildS (da : Option Addr) (dn dc : Nat) (w : World) : (Instr.build 27 #[(0, .agg #[.int .i64 3, .int .i64 1]), (1, .int .i64 3), (2, .slice da dn dc), (3, .int .i64 2), (4, .agg #[.int .i64 2, .int .i64 0]), (7, .int .i64 3), (8, .int .i64 (-1))]).run Tryd.prog w = .ok (.agg #[.int .i64 3, .int .i64 1, .int .i64 3, .slice da dn dc, .int .i64 2, .int .i64 2, .int .i64 0, .int .i64 0, .int .i64 0, .string ⟨#[]⟩, .int .i64 3, .int .i64 (-1)]) w := run_build w 27 _ _ (by kernel_rfl)
theorem okS : opB 3 1 3 [7, 2] 2 2 0 0 0 ⟨#[]⟩ 3 (-1) = true := by decide
/-- the two plain operations -/
structure WM (w W : World) (gm gs gr : Nat) (a1 : Option Addr) : Prop where
  m : OpAt W gm 0 1 0 1 a1 1 1 1 1 0 0 0 ⟨#[107]⟩ 0 0
  s : OpAt W gs 0 3 1 3 (some ⟨gr, 0, none⟩) 2 2 2 2 0 0 0 ⟨#[]⟩ 3 (-1)
  rm : RowK .i64 W a1 [0]
  rs : RowK .i64 W (some ⟨gr, 0, none⟩) [7, 2]
  bel : Below w.heap.size w W
  tab : Pr.Tab W
theorem WM.next {w W W' : World} {gm gs gr : Nat} {a1 : Option Addr} (h : WM w W gm gs gr a1) (hb : Below W.heap.size W W') : WM w W' gm gs gr a1 :=
  ⟨h.m.next hb, h.s.next hb, h.rm.below hb (Nat.le_refl _), h.rs.below hb (Nat.le_refl _), h.bel.trans (hb.mono h.bel.size), h.tab.below hb h.tab.lt⟩
theorem two_rowJ (W : World) (x y : Int) : RowK .i64 (W.alloc (.cells #[.int .i64 x, .int .i64 y] 3)) (some ⟨W.heap.size, 0, none⟩) [x, y] := by
  intro i hi
  simp only [List.length_cons, List.length_nil] at hi
  rcases (show i = 0 ∨ i = 1 by omega) with rfl | rfl
  · exact ⟨W.heap.size, 0, rfl, by simp⟩
  · exact ⟨W.heap.size, 0, rfl, by simp⟩

set_option maxHeartbeats 16000000 in
set_option maxRecDepth 100000 in
theorem opWrongs_walk (a : Option Addr) (n cap : Nat) (w : World) (ht : Pr.Tab w) (h : AsksIs w a n) :
    Calls Tryd.prog 3 #[.slice a n cap] w (BoolPost w true) := by
  have mixed : Tryd.prog.follows .mixedOrders = true := by kernel_rfl
  have HT0 := Lib.hid ht
  clear ht h
  have H0 := Lib.hid (mkO_any w)
  have hbd := St.st_build
  have hbt := st_buildT
  have hbo := op_buildS
  have hb0 := St.st_build0
  have hb1 := St.st_build1
  go_enter Tryd.func3, Tryd.ntmps3
  go_wp2_with fail
  refine (H0.out).mono ?_
  rintro e w1 ⟨a1, rfl, hr1, hbl1⟩
  have HM0 : Hid (WM w (((w1.alloc (.cells #[.int .i64 1, .int .i64 0, .int .i64 1, .slice a1 1 1, .int .i64 1, .int .i64 1, .int .i64 0, .int .i64 0, .int .i64 0, .string ⟨#[107]⟩, .int .i64 0, .int .i64 0] 27)).alloc (.cells #[.int .i64 7, .int .i64 2] 3)).alloc (.cells #[.int .i64 3, .int .i64 1, .int .i64 3, .slice (some ⟨w1.heap.size + 1, 0, none⟩) 2 2, .int .i64 2, .int .i64 2, .int .i64 0, .int .i64 0, .int .i64 0, .string ⟨#[]⟩, .int .i64 3, .int .i64 (-1)] 27)) w1.heap.size (w1.heap.size + 1 + 1) (w1.heap.size + 1) a1) := by
    have hx := Below.trans hbl1 ((((Below.refl w1.heap.size w1).alloc (Nat.le_refl _) (.cells #[.int .i64 1, .int .i64 0, .int .i64 1, .slice a1 1 1, .int .i64 1, .int .i64 1, .int .i64 0, .int .i64 0, .int .i64 0, .string ⟨#[107]⟩, .int .i64 0, .int .i64 0] 27)).alloc (by rw [World.size_alloc]; omega) (.cells #[.int .i64 7, .int .i64 2] 3)).alloc (by rw [World.size_alloc, World.size_alloc]; omega) (.cells #[.int .i64 3, .int .i64 1, .int .i64 3, .slice (some ⟨w1.heap.size + 1, 0, none⟩) 2 2, .int .i64 2, .int .i64 2, .int .i64 0, .int .i64 0, .int .i64 0, .string ⟨#[]⟩, .int .i64 3, .int .i64 (-1)] 27) |>.mono hbl1.size)
    refine ⟨((OpAt.new w1 1 0 1 a1 [0] 1 1 1 1 0 0 0 ⟨#[107]⟩ 0 0).next (box_bel _ _)).next (box_bel _ _), ?_, ((hr1.alloc _).alloc _).alloc _, ?_, hx, HT0.out.below hx HT0.out.lt⟩
    · have := OpAt.new ((w1.alloc (.cells #[.int .i64 1, .int .i64 0, .int .i64 1, .slice a1 1 1, .int .i64 1, .int .i64 1, .int .i64 0, .int .i64 0, .int .i64 0, .string ⟨#[107]⟩, .int .i64 0, .int .i64 0] 27)).alloc (.cells #[.int .i64 7, .int .i64 2] 3)) 3 1 3 (some ⟨w1.heap.size + 1, 0, none⟩) [7, 2] 2 2 2 2 0 0 0 ⟨#[]⟩ 3 (-1)
      rw [World.size_alloc, World.size_alloc] at this
      exact this
    · have := (two_rowJ (w1.alloc (.cells #[.int .i64 1, .int .i64 0, .int .i64 1, .slice a1 1 1, .int .i64 1, .int .i64 1, .int .i64 0, .int .i64 0, .int .i64 0, .string ⟨#[107]⟩, .int .i64 0, .int .i64 0] 27)) 7 2).alloc (.cells #[.int .i64 3, .int .i64 1, .int .i64 3, .slice (some ⟨w1.heap.size + 1, 0, none⟩) 2 2, .int .i64 2, .int .i64 2, .int .i64 0, .int .i64 0, .int .i64 0, .string ⟨#[]⟩, .int .i64 3, .int .i64 (-1)] 27)
      rw [World.size_alloc] at this
      exact this
  clear hr1 hbl1
  go_wp2_with fail
  generalize ((w1.alloc (.cells #[.int .i64 1, .int .i64 0, .int .i64 1, .slice a1 1 1, .int .i64 1, .int .i64 1, .int .i64 0, .int .i64 0, .int .i64 0, .string ⟨#[107]⟩, .int .i64 0, .int .i64 0] 27)).alloc (.cells #[.int .i64 7, .int .i64 2] 3)).alloc (.cells #[.int .i64 3, .int .i64 1, .int .i64 3, .slice (some ⟨w1.heap.size + 1, 0, none⟩) 2 2, .int .i64 2, .int .i64 2, .int .i64 0, .int .i64 0, .int .i64 0, .string ⟨#[]⟩, .int .i64 3, .int .i64 (-1)] 27) = W2 at *
  generalize w1.heap.size + 1 + 1 = gs at *
  generalize w1.heap.size + 1 = gr at *
  generalize w1.heap.size = gm at *
  have HN := Lib.hid (fun W => num15_any 0 W)
  have HN1 := Lib.hid (fun W => num15_any 1 W)
  refine (check_is 1 0 1 a1 [0] 1 1 1 1 0 0 0 ⟨#[107]⟩ 0 0 W2 HM0.out.tab HM0.out.rm rfl (by decide) 0 (by rw [ok0]; rfl)).mono ?_
  rintro e w3 ⟨rfl, hb3⟩
  have HM3 := Lib.hid (HM0.out.next hb3)
  clear hb3
  obtain ⟨s0, s1, s2, s3, s4, s5, s6, s7, s8, s9, s10, s11⟩ := HM3.out.s
  go_wp2_with fail
  refine (HN.out _).mono ?_
  rintro e w3' ⟨rfl, rfl⟩
  go_wp2_with fail
  refine (check_is 3 1 3 (some ⟨gr, 0, none⟩) [7, 2] 2 2 2 2 0 0 0 ⟨#[]⟩ 3 (-1) w3 HM3.out.tab HM3.out.rs rfl (by decide) 0 (by rw [okS]; rfl)).mono ?_
  rintro e w4 ⟨rfl, hb4⟩
  have HM4 := Lib.hid (HM3.out.next hb4)
  clear hb4 s0 s1 s2 s3 s4 s5 s6 s7 s8 s9 s10 s11 HM3 HM0
  go_wp2_with fail
  refine (HN.out _).mono ?_
  rintro e w4' ⟨rfl, rfl⟩
  go_wp2
  go_loopg [5] 12 (fun g1 v wr => ∃ i : Nat, v = .int .i64 i ∧ i ≤ 12 ∧ 12 - i ≤ g1 ∧ Hid (WM w wr gm gs gr a1))
  case atStart => exact ⟨0, rfl, by omega, by omega, HM4.out⟩
  case round =>
    clear HM4
    obtain ⟨i, rfl, hi12, hg1, HM⟩ := hrel
    by_cases hi : i < 12
    · have hiz : decide ((i : Int) < 12) = true := decide_eq_true (by omega)
      have hiy : (i : Int) < 12 := by omega
      go_wp2_with fail
      refine reg8_law gm gs gr a1 _ _ _ _ _ _ _ _ _ _ _ _ _ _ _ _ _ _ _ _ _ _ _ _ _ _ _ _ _ _ _ _ _ _ _ _ _ _ _ _ _ _ _ _ _ _ _ _ _ _ _ _ _ _ _ _ _ _ _ _ _ _ _ _ _ _ _ _ _ _ _ _ _ _ _ _ _ _ _ _ _ _ _ _ _ _ _ _ _ _ _ _ _ _ _ _ _ _ _ _ _ _ _ _ _ _ _ _ _ _ HM.out.m HM.out.s HM.out.rm HM.out.rs ?_
      intro g6 g7 d d' u27 u28 u29 u30 w5 hb5 hg6 hg7 hne hB6 hB7 ho1 ho3 ht6 ht7
      obtain ⟨a4, n4, c4, rfl, hn4, hr4, hc4⟩ := ho1.form'
      obtain rfl : n4 = 1 := hn4
      obtain ⟨a5, n5, c5, rfl, hn5, hr5, hc5⟩ := ho3.form'
      obtain rfl : n5 = 2 := hn5
      have HB5 := Lib.hid hb5
      have HB6 := Lib.hid hB6
      have HB7 := Lib.hid hB7
      have HO1 := Lib.hid ho1
      have HO3 := Lib.hid ho3
      have HT6 := Lib.hid ht6
      have HT7 := Lib.hid ht7
      have hne' : g7 ≠ g6 := Ne.symm hne
      have HG6 := Lib.hid hg6
      have HG7 := Lib.hid hg7
      clear hb5 hB6 hB7 ho1 ho3 ht6 ht7 hr4 hc4 hr5 hc5 hg6 hg7 hiz hiy
      have hcases : i = 0 ∨ i = 1 ∨ i = 2 ∨ i = 3 ∨ i = 4 ∨ i = 5 ∨ i = 6 ∨ i = 7 ∨ i = 8 ∨ i = 9 ∨ i = 10 ∨ i = 11 := by omega
      clear hi hi12
      rcases hcases with rfl | rfl | rfl | rfl | rfl | rfl | rfl | rfl | rfl | rfl | rfl | rfl
      · have lt6 := HT6.out.lt
        have lt7 := HT7.out.lt
        have z0 := HB6.out.cell 0 _ rfl
        have f0 := HB6.out.free 0 _ rfl
        have y0 := HB7.out.cell 0 _ rfl
        have e0 := HB7.out.free 0 _ rfl
        have z1 := HB6.out.cell 1 _ rfl
        have f1 := HB6.out.free 1 _ rfl
        have y1 := HB7.out.cell 1 _ rfl
        have e1 := HB7.out.free 1 _ rfl
        have z2 := HB6.out.cell 2 _ rfl
        have f2 := HB6.out.free 2 _ rfl
        have y2 := HB7.out.cell 2 _ rfl
        have e2 := HB7.out.free 2 _ rfl
        have z3 := HB6.out.cell 3 _ rfl
        have f3 := HB6.out.free 3 _ rfl
        have y3 := HB7.out.cell 3 _ rfl
        have e3 := HB7.out.free 3 _ rfl
        have z4 := HB6.out.cell 4 _ rfl
        have f4 := HB6.out.free 4 _ rfl
        have y4 := HB7.out.cell 4 _ rfl
        have e4 := HB7.out.free 4 _ rfl
        have z5 := HB6.out.cell 5 _ rfl
        have f5 := HB6.out.free 5 _ rfl
        have y5 := HB7.out.cell 5 _ rfl
        have e5 := HB7.out.free 5 _ rfl
        have z6 := HB6.out.cell 6 _ rfl
        have f6 := HB6.out.free 6 _ rfl
        have y6 := HB7.out.cell 6 _ rfl
        have e6 := HB7.out.free 6 _ rfl
        have z7 := HB6.out.cell 7 _ rfl
        have f7 := HB6.out.free 7 _ rfl
        have y7 := HB7.out.cell 7 _ rfl
        have e7 := HB7.out.free 7 _ rfl
        have z8 := HB6.out.cell 8 _ rfl
        have f8 := HB6.out.free 8 _ rfl
        have y8 := HB7.out.cell 8 _ rfl
        have e8 := HB7.out.free 8 _ rfl
        have z9 := HB6.out.cell 9 _ rfl
        have f9 := HB6.out.free 9 _ rfl
        have y9 := HB7.out.cell 9 _ rfl
        have e9 := HB7.out.free 9 _ rfl
        have z10 := HB6.out.cell 10 _ rfl
        have f10 := HB6.out.free 10 _ rfl
        have y10 := HB7.out.cell 10 _ rfl
        have e10 := HB7.out.free 10 _ rfl
        have z11 := HB6.out.cell 11 _ rfl
        have f11 := HB6.out.free 11 _ rfl
        have y11 := HB7.out.cell 11 _ rfl
        have e11 := HB7.out.free 11 _ rfl
        have HBa : Hid (Blk ((w5.setCell ⟨g6, 10, none⟩ (.int .i64 1)).setCell ⟨g7, 9, none⟩ (.string ⟨#[107]⟩)) g6 [.int .i64 1, .int .i64 0, .int .i64 1, .slice a4 1 c4, .int .i64 1, .int .i64 1, .int .i64 0, .int .i64 0, .int .i64 0, .string ⟨#[107]⟩, .int .i64 1, .int .i64 0]) := Lib.hid ((HB6.out.set 10 _).other hne' _ _)
        have HBb : Hid (Blk ((w5.setCell ⟨g6, 10, none⟩ (.int .i64 1)).setCell ⟨g7, 9, none⟩ (.string ⟨#[107]⟩)) g7 [.int .i64 3, .int .i64 1, .int .i64 3, .slice a5 2 c5, .int .i64 2, .int .i64 2, .int .i64 0, .int .i64 0, .int .i64 0, .string ⟨#[107]⟩, .int .i64 3, .int .i64 (-1)]) := Lib.hid ((HB7.out.other hne _ _).set 9 _)
        have HOa : Hid (OwnK .i64 3 ((w5.setCell ⟨g6, 10, none⟩ (.int .i64 1)).setCell ⟨g7, 9, none⟩ (.string ⟨#[107]⟩)) wr.heap.size (.slice a4 1 c4) [0]) := Lib.hid ((HO1.out.grown (grown_setCell _ ⟨g6, 10, none⟩ (.int .i64 1)) ((HT6.out).apart HO1.out)).grown (grown_setCell _ ⟨g7, 9, none⟩ (.string ⟨#[107]⟩)) (((HT7.out.set _ _ _)).apart (HO1.out.grown (grown_setCell _ ⟨g6, 10, none⟩ (.int .i64 1)) ((HT6.out).apart HO1.out))))
        have HOb : Hid (OwnK .i64 3 ((w5.setCell ⟨g6, 10, none⟩ (.int .i64 1)).setCell ⟨g7, 9, none⟩ (.string ⟨#[107]⟩)) wr.heap.size (.slice a5 2 c5) [7, 2]) := Lib.hid ((HO3.out.grown (grown_setCell _ ⟨g6, 10, none⟩ (.int .i64 1)) ((HT6.out).apart HO3.out)).grown (grown_setCell _ ⟨g7, 9, none⟩ (.string ⟨#[107]⟩)) (((HT7.out.set _ _ _)).apart (HO3.out.grown (grown_setCell _ ⟨g6, 10, none⟩ (.int .i64 1)) ((HT6.out).apart HO3.out))))
        have HBL : Hid (Below wr.heap.size wr ((w5.setCell ⟨g6, 10, none⟩ (.int .i64 1)).setCell ⟨g7, 9, none⟩ (.string ⟨#[107]⟩))) := Lib.hid ((HB5.out.setCell (p := ⟨g6, 10, none⟩) HG6.out (.int .i64 1)).setCell (p := ⟨g7, 9, none⟩) HG7.out (.string ⟨#[107]⟩))
        have HMx := Lib.hid (HM.out.next HBL.out)
        have CA := Lib.hid (fun W hT hR => check_is 1 0 1 a4 [0] 1 c4 1 1 0 0 0 ⟨#[107]⟩ 1 0 W hT hR rfl (by decide) 1 (by rw [show opB 1 0 1 [0] 1 1 0 0 0 ⟨#[107]⟩ 1 0 = false by decide]; rfl))
        have CB := Lib.hid (fun W hT hR => check_is 3 1 3 a5 [7, 2] 2 c5 2 2 0 0 0 ⟨#[107]⟩ 3 (-1) W hT hR rfl (by decide) 1 (by rw [show opB 3 1 3 [7, 2] 2 2 0 0 0 ⟨#[107]⟩ 3 (-1) = false by decide]; rfl))
        clear HB6 HB7 HO1 HO3 HT6 HT7 HB5 HM
        go_wp2_with fail
        clear z0 f0 y0 e0 z1 f1 y1 e1 z2 f2 y2 e2 z3 f3 y3 e3 z4 f4 y4 e4 z5 f5 y5 e5 z6 f6 y6 e6 z7 f7 y7 e7 z8 f8 y8 e8 z9 f9 y9 e9 z10 f10 y10 e10 z11 f11 y11 e11
        generalize ((w5.setCell ⟨g6, 10, none⟩ (.int .i64 1)).setCell ⟨g7, 9, none⟩ (.string ⟨#[107]⟩)) = w6 at *
        refine (CA.out w6 HMx.out.tab (RowK.ofOwn HOa.out).1).mono ?_
        rintro e w7 ⟨rfl, hb7⟩
        have HM7 := Lib.hid (HMx.out.next hb7)
        have HBb7 := Lib.hid (HBb.out.next hb7)
        have HOb7 := Lib.hid (HOb.out.below hb7)
        have y0 := HBb7.out.cell 0 _ rfl
        have y1 := HBb7.out.cell 1 _ rfl
        have y2 := HBb7.out.cell 2 _ rfl
        have y3 := HBb7.out.cell 3 _ rfl
        have y4 := HBb7.out.cell 4 _ rfl
        have y5 := HBb7.out.cell 5 _ rfl
        have y6 := HBb7.out.cell 6 _ rfl
        have y7 := HBb7.out.cell 7 _ rfl
        have y8 := HBb7.out.cell 8 _ rfl
        have y9 := HBb7.out.cell 9 _ rfl
        have y10 := HBb7.out.cell 10 _ rfl
        have y11 := HBb7.out.cell 11 _ rfl
        go_wp2_with fail
        refine (HN1.out _).mono ?_
        rintro e w7' ⟨rfl, rfl⟩
        go_wp2_with fail
        refine (CB.out w7 HM7.out.tab (RowK.ofOwn HOb7.out).1).mono ?_
        rintro e w8 ⟨rfl, hb8⟩
        have HM8 := Lib.hid (HM7.out.next hb8)
        clear hb8 hb7
        go_wp2_with fail
        refine (HN1.out _).mono ?_
        rintro e w8' ⟨rfl, rfl⟩
        go_wp2
        go_roundg (12 - (0 + 1))
        case measure => omega
        case rel => exact ⟨0 + 1, by go_num, by omega, by omega, HM8.out⟩
      · have lt6 := HT6.out.lt
        have lt7 := HT7.out.lt
        have z0 := HB6.out.cell 0 _ rfl
        have f0 := HB6.out.free 0 _ rfl
        have y0 := HB7.out.cell 0 _ rfl
        have e0 := HB7.out.free 0 _ rfl
        have z1 := HB6.out.cell 1 _ rfl
        have f1 := HB6.out.free 1 _ rfl
        have y1 := HB7.out.cell 1 _ rfl
        have e1 := HB7.out.free 1 _ rfl
        have z2 := HB6.out.cell 2 _ rfl
        have f2 := HB6.out.free 2 _ rfl
        have y2 := HB7.out.cell 2 _ rfl
        have e2 := HB7.out.free 2 _ rfl
        have z3 := HB6.out.cell 3 _ rfl
        have f3 := HB6.out.free 3 _ rfl
        have y3 := HB7.out.cell 3 _ rfl
        have e3 := HB7.out.free 3 _ rfl
        have z4 := HB6.out.cell 4 _ rfl
        have f4 := HB6.out.free 4 _ rfl
        have y4 := HB7.out.cell 4 _ rfl
        have e4 := HB7.out.free 4 _ rfl
        have z5 := HB6.out.cell 5 _ rfl
        have f5 := HB6.out.free 5 _ rfl
        have y5 := HB7.out.cell 5 _ rfl
        have e5 := HB7.out.free 5 _ rfl
        have z6 := HB6.out.cell 6 _ rfl
        have f6 := HB6.out.free 6 _ rfl
        have y6 := HB7.out.cell 6 _ rfl
        have e6 := HB7.out.free 6 _ rfl
        have z7 := HB6.out.cell 7 _ rfl
        have f7 := HB6.out.free 7 _ rfl
        have y7 := HB7.out.cell 7 _ rfl
        have e7 := HB7.out.free 7 _ rfl
        have z8 := HB6.out.cell 8 _ rfl
        have f8 := HB6.out.free 8 _ rfl
        have y8 := HB7.out.cell 8 _ rfl
        have e8 := HB7.out.free 8 _ rfl
        have z9 := HB6.out.cell 9 _ rfl
        have f9 := HB6.out.free 9 _ rfl
        have y9 := HB7.out.cell 9 _ rfl
        have e9 := HB7.out.free 9 _ rfl
        have z10 := HB6.out.cell 10 _ rfl
        have f10 := HB6.out.free 10 _ rfl
        have y10 := HB7.out.cell 10 _ rfl
        have e10 := HB7.out.free 10 _ rfl
        have z11 := HB6.out.cell 11 _ rfl
        have f11 := HB6.out.free 11 _ rfl
        have y11 := HB7.out.cell 11 _ rfl
        have e11 := HB7.out.free 11 _ rfl
        have HBa : Hid (Blk (((w5.setCell ⟨g6, 11, none⟩ (.int .i64 1)).setCell ⟨g7, 7, none⟩ (.int .i64 1)).setCell ⟨g7, 8, none⟩ (.int .i64 0)) g6 [.int .i64 1, .int .i64 0, .int .i64 1, .slice a4 1 c4, .int .i64 1, .int .i64 1, .int .i64 0, .int .i64 0, .int .i64 0, .string ⟨#[107]⟩, .int .i64 0, .int .i64 1]) := Lib.hid (((HB6.out.set 11 _).other hne' _ _).other hne' _ _)
        have HBb : Hid (Blk (((w5.setCell ⟨g6, 11, none⟩ (.int .i64 1)).setCell ⟨g7, 7, none⟩ (.int .i64 1)).setCell ⟨g7, 8, none⟩ (.int .i64 0)) g7 [.int .i64 3, .int .i64 1, .int .i64 3, .slice a5 2 c5, .int .i64 2, .int .i64 2, .int .i64 0, .int .i64 1, .int .i64 0, .string ⟨#[]⟩, .int .i64 3, .int .i64 (-1)]) := Lib.hid (((HB7.out.other hne _ _).set 7 _).set 8 _)
        have HOa : Hid (OwnK .i64 3 (((w5.setCell ⟨g6, 11, none⟩ (.int .i64 1)).setCell ⟨g7, 7, none⟩ (.int .i64 1)).setCell ⟨g7, 8, none⟩ (.int .i64 0)) wr.heap.size (.slice a4 1 c4) [0]) := Lib.hid (((HO1.out.grown (grown_setCell _ ⟨g6, 11, none⟩ (.int .i64 1)) ((HT6.out).apart HO1.out)).grown (grown_setCell _ ⟨g7, 7, none⟩ (.int .i64 1)) (((HT7.out.set _ _ _)).apart (HO1.out.grown (grown_setCell _ ⟨g6, 11, none⟩ (.int .i64 1)) ((HT6.out).apart HO1.out)))).grown (grown_setCell _ ⟨g7, 8, none⟩ (.int .i64 0)) ((((HT7.out.set _ _ _).set _ _ _)).apart ((HO1.out.grown (grown_setCell _ ⟨g6, 11, none⟩ (.int .i64 1)) ((HT6.out).apart HO1.out)).grown (grown_setCell _ ⟨g7, 7, none⟩ (.int .i64 1)) (((HT7.out.set _ _ _)).apart (HO1.out.grown (grown_setCell _ ⟨g6, 11, none⟩ (.int .i64 1)) ((HT6.out).apart HO1.out))))))
        have HOb : Hid (OwnK .i64 3 (((w5.setCell ⟨g6, 11, none⟩ (.int .i64 1)).setCell ⟨g7, 7, none⟩ (.int .i64 1)).setCell ⟨g7, 8, none⟩ (.int .i64 0)) wr.heap.size (.slice a5 2 c5) [7, 2]) := Lib.hid (((HO3.out.grown (grown_setCell _ ⟨g6, 11, none⟩ (.int .i64 1)) ((HT6.out).apart HO3.out)).grown (grown_setCell _ ⟨g7, 7, none⟩ (.int .i64 1)) (((HT7.out.set _ _ _)).apart (HO3.out.grown (grown_setCell _ ⟨g6, 11, none⟩ (.int .i64 1)) ((HT6.out).apart HO3.out)))).grown (grown_setCell _ ⟨g7, 8, none⟩ (.int .i64 0)) ((((HT7.out.set _ _ _).set _ _ _)).apart ((HO3.out.grown (grown_setCell _ ⟨g6, 11, none⟩ (.int .i64 1)) ((HT6.out).apart HO3.out)).grown (grown_setCell _ ⟨g7, 7, none⟩ (.int .i64 1)) (((HT7.out.set _ _ _)).apart (HO3.out.grown (grown_setCell _ ⟨g6, 11, none⟩ (.int .i64 1)) ((HT6.out).apart HO3.out))))))
        have HBL : Hid (Below wr.heap.size wr (((w5.setCell ⟨g6, 11, none⟩ (.int .i64 1)).setCell ⟨g7, 7, none⟩ (.int .i64 1)).setCell ⟨g7, 8, none⟩ (.int .i64 0))) := Lib.hid (((HB5.out.setCell (p := ⟨g6, 11, none⟩) HG6.out (.int .i64 1)).setCell (p := ⟨g7, 7, none⟩) HG7.out (.int .i64 1)).setCell (p := ⟨g7, 8, none⟩) HG7.out (.int .i64 0))
        have HMx := Lib.hid (HM.out.next HBL.out)
        have CA := Lib.hid (fun W hT hR => check_is 1 0 1 a4 [0] 1 c4 1 1 0 0 0 ⟨#[107]⟩ 0 1 W hT hR rfl (by decide) 1 (by rw [show opB 1 0 1 [0] 1 1 0 0 0 ⟨#[107]⟩ 0 1 = false by decide]; rfl))
        have CB := Lib.hid (fun W hT hR => check_is 3 1 3 a5 [7, 2] 2 c5 2 2 0 1 0 ⟨#[]⟩ 3 (-1) W hT hR rfl (by decide) 1 (by rw [show opB 3 1 3 [7, 2] 2 2 0 1 0 ⟨#[]⟩ 3 (-1) = false by decide]; rfl))
        clear HB6 HB7 HO1 HO3 HT6 HT7 HB5 HM
        go_wp2_with fail
        clear z0 f0 y0 e0 z1 f1 y1 e1 z2 f2 y2 e2 z3 f3 y3 e3 z4 f4 y4 e4 z5 f5 y5 e5 z6 f6 y6 e6 z7 f7 y7 e7 z8 f8 y8 e8 z9 f9 y9 e9 z10 f10 y10 e10 z11 f11 y11 e11
        generalize (((w5.setCell ⟨g6, 11, none⟩ (.int .i64 1)).setCell ⟨g7, 7, none⟩ (.int .i64 1)).setCell ⟨g7, 8, none⟩ (.int .i64 0)) = w6 at *
        refine (CA.out w6 HMx.out.tab (RowK.ofOwn HOa.out).1).mono ?_
        rintro e w7 ⟨rfl, hb7⟩
        have HM7 := Lib.hid (HMx.out.next hb7)
        have HBb7 := Lib.hid (HBb.out.next hb7)
        have HOb7 := Lib.hid (HOb.out.below hb7)
        have y0 := HBb7.out.cell 0 _ rfl
        have y1 := HBb7.out.cell 1 _ rfl
        have y2 := HBb7.out.cell 2 _ rfl
        have y3 := HBb7.out.cell 3 _ rfl
        have y4 := HBb7.out.cell 4 _ rfl
        have y5 := HBb7.out.cell 5 _ rfl
        have y6 := HBb7.out.cell 6 _ rfl
        have y7 := HBb7.out.cell 7 _ rfl
        have y8 := HBb7.out.cell 8 _ rfl
        have y9 := HBb7.out.cell 9 _ rfl
        have y10 := HBb7.out.cell 10 _ rfl
        have y11 := HBb7.out.cell 11 _ rfl
        go_wp2_with fail
        refine (HN1.out _).mono ?_
        rintro e w7' ⟨rfl, rfl⟩
        go_wp2_with fail
        refine (CB.out w7 HM7.out.tab (RowK.ofOwn HOb7.out).1).mono ?_
        rintro e w8 ⟨rfl, hb8⟩
        have HM8 := Lib.hid (HM7.out.next hb8)
        clear hb8 hb7
        go_wp2_with fail
        refine (HN1.out _).mono ?_
        rintro e w8' ⟨rfl, rfl⟩
        go_wp2
        go_roundg (12 - (1 + 1))
        case measure => omega
        case rel => exact ⟨1 + 1, by go_num, by omega, by omega, HM8.out⟩
      · have lt6 := HT6.out.lt
        have lt7 := HT7.out.lt
        have z0 := HB6.out.cell 0 _ rfl
        have f0 := HB6.out.free 0 _ rfl
        have y0 := HB7.out.cell 0 _ rfl
        have e0 := HB7.out.free 0 _ rfl
        have z1 := HB6.out.cell 1 _ rfl
        have f1 := HB6.out.free 1 _ rfl
        have y1 := HB7.out.cell 1 _ rfl
        have e1 := HB7.out.free 1 _ rfl
        have z2 := HB6.out.cell 2 _ rfl
        have f2 := HB6.out.free 2 _ rfl
        have y2 := HB7.out.cell 2 _ rfl
        have e2 := HB7.out.free 2 _ rfl
        have z3 := HB6.out.cell 3 _ rfl
        have f3 := HB6.out.free 3 _ rfl
        have y3 := HB7.out.cell 3 _ rfl
        have e3 := HB7.out.free 3 _ rfl
        have z4 := HB6.out.cell 4 _ rfl
        have f4 := HB6.out.free 4 _ rfl
        have y4 := HB7.out.cell 4 _ rfl
        have e4 := HB7.out.free 4 _ rfl
        have z5 := HB6.out.cell 5 _ rfl
        have f5 := HB6.out.free 5 _ rfl
        have y5 := HB7.out.cell 5 _ rfl
        have e5 := HB7.out.free 5 _ rfl
        have z6 := HB6.out.cell 6 _ rfl
        have f6 := HB6.out.free 6 _ rfl
        have y6 := HB7.out.cell 6 _ rfl
        have e6 := HB7.out.free 6 _ rfl
        have z7 := HB6.out.cell 7 _ rfl
        have f7 := HB6.out.free 7 _ rfl
        have y7 := HB7.out.cell 7 _ rfl
        have e7 := HB7.out.free 7 _ rfl
        have z8 := HB6.out.cell 8 _ rfl
        have f8 := HB6.out.free 8 _ rfl
        have y8 := HB7.out.cell 8 _ rfl
        have e8 := HB7.out.free 8 _ rfl
        have z9 := HB6.out.cell 9 _ rfl
        have f9 := HB6.out.free 9 _ rfl
        have y9 := HB7.out.cell 9 _ rfl
        have e9 := HB7.out.free 9 _ rfl
        have z10 := HB6.out.cell 10 _ rfl
        have f10 := HB6.out.free 10 _ rfl
        have y10 := HB7.out.cell 10 _ rfl
        have e10 := HB7.out.free 10 _ rfl
        have z11 := HB6.out.cell 11 _ rfl
        have f11 := HB6.out.free 11 _ rfl
        have y11 := HB7.out.cell 11 _ rfl
        have e11 := HB7.out.free 11 _ rfl
        have HBa : Hid (Blk ((w5.setCell ⟨g6, 2, none⟩ (.int .i64 2)).setCell ⟨g7, 2, none⟩ (.int .i64 2)) g6 [.int .i64 1, .int .i64 0, .int .i64 2, .slice a4 1 c4, .int .i64 1, .int .i64 1, .int .i64 0, .int .i64 0, .int .i64 0, .string ⟨#[107]⟩, .int .i64 0, .int .i64 0]) := Lib.hid ((HB6.out.set 2 _).other hne' _ _)
        have HBb : Hid (Blk ((w5.setCell ⟨g6, 2, none⟩ (.int .i64 2)).setCell ⟨g7, 2, none⟩ (.int .i64 2)) g7 [.int .i64 3, .int .i64 1, .int .i64 2, .slice a5 2 c5, .int .i64 2, .int .i64 2, .int .i64 0, .int .i64 0, .int .i64 0, .string ⟨#[]⟩, .int .i64 3, .int .i64 (-1)]) := Lib.hid ((HB7.out.other hne _ _).set 2 _)
        have HOa : Hid (OwnK .i64 3 ((w5.setCell ⟨g6, 2, none⟩ (.int .i64 2)).setCell ⟨g7, 2, none⟩ (.int .i64 2)) wr.heap.size (.slice a4 1 c4) [0]) := Lib.hid ((HO1.out.grown (grown_setCell _ ⟨g6, 2, none⟩ (.int .i64 2)) ((HT6.out).apart HO1.out)).grown (grown_setCell _ ⟨g7, 2, none⟩ (.int .i64 2)) (((HT7.out.set _ _ _)).apart (HO1.out.grown (grown_setCell _ ⟨g6, 2, none⟩ (.int .i64 2)) ((HT6.out).apart HO1.out))))
        have HOb : Hid (OwnK .i64 3 ((w5.setCell ⟨g6, 2, none⟩ (.int .i64 2)).setCell ⟨g7, 2, none⟩ (.int .i64 2)) wr.heap.size (.slice a5 2 c5) [7, 2]) := Lib.hid ((HO3.out.grown (grown_setCell _ ⟨g6, 2, none⟩ (.int .i64 2)) ((HT6.out).apart HO3.out)).grown (grown_setCell _ ⟨g7, 2, none⟩ (.int .i64 2)) (((HT7.out.set _ _ _)).apart (HO3.out.grown (grown_setCell _ ⟨g6, 2, none⟩ (.int .i64 2)) ((HT6.out).apart HO3.out))))
        have HBL : Hid (Below wr.heap.size wr ((w5.setCell ⟨g6, 2, none⟩ (.int .i64 2)).setCell ⟨g7, 2, none⟩ (.int .i64 2))) := Lib.hid ((HB5.out.setCell (p := ⟨g6, 2, none⟩) HG6.out (.int .i64 2)).setCell (p := ⟨g7, 2, none⟩) HG7.out (.int .i64 2))
        have HMx := Lib.hid (HM.out.next HBL.out)
        have CA := Lib.hid (fun W hT hR => check_is 1 0 2 a4 [0] 1 c4 1 1 0 0 0 ⟨#[107]⟩ 0 0 W hT hR rfl (by decide) 1 (by rw [show opB 1 0 2 [0] 1 1 0 0 0 ⟨#[107]⟩ 0 0 = false by decide]; rfl))
        have CB := Lib.hid (fun W hT hR => check_is 3 1 2 a5 [7, 2] 2 c5 2 2 0 0 0 ⟨#[]⟩ 3 (-1) W hT hR rfl (by decide) 1 (by rw [show opB 3 1 2 [7, 2] 2 2 0 0 0 ⟨#[]⟩ 3 (-1) = false by decide]; rfl))
        clear HB6 HB7 HO1 HO3 HT6 HT7 HB5 HM
        go_wp2_with fail
        clear z0 f0 y0 e0 z1 f1 y1 e1 z2 f2 y2 e2 z3 f3 y3 e3 z4 f4 y4 e4 z5 f5 y5 e5 z6 f6 y6 e6 z7 f7 y7 e7 z8 f8 y8 e8 z9 f9 y9 e9 z10 f10 y10 e10 z11 f11 y11 e11
        generalize ((w5.setCell ⟨g6, 2, none⟩ (.int .i64 2)).setCell ⟨g7, 2, none⟩ (.int .i64 2)) = w6 at *
        refine (CA.out w6 HMx.out.tab (RowK.ofOwn HOa.out).1).mono ?_
        rintro e w7 ⟨rfl, hb7⟩
        have HM7 := Lib.hid (HMx.out.next hb7)
        have HBb7 := Lib.hid (HBb.out.next hb7)
        have HOb7 := Lib.hid (HOb.out.below hb7)
        have y0 := HBb7.out.cell 0 _ rfl
        have y1 := HBb7.out.cell 1 _ rfl
        have y2 := HBb7.out.cell 2 _ rfl
        have y3 := HBb7.out.cell 3 _ rfl
        have y4 := HBb7.out.cell 4 _ rfl
        have y5 := HBb7.out.cell 5 _ rfl
        have y6 := HBb7.out.cell 6 _ rfl
        have y7 := HBb7.out.cell 7 _ rfl
        have y8 := HBb7.out.cell 8 _ rfl
        have y9 := HBb7.out.cell 9 _ rfl
        have y10 := HBb7.out.cell 10 _ rfl
        have y11 := HBb7.out.cell 11 _ rfl
        go_wp2_with fail
        refine (HN1.out _).mono ?_
        rintro e w7' ⟨rfl, rfl⟩
        go_wp2_with fail
        refine (CB.out w7 HM7.out.tab (RowK.ofOwn HOb7.out).1).mono ?_
        rintro e w8 ⟨rfl, hb8⟩
        have HM8 := Lib.hid (HM7.out.next hb8)
        clear hb8 hb7
        go_wp2_with fail
        refine (HN1.out _).mono ?_
        rintro e w8' ⟨rfl, rfl⟩
        go_wp2
        go_roundg (12 - (2 + 1))
        case measure => omega
        case rel => exact ⟨2 + 1, by go_num, by omega, by omega, HM8.out⟩
      · have lt6 := HT6.out.lt
        have lt7 := HT7.out.lt
        have z0 := HB6.out.cell 0 _ rfl
        have f0 := HB6.out.free 0 _ rfl
        have y0 := HB7.out.cell 0 _ rfl
        have e0 := HB7.out.free 0 _ rfl
        have z1 := HB6.out.cell 1 _ rfl
        have f1 := HB6.out.free 1 _ rfl
        have y1 := HB7.out.cell 1 _ rfl
        have e1 := HB7.out.free 1 _ rfl
        have z2 := HB6.out.cell 2 _ rfl
        have f2 := HB6.out.free 2 _ rfl
        have y2 := HB7.out.cell 2 _ rfl
        have e2 := HB7.out.free 2 _ rfl
        have z3 := HB6.out.cell 3 _ rfl
        have f3 := HB6.out.free 3 _ rfl
        have y3 := HB7.out.cell 3 _ rfl
        have e3 := HB7.out.free 3 _ rfl
        have z4 := HB6.out.cell 4 _ rfl
        have f4 := HB6.out.free 4 _ rfl
        have y4 := HB7.out.cell 4 _ rfl
        have e4 := HB7.out.free 4 _ rfl
        have z5 := HB6.out.cell 5 _ rfl
        have f5 := HB6.out.free 5 _ rfl
        have y5 := HB7.out.cell 5 _ rfl
        have e5 := HB7.out.free 5 _ rfl
        have z6 := HB6.out.cell 6 _ rfl
        have f6 := HB6.out.free 6 _ rfl
        have y6 := HB7.out.cell 6 _ rfl
        have e6 := HB7.out.free 6 _ rfl
        have z7 := HB6.out.cell 7 _ rfl
        have f7 := HB6.out.free 7 _ rfl
        have y7 := HB7.out.cell 7 _ rfl
        have e7 := HB7.out.free 7 _ rfl
        have z8 := HB6.out.cell 8 _ rfl
        have f8 := HB6.out.free 8 _ rfl
        have y8 := HB7.out.cell 8 _ rfl
        have e8 := HB7.out.free 8 _ rfl
        have z9 := HB6.out.cell 9 _ rfl
        have f9 := HB6.out.free 9 _ rfl
        have y9 := HB7.out.cell 9 _ rfl
        have e9 := HB7.out.free 9 _ rfl
        have z10 := HB6.out.cell 10 _ rfl
        have f10 := HB6.out.free 10 _ rfl
        have y10 := HB7.out.cell 10 _ rfl
        have e10 := HB7.out.free 10 _ rfl
        have z11 := HB6.out.cell 11 _ rfl
        have f11 := HB6.out.free 11 _ rfl
        have y11 := HB7.out.cell 11 _ rfl
        have e11 := HB7.out.free 11 _ rfl
        have HBa : Hid (Blk (((w5.setCell ⟨g6, 3, none⟩ (.slice none 0 0)).setCell ⟨g7, 3, none⟩ (.slice (some ⟨w5.heap.size, 0, none⟩) 1 1)).alloc (.cells #[.int .i64 7] 3)) g6 [.int .i64 1, .int .i64 0, .int .i64 1, .slice none 0 0, .int .i64 1, .int .i64 1, .int .i64 0, .int .i64 0, .int .i64 0, .string ⟨#[107]⟩, .int .i64 0, .int .i64 0]) := Lib.hid (((HB6.out.set 3 _).other hne' _ _).next (box_bel _ (.cells #[.int .i64 7] 3)))
        have HBb : Hid (Blk (((w5.setCell ⟨g6, 3, none⟩ (.slice none 0 0)).setCell ⟨g7, 3, none⟩ (.slice (some ⟨w5.heap.size, 0, none⟩) 1 1)).alloc (.cells #[.int .i64 7] 3)) g7 [.int .i64 3, .int .i64 1, .int .i64 3, .slice (some ⟨w5.heap.size, 0, none⟩) 1 1, .int .i64 2, .int .i64 2, .int .i64 0, .int .i64 0, .int .i64 0, .string ⟨#[]⟩, .int .i64 3, .int .i64 (-1)]) := Lib.hid (((HB7.out.other hne _ _).set 3 _).next (box_bel _ (.cells #[.int .i64 7] 3)))
        have HOb : Hid (OwnK .i64 3 (((w5.setCell ⟨g6, 3, none⟩ (.slice none 0 0)).setCell ⟨g7, 3, none⟩ (.slice (some ⟨w5.heap.size, 0, none⟩) 1 1)).alloc (.cells #[.int .i64 7] 3)) w5.heap.size (.slice (some ⟨w5.heap.size, 0, none⟩) 1 1) [7]) := by
          have hq := (own_new ((w5.setCell ⟨g6, 3, none⟩ (.slice none 0 0)).setCell ⟨g7, 3, none⟩ (.slice (some ⟨w5.heap.size, 0, none⟩) 1 1)) [7] 1 rfl (by decide))
          simp only [World.size_alloc, World.size_setCell] at hq
          exact Lib.hid (hq.mono (by omega))
        have HBL : Hid (Below wr.heap.size wr (((w5.setCell ⟨g6, 3, none⟩ (.slice none 0 0)).setCell ⟨g7, 3, none⟩ (.slice (some ⟨w5.heap.size, 0, none⟩) 1 1)).alloc (.cells #[.int .i64 7] 3))) := Lib.hid (bel_alloc ((HB5.out.setCell (p := ⟨g6, 3, none⟩) HG6.out (.slice none 0 0)).setCell (p := ⟨g7, 3, none⟩) HG7.out (.slice (some ⟨w5.heap.size, 0, none⟩) 1 1)) (Nat.le_refl _) (.cells #[.int .i64 7] 3))
        have HMx := Lib.hid (HM.out.next HBL.out)
        have CA := Lib.hid (fun W hT hR => check_is 1 0 1 none [] 0 0 1 1 0 0 0 ⟨#[107]⟩ 0 0 W hT hR rfl (by decide) 1 (by rw [show opB 1 0 1 [] 1 1 0 0 0 ⟨#[107]⟩ 0 0 = false by decide]; rfl))
        have CB := Lib.hid (fun W hT hR => check_is 3 1 3 (some ⟨w5.heap.size, 0, none⟩) [7] 1 1 2 2 0 0 0 ⟨#[]⟩ 3 (-1) W hT hR rfl (by decide) 1 (by rw [show opB 3 1 3 [7] 2 2 0 0 0 ⟨#[]⟩ 3 (-1) = false by decide]; rfl))
        clear HB6 HB7 HO1 HO3 HT6 HT7 HB5 HM
        go_wp2_with fail
        clear z0 f0 y0 e0 z1 f1 y1 e1 z2 f2 y2 e2 z3 f3 y3 e3 z4 f4 y4 e4 z5 f5 y5 e5 z6 f6 y6 e6 z7 f7 y7 e7 z8 f8 y8 e8 z9 f9 y9 e9 z10 f10 y10 e10 z11 f11 y11 e11
        generalize (((w5.setCell ⟨g6, 3, none⟩ (.slice none 0 0)).setCell ⟨g7, 3, none⟩ (.slice (some ⟨w5.heap.size, 0, none⟩) 1 1)).alloc (.cells #[.int .i64 7] 3)) = w6 at *
        refine (CA.out w6 HMx.out.tab (RowK.nil _ _ _)).mono ?_
        rintro e w7 ⟨rfl, hb7⟩
        have HM7 := Lib.hid (HMx.out.next hb7)
        have HBb7 := Lib.hid (HBb.out.next hb7)
        have HOb7 := Lib.hid (HOb.out.below hb7)
        have y0 := HBb7.out.cell 0 _ rfl
        have y1 := HBb7.out.cell 1 _ rfl
        have y2 := HBb7.out.cell 2 _ rfl
        have y3 := HBb7.out.cell 3 _ rfl
        have y4 := HBb7.out.cell 4 _ rfl
        have y5 := HBb7.out.cell 5 _ rfl
        have y6 := HBb7.out.cell 6 _ rfl
        have y7 := HBb7.out.cell 7 _ rfl
        have y8 := HBb7.out.cell 8 _ rfl
        have y9 := HBb7.out.cell 9 _ rfl
        have y10 := HBb7.out.cell 10 _ rfl
        have y11 := HBb7.out.cell 11 _ rfl
        go_wp2_with fail
        refine (HN1.out _).mono ?_
        rintro e w7' ⟨rfl, rfl⟩
        go_wp2_with fail
        refine (CB.out w7 HM7.out.tab (RowK.ofOwn HOb7.out).1).mono ?_
        rintro e w8 ⟨rfl, hb8⟩
        have HM8 := Lib.hid (HM7.out.next hb8)
        clear hb8 hb7
        go_wp2_with fail
        refine (HN1.out _).mono ?_
        rintro e w8' ⟨rfl, rfl⟩
        go_wp2
        go_roundg (12 - (3 + 1))
        case measure => omega
        case rel => exact ⟨3 + 1, by go_num, by omega, by omega, HM8.out⟩
      · have lt6 := HT6.out.lt
        have lt7 := HT7.out.lt
        have z0 := HB6.out.cell 0 _ rfl
        have f0 := HB6.out.free 0 _ rfl
        have y0 := HB7.out.cell 0 _ rfl
        have e0 := HB7.out.free 0 _ rfl
        have z1 := HB6.out.cell 1 _ rfl
        have f1 := HB6.out.free 1 _ rfl
        have y1 := HB7.out.cell 1 _ rfl
        have e1 := HB7.out.free 1 _ rfl
        have z2 := HB6.out.cell 2 _ rfl
        have f2 := HB6.out.free 2 _ rfl
        have y2 := HB7.out.cell 2 _ rfl
        have e2 := HB7.out.free 2 _ rfl
        have z3 := HB6.out.cell 3 _ rfl
        have f3 := HB6.out.free 3 _ rfl
        have y3 := HB7.out.cell 3 _ rfl
        have e3 := HB7.out.free 3 _ rfl
        have z4 := HB6.out.cell 4 _ rfl
        have f4 := HB6.out.free 4 _ rfl
        have y4 := HB7.out.cell 4 _ rfl
        have e4 := HB7.out.free 4 _ rfl
        have z5 := HB6.out.cell 5 _ rfl
        have f5 := HB6.out.free 5 _ rfl
        have y5 := HB7.out.cell 5 _ rfl
        have e5 := HB7.out.free 5 _ rfl
        have z6 := HB6.out.cell 6 _ rfl
        have f6 := HB6.out.free 6 _ rfl
        have y6 := HB7.out.cell 6 _ rfl
        have e6 := HB7.out.free 6 _ rfl
        have z7 := HB6.out.cell 7 _ rfl
        have f7 := HB6.out.free 7 _ rfl
        have y7 := HB7.out.cell 7 _ rfl
        have e7 := HB7.out.free 7 _ rfl
        have z8 := HB6.out.cell 8 _ rfl
        have f8 := HB6.out.free 8 _ rfl
        have y8 := HB7.out.cell 8 _ rfl
        have e8 := HB7.out.free 8 _ rfl
        have z9 := HB6.out.cell 9 _ rfl
        have f9 := HB6.out.free 9 _ rfl
        have y9 := HB7.out.cell 9 _ rfl
        have e9 := HB7.out.free 9 _ rfl
        have z10 := HB6.out.cell 10 _ rfl
        have f10 := HB6.out.free 10 _ rfl
        have y10 := HB7.out.cell 10 _ rfl
        have e10 := HB7.out.free 10 _ rfl
        have z11 := HB6.out.cell 11 _ rfl
        have f11 := HB6.out.free 11 _ rfl
        have y11 := HB7.out.cell 11 _ rfl
        have e11 := HB7.out.free 11 _ rfl
        have HBa : Hid (Blk ((w5.setCell ⟨g6, 4, none⟩ (.int .i64 0)).setCell ⟨g7, 4, none⟩ (.int .i64 3)) g6 [.int .i64 1, .int .i64 0, .int .i64 1, .slice a4 1 c4, .int .i64 0, .int .i64 1, .int .i64 0, .int .i64 0, .int .i64 0, .string ⟨#[107]⟩, .int .i64 0, .int .i64 0]) := Lib.hid ((HB6.out.set 4 _).other hne' _ _)
        have HBb : Hid (Blk ((w5.setCell ⟨g6, 4, none⟩ (.int .i64 0)).setCell ⟨g7, 4, none⟩ (.int .i64 3)) g7 [.int .i64 3, .int .i64 1, .int .i64 3, .slice a5 2 c5, .int .i64 3, .int .i64 2, .int .i64 0, .int .i64 0, .int .i64 0, .string ⟨#[]⟩, .int .i64 3, .int .i64 (-1)]) := Lib.hid ((HB7.out.other hne _ _).set 4 _)
        have HOa : Hid (OwnK .i64 3 ((w5.setCell ⟨g6, 4, none⟩ (.int .i64 0)).setCell ⟨g7, 4, none⟩ (.int .i64 3)) wr.heap.size (.slice a4 1 c4) [0]) := Lib.hid ((HO1.out.grown (grown_setCell _ ⟨g6, 4, none⟩ (.int .i64 0)) ((HT6.out).apart HO1.out)).grown (grown_setCell _ ⟨g7, 4, none⟩ (.int .i64 3)) (((HT7.out.set _ _ _)).apart (HO1.out.grown (grown_setCell _ ⟨g6, 4, none⟩ (.int .i64 0)) ((HT6.out).apart HO1.out))))
        have HOb : Hid (OwnK .i64 3 ((w5.setCell ⟨g6, 4, none⟩ (.int .i64 0)).setCell ⟨g7, 4, none⟩ (.int .i64 3)) wr.heap.size (.slice a5 2 c5) [7, 2]) := Lib.hid ((HO3.out.grown (grown_setCell _ ⟨g6, 4, none⟩ (.int .i64 0)) ((HT6.out).apart HO3.out)).grown (grown_setCell _ ⟨g7, 4, none⟩ (.int .i64 3)) (((HT7.out.set _ _ _)).apart (HO3.out.grown (grown_setCell _ ⟨g6, 4, none⟩ (.int .i64 0)) ((HT6.out).apart HO3.out))))
        have HBL : Hid (Below wr.heap.size wr ((w5.setCell ⟨g6, 4, none⟩ (.int .i64 0)).setCell ⟨g7, 4, none⟩ (.int .i64 3))) := Lib.hid ((HB5.out.setCell (p := ⟨g6, 4, none⟩) HG6.out (.int .i64 0)).setCell (p := ⟨g7, 4, none⟩) HG7.out (.int .i64 3))
        have HMx := Lib.hid (HM.out.next HBL.out)
        have CA := Lib.hid (fun W hT hR => check_is 1 0 1 a4 [0] 1 c4 0 1 0 0 0 ⟨#[107]⟩ 0 0 W hT hR rfl (by decide) 1 (by rw [show opB 1 0 1 [0] 0 1 0 0 0 ⟨#[107]⟩ 0 0 = false by decide]; rfl))
        have CB := Lib.hid (fun W hT hR => check_is 3 1 3 a5 [7, 2] 2 c5 3 2 0 0 0 ⟨#[]⟩ 3 (-1) W hT hR rfl (by decide) 1 (by rw [show opB 3 1 3 [7, 2] 3 2 0 0 0 ⟨#[]⟩ 3 (-1) = false by decide]; rfl))
        clear HB6 HB7 HO1 HO3 HT6 HT7 HB5 HM
        go_wp2_with fail
        clear z0 f0 y0 e0 z1 f1 y1 e1 z2 f2 y2 e2 z3 f3 y3 e3 z4 f4 y4 e4 z5 f5 y5 e5 z6 f6 y6 e6 z7 f7 y7 e7 z8 f8 y8 e8 z9 f9 y9 e9 z10 f10 y10 e10 z11 f11 y11 e11
        generalize ((w5.setCell ⟨g6, 4, none⟩ (.int .i64 0)).setCell ⟨g7, 4, none⟩ (.int .i64 3)) = w6 at *
        refine (CA.out w6 HMx.out.tab (RowK.ofOwn HOa.out).1).mono ?_
        rintro e w7 ⟨rfl, hb7⟩
        have HM7 := Lib.hid (HMx.out.next hb7)
        have HBb7 := Lib.hid (HBb.out.next hb7)
        have HOb7 := Lib.hid (HOb.out.below hb7)
        have y0 := HBb7.out.cell 0 _ rfl
        have y1 := HBb7.out.cell 1 _ rfl
        have y2 := HBb7.out.cell 2 _ rfl
        have y3 := HBb7.out.cell 3 _ rfl
        have y4 := HBb7.out.cell 4 _ rfl
        have y5 := HBb7.out.cell 5 _ rfl
        have y6 := HBb7.out.cell 6 _ rfl
        have y7 := HBb7.out.cell 7 _ rfl
        have y8 := HBb7.out.cell 8 _ rfl
        have y9 := HBb7.out.cell 9 _ rfl
        have y10 := HBb7.out.cell 10 _ rfl
        have y11 := HBb7.out.cell 11 _ rfl
        go_wp2_with fail
        refine (HN1.out _).mono ?_
        rintro e w7' ⟨rfl, rfl⟩
        go_wp2_with fail
        refine (CB.out w7 HM7.out.tab (RowK.ofOwn HOb7.out).1).mono ?_
        rintro e w8 ⟨rfl, hb8⟩
        have HM8 := Lib.hid (HM7.out.next hb8)
        clear hb8 hb7
        go_wp2_with fail
        refine (HN1.out _).mono ?_
        rintro e w8' ⟨rfl, rfl⟩
        go_wp2
        go_roundg (12 - (4 + 1))
        case measure => omega
        case rel => exact ⟨4 + 1, by go_num, by omega, by omega, HM8.out⟩
      · have lt6 := HT6.out.lt
        have lt7 := HT7.out.lt
        have z0 := HB6.out.cell 0 _ rfl
        have f0 := HB6.out.free 0 _ rfl
        have y0 := HB7.out.cell 0 _ rfl
        have e0 := HB7.out.free 0 _ rfl
        have z1 := HB6.out.cell 1 _ rfl
        have f1 := HB6.out.free 1 _ rfl
        have y1 := HB7.out.cell 1 _ rfl
        have e1 := HB7.out.free 1 _ rfl
        have z2 := HB6.out.cell 2 _ rfl
        have f2 := HB6.out.free 2 _ rfl
        have y2 := HB7.out.cell 2 _ rfl
        have e2 := HB7.out.free 2 _ rfl
        have z3 := HB6.out.cell 3 _ rfl
        have f3 := HB6.out.free 3 _ rfl
        have y3 := HB7.out.cell 3 _ rfl
        have e3 := HB7.out.free 3 _ rfl
        have z4 := HB6.out.cell 4 _ rfl
        have f4 := HB6.out.free 4 _ rfl
        have y4 := HB7.out.cell 4 _ rfl
        have e4 := HB7.out.free 4 _ rfl
        have z5 := HB6.out.cell 5 _ rfl
        have f5 := HB6.out.free 5 _ rfl
        have y5 := HB7.out.cell 5 _ rfl
        have e5 := HB7.out.free 5 _ rfl
        have z6 := HB6.out.cell 6 _ rfl
        have f6 := HB6.out.free 6 _ rfl
        have y6 := HB7.out.cell 6 _ rfl
        have e6 := HB7.out.free 6 _ rfl
        have z7 := HB6.out.cell 7 _ rfl
        have f7 := HB6.out.free 7 _ rfl
        have y7 := HB7.out.cell 7 _ rfl
        have e7 := HB7.out.free 7 _ rfl
        have z8 := HB6.out.cell 8 _ rfl
        have f8 := HB6.out.free 8 _ rfl
        have y8 := HB7.out.cell 8 _ rfl
        have e8 := HB7.out.free 8 _ rfl
        have z9 := HB6.out.cell 9 _ rfl
        have f9 := HB6.out.free 9 _ rfl
        have y9 := HB7.out.cell 9 _ rfl
        have e9 := HB7.out.free 9 _ rfl
        have z10 := HB6.out.cell 10 _ rfl
        have f10 := HB6.out.free 10 _ rfl
        have y10 := HB7.out.cell 10 _ rfl
        have e10 := HB7.out.free 10 _ rfl
        have z11 := HB6.out.cell 11 _ rfl
        have f11 := HB6.out.free 11 _ rfl
        have y11 := HB7.out.cell 11 _ rfl
        have e11 := HB7.out.free 11 _ rfl
        have HBa : Hid (Blk ((((w5.setCell ⟨g6, 5, none⟩ (.int .i64 0)).setCell ⟨g6, 6, none⟩ (.int .i64 0)).setCell ⟨g7, 5, none⟩ (.int .i64 0)).setCell ⟨g7, 6, none⟩ (.int .i64 1)) g6 [.int .i64 1, .int .i64 0, .int .i64 1, .slice a4 1 c4, .int .i64 1, .int .i64 0, .int .i64 0, .int .i64 0, .int .i64 0, .string ⟨#[107]⟩, .int .i64 0, .int .i64 0]) := Lib.hid ((((HB6.out.set 5 _).set 6 _).other hne' _ _).other hne' _ _)
        have HBb : Hid (Blk ((((w5.setCell ⟨g6, 5, none⟩ (.int .i64 0)).setCell ⟨g6, 6, none⟩ (.int .i64 0)).setCell ⟨g7, 5, none⟩ (.int .i64 0)).setCell ⟨g7, 6, none⟩ (.int .i64 1)) g7 [.int .i64 3, .int .i64 1, .int .i64 3, .slice a5 2 c5, .int .i64 2, .int .i64 0, .int .i64 1, .int .i64 0, .int .i64 0, .string ⟨#[]⟩, .int .i64 3, .int .i64 (-1)]) := Lib.hid ((((HB7.out.other hne _ _).other hne _ _).set 5 _).set 6 _)
        have HOa : Hid (OwnK .i64 3 ((((w5.setCell ⟨g6, 5, none⟩ (.int .i64 0)).setCell ⟨g6, 6, none⟩ (.int .i64 0)).setCell ⟨g7, 5, none⟩ (.int .i64 0)).setCell ⟨g7, 6, none⟩ (.int .i64 1)) wr.heap.size (.slice a4 1 c4) [0]) := Lib.hid ((((HO1.out.grown (grown_setCell _ ⟨g6, 5, none⟩ (.int .i64 0)) ((HT6.out).apart HO1.out)).grown (grown_setCell _ ⟨g6, 6, none⟩ (.int .i64 0)) (((HT6.out.set _ _ _)).apart (HO1.out.grown (grown_setCell _ ⟨g6, 5, none⟩ (.int .i64 0)) ((HT6.out).apart HO1.out)))).grown (grown_setCell _ ⟨g7, 5, none⟩ (.int .i64 0)) ((((HT7.out.set _ _ _).set _ _ _)).apart ((HO1.out.grown (grown_setCell _ ⟨g6, 5, none⟩ (.int .i64 0)) ((HT6.out).apart HO1.out)).grown (grown_setCell _ ⟨g6, 6, none⟩ (.int .i64 0)) (((HT6.out.set _ _ _)).apart (HO1.out.grown (grown_setCell _ ⟨g6, 5, none⟩ (.int .i64 0)) ((HT6.out).apart HO1.out)))))).grown (grown_setCell _ ⟨g7, 6, none⟩ (.int .i64 1)) (((((HT7.out.set _ _ _).set _ _ _).set _ _ _)).apart (((HO1.out.grown (grown_setCell _ ⟨g6, 5, none⟩ (.int .i64 0)) ((HT6.out).apart HO1.out)).grown (grown_setCell _ ⟨g6, 6, none⟩ (.int .i64 0)) (((HT6.out.set _ _ _)).apart (HO1.out.grown (grown_setCell _ ⟨g6, 5, none⟩ (.int .i64 0)) ((HT6.out).apart HO1.out)))).grown (grown_setCell _ ⟨g7, 5, none⟩ (.int .i64 0)) ((((HT7.out.set _ _ _).set _ _ _)).apart ((HO1.out.grown (grown_setCell _ ⟨g6, 5, none⟩ (.int .i64 0)) ((HT6.out).apart HO1.out)).grown (grown_setCell _ ⟨g6, 6, none⟩ (.int .i64 0)) (((HT6.out.set _ _ _)).apart (HO1.out.grown (grown_setCell _ ⟨g6, 5, none⟩ (.int .i64 0)) ((HT6.out).apart HO1.out))))))))
        have HOb : Hid (OwnK .i64 3 ((((w5.setCell ⟨g6, 5, none⟩ (.int .i64 0)).setCell ⟨g6, 6, none⟩ (.int .i64 0)).setCell ⟨g7, 5, none⟩ (.int .i64 0)).setCell ⟨g7, 6, none⟩ (.int .i64 1)) wr.heap.size (.slice a5 2 c5) [7, 2]) := Lib.hid ((((HO3.out.grown (grown_setCell _ ⟨g6, 5, none⟩ (.int .i64 0)) ((HT6.out).apart HO3.out)).grown (grown_setCell _ ⟨g6, 6, none⟩ (.int .i64 0)) (((HT6.out.set _ _ _)).apart (HO3.out.grown (grown_setCell _ ⟨g6, 5, none⟩ (.int .i64 0)) ((HT6.out).apart HO3.out)))).grown (grown_setCell _ ⟨g7, 5, none⟩ (.int .i64 0)) ((((HT7.out.set _ _ _).set _ _ _)).apart ((HO3.out.grown (grown_setCell _ ⟨g6, 5, none⟩ (.int .i64 0)) ((HT6.out).apart HO3.out)).grown (grown_setCell _ ⟨g6, 6, none⟩ (.int .i64 0)) (((HT6.out.set _ _ _)).apart (HO3.out.grown (grown_setCell _ ⟨g6, 5, none⟩ (.int .i64 0)) ((HT6.out).apart HO3.out)))))).grown (grown_setCell _ ⟨g7, 6, none⟩ (.int .i64 1)) (((((HT7.out.set _ _ _).set _ _ _).set _ _ _)).apart (((HO3.out.grown (grown_setCell _ ⟨g6, 5, none⟩ (.int .i64 0)) ((HT6.out).apart HO3.out)).grown (grown_setCell _ ⟨g6, 6, none⟩ (.int .i64 0)) (((HT6.out.set _ _ _)).apart (HO3.out.grown (grown_setCell _ ⟨g6, 5, none⟩ (.int .i64 0)) ((HT6.out).apart HO3.out)))).grown (grown_setCell _ ⟨g7, 5, none⟩ (.int .i64 0)) ((((HT7.out.set _ _ _).set _ _ _)).apart ((HO3.out.grown (grown_setCell _ ⟨g6, 5, none⟩ (.int .i64 0)) ((HT6.out).apart HO3.out)).grown (grown_setCell _ ⟨g6, 6, none⟩ (.int .i64 0)) (((HT6.out.set _ _ _)).apart (HO3.out.grown (grown_setCell _ ⟨g6, 5, none⟩ (.int .i64 0)) ((HT6.out).apart HO3.out))))))))
        have HBL : Hid (Below wr.heap.size wr ((((w5.setCell ⟨g6, 5, none⟩ (.int .i64 0)).setCell ⟨g6, 6, none⟩ (.int .i64 0)).setCell ⟨g7, 5, none⟩ (.int .i64 0)).setCell ⟨g7, 6, none⟩ (.int .i64 1))) := Lib.hid ((((HB5.out.setCell (p := ⟨g6, 5, none⟩) HG6.out (.int .i64 0)).setCell (p := ⟨g6, 6, none⟩) HG6.out (.int .i64 0)).setCell (p := ⟨g7, 5, none⟩) HG7.out (.int .i64 0)).setCell (p := ⟨g7, 6, none⟩) HG7.out (.int .i64 1))
        have HMx := Lib.hid (HM.out.next HBL.out)
        have CA := Lib.hid (fun W hT hR => check_is 1 0 1 a4 [0] 1 c4 1 0 0 0 0 ⟨#[107]⟩ 0 0 W hT hR rfl (by decide) 1 (by rw [show opB 1 0 1 [0] 1 0 0 0 0 ⟨#[107]⟩ 0 0 = false by decide]; rfl))
        have CB := Lib.hid (fun W hT hR => check_is 3 1 3 a5 [7, 2] 2 c5 2 0 1 0 0 ⟨#[]⟩ 3 (-1) W hT hR rfl (by decide) 1 (by rw [show opB 3 1 3 [7, 2] 2 0 1 0 0 ⟨#[]⟩ 3 (-1) = false by decide]; rfl))
        clear HB6 HB7 HO1 HO3 HT6 HT7 HB5 HM
        go_wp2_with fail
        clear z0 f0 y0 e0 z1 f1 y1 e1 z2 f2 y2 e2 z3 f3 y3 e3 z4 f4 y4 e4 z5 f5 y5 e5 z6 f6 y6 e6 z7 f7 y7 e7 z8 f8 y8 e8 z9 f9 y9 e9 z10 f10 y10 e10 z11 f11 y11 e11
        generalize ((((w5.setCell ⟨g6, 5, none⟩ (.int .i64 0)).setCell ⟨g6, 6, none⟩ (.int .i64 0)).setCell ⟨g7, 5, none⟩ (.int .i64 0)).setCell ⟨g7, 6, none⟩ (.int .i64 1)) = w6 at *
        refine (CA.out w6 HMx.out.tab (RowK.ofOwn HOa.out).1).mono ?_
        rintro e w7 ⟨rfl, hb7⟩
        have HM7 := Lib.hid (HMx.out.next hb7)
        have HBb7 := Lib.hid (HBb.out.next hb7)
        have HOb7 := Lib.hid (HOb.out.below hb7)
        have y0 := HBb7.out.cell 0 _ rfl
        have y1 := HBb7.out.cell 1 _ rfl
        have y2 := HBb7.out.cell 2 _ rfl
        have y3 := HBb7.out.cell 3 _ rfl
        have y4 := HBb7.out.cell 4 _ rfl
        have y5 := HBb7.out.cell 5 _ rfl
        have y6 := HBb7.out.cell 6 _ rfl
        have y7 := HBb7.out.cell 7 _ rfl
        have y8 := HBb7.out.cell 8 _ rfl
        have y9 := HBb7.out.cell 9 _ rfl
        have y10 := HBb7.out.cell 10 _ rfl
        have y11 := HBb7.out.cell 11 _ rfl
        go_wp2_with fail
        refine (HN1.out _).mono ?_
        rintro e w7' ⟨rfl, rfl⟩
        go_wp2_with fail
        refine (CB.out w7 HM7.out.tab (RowK.ofOwn HOb7.out).1).mono ?_
        rintro e w8 ⟨rfl, hb8⟩
        have HM8 := Lib.hid (HM7.out.next hb8)
        clear hb8 hb7
        go_wp2_with fail
        refine (HN1.out _).mono ?_
        rintro e w8' ⟨rfl, rfl⟩
        go_wp2
        go_roundg (12 - (5 + 1))
        case measure => omega
        case rel => exact ⟨5 + 1, by go_num, by omega, by omega, HM8.out⟩
      · have lt6 := HT6.out.lt
        have lt7 := HT7.out.lt
        have z0 := HB6.out.cell 0 _ rfl
        have f0 := HB6.out.free 0 _ rfl
        have y0 := HB7.out.cell 0 _ rfl
        have e0 := HB7.out.free 0 _ rfl
        have z1 := HB6.out.cell 1 _ rfl
        have f1 := HB6.out.free 1 _ rfl
        have y1 := HB7.out.cell 1 _ rfl
        have e1 := HB7.out.free 1 _ rfl
        have z2 := HB6.out.cell 2 _ rfl
        have f2 := HB6.out.free 2 _ rfl
        have y2 := HB7.out.cell 2 _ rfl
        have e2 := HB7.out.free 2 _ rfl
        have z3 := HB6.out.cell 3 _ rfl
        have f3 := HB6.out.free 3 _ rfl
        have y3 := HB7.out.cell 3 _ rfl
        have e3 := HB7.out.free 3 _ rfl
        have z4 := HB6.out.cell 4 _ rfl
        have f4 := HB6.out.free 4 _ rfl
        have y4 := HB7.out.cell 4 _ rfl
        have e4 := HB7.out.free 4 _ rfl
        have z5 := HB6.out.cell 5 _ rfl
        have f5 := HB6.out.free 5 _ rfl
        have y5 := HB7.out.cell 5 _ rfl
        have e5 := HB7.out.free 5 _ rfl
        have z6 := HB6.out.cell 6 _ rfl
        have f6 := HB6.out.free 6 _ rfl
        have y6 := HB7.out.cell 6 _ rfl
        have e6 := HB7.out.free 6 _ rfl
        have z7 := HB6.out.cell 7 _ rfl
        have f7 := HB6.out.free 7 _ rfl
        have y7 := HB7.out.cell 7 _ rfl
        have e7 := HB7.out.free 7 _ rfl
        have z8 := HB6.out.cell 8 _ rfl
        have f8 := HB6.out.free 8 _ rfl
        have y8 := HB7.out.cell 8 _ rfl
        have e8 := HB7.out.free 8 _ rfl
        have z9 := HB6.out.cell 9 _ rfl
        have f9 := HB6.out.free 9 _ rfl
        have y9 := HB7.out.cell 9 _ rfl
        have e9 := HB7.out.free 9 _ rfl
        have z10 := HB6.out.cell 10 _ rfl
        have f10 := HB6.out.free 10 _ rfl
        have y10 := HB7.out.cell 10 _ rfl
        have e10 := HB7.out.free 10 _ rfl
        have z11 := HB6.out.cell 11 _ rfl
        have f11 := HB6.out.free 11 _ rfl
        have y11 := HB7.out.cell 11 _ rfl
        have e11 := HB7.out.free 11 _ rfl
        have HBa : Hid (Blk ((w5.setCell ⟨g6, 9, none⟩ (.string ⟨#[]⟩)).setCell ⟨g7, 10, none⟩ (.int .i64 19)) g6 [.int .i64 1, .int .i64 0, .int .i64 1, .slice a4 1 c4, .int .i64 1, .int .i64 1, .int .i64 0, .int .i64 0, .int .i64 0, .string ⟨#[]⟩, .int .i64 0, .int .i64 0]) := Lib.hid ((HB6.out.set 9 _).other hne' _ _)
        have HBb : Hid (Blk ((w5.setCell ⟨g6, 9, none⟩ (.string ⟨#[]⟩)).setCell ⟨g7, 10, none⟩ (.int .i64 19)) g7 [.int .i64 3, .int .i64 1, .int .i64 3, .slice a5 2 c5, .int .i64 2, .int .i64 2, .int .i64 0, .int .i64 0, .int .i64 0, .string ⟨#[]⟩, .int .i64 19, .int .i64 (-1)]) := Lib.hid ((HB7.out.other hne _ _).set 10 _)
        have HOa : Hid (OwnK .i64 3 ((w5.setCell ⟨g6, 9, none⟩ (.string ⟨#[]⟩)).setCell ⟨g7, 10, none⟩ (.int .i64 19)) wr.heap.size (.slice a4 1 c4) [0]) := Lib.hid ((HO1.out.grown (grown_setCell _ ⟨g6, 9, none⟩ (.string ⟨#[]⟩)) ((HT6.out).apart HO1.out)).grown (grown_setCell _ ⟨g7, 10, none⟩ (.int .i64 19)) (((HT7.out.set _ _ _)).apart (HO1.out.grown (grown_setCell _ ⟨g6, 9, none⟩ (.string ⟨#[]⟩)) ((HT6.out).apart HO1.out))))
        have HOb : Hid (OwnK .i64 3 ((w5.setCell ⟨g6, 9, none⟩ (.string ⟨#[]⟩)).setCell ⟨g7, 10, none⟩ (.int .i64 19)) wr.heap.size (.slice a5 2 c5) [7, 2]) := Lib.hid ((HO3.out.grown (grown_setCell _ ⟨g6, 9, none⟩ (.string ⟨#[]⟩)) ((HT6.out).apart HO3.out)).grown (grown_setCell _ ⟨g7, 10, none⟩ (.int .i64 19)) (((HT7.out.set _ _ _)).apart (HO3.out.grown (grown_setCell _ ⟨g6, 9, none⟩ (.string ⟨#[]⟩)) ((HT6.out).apart HO3.out))))
        have HBL : Hid (Below wr.heap.size wr ((w5.setCell ⟨g6, 9, none⟩ (.string ⟨#[]⟩)).setCell ⟨g7, 10, none⟩ (.int .i64 19))) := Lib.hid ((HB5.out.setCell (p := ⟨g6, 9, none⟩) HG6.out (.string ⟨#[]⟩)).setCell (p := ⟨g7, 10, none⟩) HG7.out (.int .i64 19))
        have HMx := Lib.hid (HM.out.next HBL.out)
        have CA := Lib.hid (fun W hT hR => check_is 1 0 1 a4 [0] 1 c4 1 1 0 0 0 ⟨#[]⟩ 0 0 W hT hR rfl (by decide) 1 (by rw [show opB 1 0 1 [0] 1 1 0 0 0 ⟨#[]⟩ 0 0 = false by decide]; rfl))
        have CB := Lib.hid (fun W hT hR => check_is 3 1 3 a5 [7, 2] 2 c5 2 2 0 0 0 ⟨#[]⟩ 19 (-1) W hT hR rfl (by decide) 1 (by rw [show opB 3 1 3 [7, 2] 2 2 0 0 0 ⟨#[]⟩ 19 (-1) = false by decide]; rfl))
        clear HB6 HB7 HO1 HO3 HT6 HT7 HB5 HM
        go_wp2_with fail
        clear z0 f0 y0 e0 z1 f1 y1 e1 z2 f2 y2 e2 z3 f3 y3 e3 z4 f4 y4 e4 z5 f5 y5 e5 z6 f6 y6 e6 z7 f7 y7 e7 z8 f8 y8 e8 z9 f9 y9 e9 z10 f10 y10 e10 z11 f11 y11 e11
        generalize ((w5.setCell ⟨g6, 9, none⟩ (.string ⟨#[]⟩)).setCell ⟨g7, 10, none⟩ (.int .i64 19)) = w6 at *
        refine (CA.out w6 HMx.out.tab (RowK.ofOwn HOa.out).1).mono ?_
        rintro e w7 ⟨rfl, hb7⟩
        have HM7 := Lib.hid (HMx.out.next hb7)
        have HBb7 := Lib.hid (HBb.out.next hb7)
        have HOb7 := Lib.hid (HOb.out.below hb7)
        have y0 := HBb7.out.cell 0 _ rfl
        have y1 := HBb7.out.cell 1 _ rfl
        have y2 := HBb7.out.cell 2 _ rfl
        have y3 := HBb7.out.cell 3 _ rfl
        have y4 := HBb7.out.cell 4 _ rfl
        have y5 := HBb7.out.cell 5 _ rfl
        have y6 := HBb7.out.cell 6 _ rfl
        have y7 := HBb7.out.cell 7 _ rfl
        have y8 := HBb7.out.cell 8 _ rfl
        have y9 := HBb7.out.cell 9 _ rfl
        have y10 := HBb7.out.cell 10 _ rfl
        have y11 := HBb7.out.cell 11 _ rfl
        go_wp2_with fail
        refine (HN1.out _).mono ?_
        rintro e w7' ⟨rfl, rfl⟩
        go_wp2_with fail
        refine (CB.out w7 HM7.out.tab (RowK.ofOwn HOb7.out).1).mono ?_
        rintro e w8 ⟨rfl, hb8⟩
        have HM8 := Lib.hid (HM7.out.next hb8)
        clear hb8 hb7
        go_wp2_with fail
        refine (HN1.out _).mono ?_
        rintro e w8' ⟨rfl, rfl⟩
        go_wp2
        go_roundg (12 - (6 + 1))
        case measure => omega
        case rel => exact ⟨6 + 1, by go_num, by omega, by omega, HM8.out⟩
      · have lt6 := HT6.out.lt
        have lt7 := HT7.out.lt
        have z0 := HB6.out.cell 0 _ rfl
        have f0 := HB6.out.free 0 _ rfl
        have y0 := HB7.out.cell 0 _ rfl
        have e0 := HB7.out.free 0 _ rfl
        have z1 := HB6.out.cell 1 _ rfl
        have f1 := HB6.out.free 1 _ rfl
        have y1 := HB7.out.cell 1 _ rfl
        have e1 := HB7.out.free 1 _ rfl
        have z2 := HB6.out.cell 2 _ rfl
        have f2 := HB6.out.free 2 _ rfl
        have y2 := HB7.out.cell 2 _ rfl
        have e2 := HB7.out.free 2 _ rfl
        have z3 := HB6.out.cell 3 _ rfl
        have f3 := HB6.out.free 3 _ rfl
        have y3 := HB7.out.cell 3 _ rfl
        have e3 := HB7.out.free 3 _ rfl
        have z4 := HB6.out.cell 4 _ rfl
        have f4 := HB6.out.free 4 _ rfl
        have y4 := HB7.out.cell 4 _ rfl
        have e4 := HB7.out.free 4 _ rfl
        have z5 := HB6.out.cell 5 _ rfl
        have f5 := HB6.out.free 5 _ rfl
        have y5 := HB7.out.cell 5 _ rfl
        have e5 := HB7.out.free 5 _ rfl
        have z6 := HB6.out.cell 6 _ rfl
        have f6 := HB6.out.free 6 _ rfl
        have y6 := HB7.out.cell 6 _ rfl
        have e6 := HB7.out.free 6 _ rfl
        have z7 := HB6.out.cell 7 _ rfl
        have f7 := HB6.out.free 7 _ rfl
        have y7 := HB7.out.cell 7 _ rfl
        have e7 := HB7.out.free 7 _ rfl
        have z8 := HB6.out.cell 8 _ rfl
        have f8 := HB6.out.free 8 _ rfl
        have y8 := HB7.out.cell 8 _ rfl
        have e8 := HB7.out.free 8 _ rfl
        have z9 := HB6.out.cell 9 _ rfl
        have f9 := HB6.out.free 9 _ rfl
        have y9 := HB7.out.cell 9 _ rfl
        have e9 := HB7.out.free 9 _ rfl
        have z10 := HB6.out.cell 10 _ rfl
        have f10 := HB6.out.free 10 _ rfl
        have y10 := HB7.out.cell 10 _ rfl
        have e10 := HB7.out.free 10 _ rfl
        have z11 := HB6.out.cell 11 _ rfl
        have f11 := HB6.out.free 11 _ rfl
        have y11 := HB7.out.cell 11 _ rfl
        have e11 := HB7.out.free 11 _ rfl
        have HBa : Hid (Blk ((w5.setCell ⟨g6, 9, none⟩ (.string ⟨#[107, 0]⟩)).setCell ⟨g7, 11, none⟩ (.int .i64 (-2))) g6 [.int .i64 1, .int .i64 0, .int .i64 1, .slice a4 1 c4, .int .i64 1, .int .i64 1, .int .i64 0, .int .i64 0, .int .i64 0, .string ⟨#[107, 0]⟩, .int .i64 0, .int .i64 0]) := Lib.hid ((HB6.out.set 9 _).other hne' _ _)
        have HBb : Hid (Blk ((w5.setCell ⟨g6, 9, none⟩ (.string ⟨#[107, 0]⟩)).setCell ⟨g7, 11, none⟩ (.int .i64 (-2))) g7 [.int .i64 3, .int .i64 1, .int .i64 3, .slice a5 2 c5, .int .i64 2, .int .i64 2, .int .i64 0, .int .i64 0, .int .i64 0, .string ⟨#[]⟩, .int .i64 3, .int .i64 (-2)]) := Lib.hid ((HB7.out.other hne _ _).set 11 _)
        have HOa : Hid (OwnK .i64 3 ((w5.setCell ⟨g6, 9, none⟩ (.string ⟨#[107, 0]⟩)).setCell ⟨g7, 11, none⟩ (.int .i64 (-2))) wr.heap.size (.slice a4 1 c4) [0]) := Lib.hid ((HO1.out.grown (grown_setCell _ ⟨g6, 9, none⟩ (.string ⟨#[107, 0]⟩)) ((HT6.out).apart HO1.out)).grown (grown_setCell _ ⟨g7, 11, none⟩ (.int .i64 (-2))) (((HT7.out.set _ _ _)).apart (HO1.out.grown (grown_setCell _ ⟨g6, 9, none⟩ (.string ⟨#[107, 0]⟩)) ((HT6.out).apart HO1.out))))
        have HOb : Hid (OwnK .i64 3 ((w5.setCell ⟨g6, 9, none⟩ (.string ⟨#[107, 0]⟩)).setCell ⟨g7, 11, none⟩ (.int .i64 (-2))) wr.heap.size (.slice a5 2 c5) [7, 2]) := Lib.hid ((HO3.out.grown (grown_setCell _ ⟨g6, 9, none⟩ (.string ⟨#[107, 0]⟩)) ((HT6.out).apart HO3.out)).grown (grown_setCell _ ⟨g7, 11, none⟩ (.int .i64 (-2))) (((HT7.out.set _ _ _)).apart (HO3.out.grown (grown_setCell _ ⟨g6, 9, none⟩ (.string ⟨#[107, 0]⟩)) ((HT6.out).apart HO3.out))))
        have HBL : Hid (Below wr.heap.size wr ((w5.setCell ⟨g6, 9, none⟩ (.string ⟨#[107, 0]⟩)).setCell ⟨g7, 11, none⟩ (.int .i64 (-2)))) := Lib.hid ((HB5.out.setCell (p := ⟨g6, 9, none⟩) HG6.out (.string ⟨#[107, 0]⟩)).setCell (p := ⟨g7, 11, none⟩) HG7.out (.int .i64 (-2)))
        have HMx := Lib.hid (HM.out.next HBL.out)
        have CA := Lib.hid (fun W hT hR => check_is 1 0 1 a4 [0] 1 c4 1 1 0 0 0 ⟨#[107, 0]⟩ 0 0 W hT hR rfl (by decide) 1 (by rw [show opB 1 0 1 [0] 1 1 0 0 0 ⟨#[107, 0]⟩ 0 0 = false by decide]; rfl))
        have CB := Lib.hid (fun W hT hR => check_is 3 1 3 a5 [7, 2] 2 c5 2 2 0 0 0 ⟨#[]⟩ 3 (-2) W hT hR rfl (by decide) 1 (by rw [show opB 3 1 3 [7, 2] 2 2 0 0 0 ⟨#[]⟩ 3 (-2) = false by decide]; rfl))
        clear HB6 HB7 HO1 HO3 HT6 HT7 HB5 HM
        go_wp2_with fail
        clear z0 f0 y0 e0 z1 f1 y1 e1 z2 f2 y2 e2 z3 f3 y3 e3 z4 f4 y4 e4 z5 f5 y5 e5 z6 f6 y6 e6 z7 f7 y7 e7 z8 f8 y8 e8 z9 f9 y9 e9 z10 f10 y10 e10 z11 f11 y11 e11
        generalize ((w5.setCell ⟨g6, 9, none⟩ (.string ⟨#[107, 0]⟩)).setCell ⟨g7, 11, none⟩ (.int .i64 (-2))) = w6 at *
        refine (CA.out w6 HMx.out.tab (RowK.ofOwn HOa.out).1).mono ?_
        rintro e w7 ⟨rfl, hb7⟩
        have HM7 := Lib.hid (HMx.out.next hb7)
        have HBb7 := Lib.hid (HBb.out.next hb7)
        have HOb7 := Lib.hid (HOb.out.below hb7)
        have y0 := HBb7.out.cell 0 _ rfl
        have y1 := HBb7.out.cell 1 _ rfl
        have y2 := HBb7.out.cell 2 _ rfl
        have y3 := HBb7.out.cell 3 _ rfl
        have y4 := HBb7.out.cell 4 _ rfl
        have y5 := HBb7.out.cell 5 _ rfl
        have y6 := HBb7.out.cell 6 _ rfl
        have y7 := HBb7.out.cell 7 _ rfl
        have y8 := HBb7.out.cell 8 _ rfl
        have y9 := HBb7.out.cell 9 _ rfl
        have y10 := HBb7.out.cell 10 _ rfl
        have y11 := HBb7.out.cell 11 _ rfl
        go_wp2_with fail
        refine (HN1.out _).mono ?_
        rintro e w7' ⟨rfl, rfl⟩
        go_wp2_with fail
        refine (CB.out w7 HM7.out.tab (RowK.ofOwn HOb7.out).1).mono ?_
        rintro e w8 ⟨rfl, hb8⟩
        have HM8 := Lib.hid (HM7.out.next hb8)
        clear hb8 hb7
        go_wp2_with fail
        refine (HN1.out _).mono ?_
        rintro e w8' ⟨rfl, rfl⟩
        go_wp2
        go_roundg (12 - (7 + 1))
        case measure => omega
        case rel => exact ⟨7 + 1, by go_num, by omega, by omega, HM8.out⟩
      · have lt6 := HT6.out.lt
        have lt7 := HT7.out.lt
        have z0 := HB6.out.cell 0 _ rfl
        have f0 := HB6.out.free 0 _ rfl
        have y0 := HB7.out.cell 0 _ rfl
        have e0 := HB7.out.free 0 _ rfl
        have z1 := HB6.out.cell 1 _ rfl
        have f1 := HB6.out.free 1 _ rfl
        have y1 := HB7.out.cell 1 _ rfl
        have e1 := HB7.out.free 1 _ rfl
        have z2 := HB6.out.cell 2 _ rfl
        have f2 := HB6.out.free 2 _ rfl
        have y2 := HB7.out.cell 2 _ rfl
        have e2 := HB7.out.free 2 _ rfl
        have z3 := HB6.out.cell 3 _ rfl
        have f3 := HB6.out.free 3 _ rfl
        have y3 := HB7.out.cell 3 _ rfl
        have e3 := HB7.out.free 3 _ rfl
        have z4 := HB6.out.cell 4 _ rfl
        have f4 := HB6.out.free 4 _ rfl
        have y4 := HB7.out.cell 4 _ rfl
        have e4 := HB7.out.free 4 _ rfl
        have z5 := HB6.out.cell 5 _ rfl
        have f5 := HB6.out.free 5 _ rfl
        have y5 := HB7.out.cell 5 _ rfl
        have e5 := HB7.out.free 5 _ rfl
        have z6 := HB6.out.cell 6 _ rfl
        have f6 := HB6.out.free 6 _ rfl
        have y6 := HB7.out.cell 6 _ rfl
        have e6 := HB7.out.free 6 _ rfl
        have z7 := HB6.out.cell 7 _ rfl
        have f7 := HB6.out.free 7 _ rfl
        have y7 := HB7.out.cell 7 _ rfl
        have e7 := HB7.out.free 7 _ rfl
        have z8 := HB6.out.cell 8 _ rfl
        have f8 := HB6.out.free 8 _ rfl
        have y8 := HB7.out.cell 8 _ rfl
        have e8 := HB7.out.free 8 _ rfl
        have z9 := HB6.out.cell 9 _ rfl
        have f9 := HB6.out.free 9 _ rfl
        have y9 := HB7.out.cell 9 _ rfl
        have e9 := HB7.out.free 9 _ rfl
        have z10 := HB6.out.cell 10 _ rfl
        have f10 := HB6.out.free 10 _ rfl
        have y10 := HB7.out.cell 10 _ rfl
        have e10 := HB7.out.free 10 _ rfl
        have z11 := HB6.out.cell 11 _ rfl
        have f11 := HB6.out.free 11 _ rfl
        have y11 := HB7.out.cell 11 _ rfl
        have e11 := HB7.out.free 11 _ rfl
        have HBa : Hid (Blk ((((w5.setCell ⟨g6, 7, none⟩ (.int .i64 0)).setCell ⟨g6, 8, none⟩ (.int .i64 2)).setCell ⟨g7, 0, none⟩ (.int .i64 0)).setCell ⟨g7, 1, none⟩ (.int .i64 0)) g6 [.int .i64 1, .int .i64 0, .int .i64 1, .slice a4 1 c4, .int .i64 1, .int .i64 1, .int .i64 0, .int .i64 0, .int .i64 2, .string ⟨#[107]⟩, .int .i64 0, .int .i64 0]) := Lib.hid ((((HB6.out.set 7 _).set 8 _).other hne' _ _).other hne' _ _)
        have HBb : Hid (Blk ((((w5.setCell ⟨g6, 7, none⟩ (.int .i64 0)).setCell ⟨g6, 8, none⟩ (.int .i64 2)).setCell ⟨g7, 0, none⟩ (.int .i64 0)).setCell ⟨g7, 1, none⟩ (.int .i64 0)) g7 [.int .i64 0, .int .i64 0, .int .i64 3, .slice a5 2 c5, .int .i64 2, .int .i64 2, .int .i64 0, .int .i64 0, .int .i64 0, .string ⟨#[]⟩, .int .i64 3, .int .i64 (-1)]) := Lib.hid ((((HB7.out.other hne _ _).other hne _ _).set 0 _).set 1 _)
        have HOa : Hid (OwnK .i64 3 ((((w5.setCell ⟨g6, 7, none⟩ (.int .i64 0)).setCell ⟨g6, 8, none⟩ (.int .i64 2)).setCell ⟨g7, 0, none⟩ (.int .i64 0)).setCell ⟨g7, 1, none⟩ (.int .i64 0)) wr.heap.size (.slice a4 1 c4) [0]) := Lib.hid ((((HO1.out.grown (grown_setCell _ ⟨g6, 7, none⟩ (.int .i64 0)) ((HT6.out).apart HO1.out)).grown (grown_setCell _ ⟨g6, 8, none⟩ (.int .i64 2)) (((HT6.out.set _ _ _)).apart (HO1.out.grown (grown_setCell _ ⟨g6, 7, none⟩ (.int .i64 0)) ((HT6.out).apart HO1.out)))).grown (grown_setCell _ ⟨g7, 0, none⟩ (.int .i64 0)) ((((HT7.out.set _ _ _).set _ _ _)).apart ((HO1.out.grown (grown_setCell _ ⟨g6, 7, none⟩ (.int .i64 0)) ((HT6.out).apart HO1.out)).grown (grown_setCell _ ⟨g6, 8, none⟩ (.int .i64 2)) (((HT6.out.set _ _ _)).apart (HO1.out.grown (grown_setCell _ ⟨g6, 7, none⟩ (.int .i64 0)) ((HT6.out).apart HO1.out)))))).grown (grown_setCell _ ⟨g7, 1, none⟩ (.int .i64 0)) (((((HT7.out.set _ _ _).set _ _ _).set _ _ _)).apart (((HO1.out.grown (grown_setCell _ ⟨g6, 7, none⟩ (.int .i64 0)) ((HT6.out).apart HO1.out)).grown (grown_setCell _ ⟨g6, 8, none⟩ (.int .i64 2)) (((HT6.out.set _ _ _)).apart (HO1.out.grown (grown_setCell _ ⟨g6, 7, none⟩ (.int .i64 0)) ((HT6.out).apart HO1.out)))).grown (grown_setCell _ ⟨g7, 0, none⟩ (.int .i64 0)) ((((HT7.out.set _ _ _).set _ _ _)).apart ((HO1.out.grown (grown_setCell _ ⟨g6, 7, none⟩ (.int .i64 0)) ((HT6.out).apart HO1.out)).grown (grown_setCell _ ⟨g6, 8, none⟩ (.int .i64 2)) (((HT6.out.set _ _ _)).apart (HO1.out.grown (grown_setCell _ ⟨g6, 7, none⟩ (.int .i64 0)) ((HT6.out).apart HO1.out))))))))
        have HOb : Hid (OwnK .i64 3 ((((w5.setCell ⟨g6, 7, none⟩ (.int .i64 0)).setCell ⟨g6, 8, none⟩ (.int .i64 2)).setCell ⟨g7, 0, none⟩ (.int .i64 0)).setCell ⟨g7, 1, none⟩ (.int .i64 0)) wr.heap.size (.slice a5 2 c5) [7, 2]) := Lib.hid ((((HO3.out.grown (grown_setCell _ ⟨g6, 7, none⟩ (.int .i64 0)) ((HT6.out).apart HO3.out)).grown (grown_setCell _ ⟨g6, 8, none⟩ (.int .i64 2)) (((HT6.out.set _ _ _)).apart (HO3.out.grown (grown_setCell _ ⟨g6, 7, none⟩ (.int .i64 0)) ((HT6.out).apart HO3.out)))).grown (grown_setCell _ ⟨g7, 0, none⟩ (.int .i64 0)) ((((HT7.out.set _ _ _).set _ _ _)).apart ((HO3.out.grown (grown_setCell _ ⟨g6, 7, none⟩ (.int .i64 0)) ((HT6.out).apart HO3.out)).grown (grown_setCell _ ⟨g6, 8, none⟩ (.int .i64 2)) (((HT6.out.set _ _ _)).apart (HO3.out.grown (grown_setCell _ ⟨g6, 7, none⟩ (.int .i64 0)) ((HT6.out).apart HO3.out)))))).grown (grown_setCell _ ⟨g7, 1, none⟩ (.int .i64 0)) (((((HT7.out.set _ _ _).set _ _ _).set _ _ _)).apart (((HO3.out.grown (grown_setCell _ ⟨g6, 7, none⟩ (.int .i64 0)) ((HT6.out).apart HO3.out)).grown (grown_setCell _ ⟨g6, 8, none⟩ (.int .i64 2)) (((HT6.out.set _ _ _)).apart (HO3.out.grown (grown_setCell _ ⟨g6, 7, none⟩ (.int .i64 0)) ((HT6.out).apart HO3.out)))).grown (grown_setCell _ ⟨g7, 0, none⟩ (.int .i64 0)) ((((HT7.out.set _ _ _).set _ _ _)).apart ((HO3.out.grown (grown_setCell _ ⟨g6, 7, none⟩ (.int .i64 0)) ((HT6.out).apart HO3.out)).grown (grown_setCell _ ⟨g6, 8, none⟩ (.int .i64 2)) (((HT6.out.set _ _ _)).apart (HO3.out.grown (grown_setCell _ ⟨g6, 7, none⟩ (.int .i64 0)) ((HT6.out).apart HO3.out))))))))
        have HBL : Hid (Below wr.heap.size wr ((((w5.setCell ⟨g6, 7, none⟩ (.int .i64 0)).setCell ⟨g6, 8, none⟩ (.int .i64 2)).setCell ⟨g7, 0, none⟩ (.int .i64 0)).setCell ⟨g7, 1, none⟩ (.int .i64 0))) := Lib.hid ((((HB5.out.setCell (p := ⟨g6, 7, none⟩) HG6.out (.int .i64 0)).setCell (p := ⟨g6, 8, none⟩) HG6.out (.int .i64 2)).setCell (p := ⟨g7, 0, none⟩) HG7.out (.int .i64 0)).setCell (p := ⟨g7, 1, none⟩) HG7.out (.int .i64 0))
        have HMx := Lib.hid (HM.out.next HBL.out)
        have CA := Lib.hid (fun W hT hR => check_is 1 0 1 a4 [0] 1 c4 1 1 0 0 2 ⟨#[107]⟩ 0 0 W hT hR rfl (by decide) 1 (by rw [show opB 1 0 1 [0] 1 1 0 0 2 ⟨#[107]⟩ 0 0 = false by decide]; rfl))
        have CB := Lib.hid (fun W hT hR => check_is 0 0 3 a5 [7, 2] 2 c5 2 2 0 0 0 ⟨#[]⟩ 3 (-1) W hT hR rfl (by decide) 1 (by rw [show opB 0 0 3 [7, 2] 2 2 0 0 0 ⟨#[]⟩ 3 (-1) = false by decide]; rfl))
        clear HB6 HB7 HO1 HO3 HT6 HT7 HB5 HM
        go_wp2_with fail
        clear z0 f0 y0 e0 z1 f1 y1 e1 z2 f2 y2 e2 z3 f3 y3 e3 z4 f4 y4 e4 z5 f5 y5 e5 z6 f6 y6 e6 z7 f7 y7 e7 z8 f8 y8 e8 z9 f9 y9 e9 z10 f10 y10 e10 z11 f11 y11 e11
        generalize ((((w5.setCell ⟨g6, 7, none⟩ (.int .i64 0)).setCell ⟨g6, 8, none⟩ (.int .i64 2)).setCell ⟨g7, 0, none⟩ (.int .i64 0)).setCell ⟨g7, 1, none⟩ (.int .i64 0)) = w6 at *
        refine (CA.out w6 HMx.out.tab (RowK.ofOwn HOa.out).1).mono ?_
        rintro e w7 ⟨rfl, hb7⟩
        have HM7 := Lib.hid (HMx.out.next hb7)
        have HBb7 := Lib.hid (HBb.out.next hb7)
        have HOb7 := Lib.hid (HOb.out.below hb7)
        have y0 := HBb7.out.cell 0 _ rfl
        have y1 := HBb7.out.cell 1 _ rfl
        have y2 := HBb7.out.cell 2 _ rfl
        have y3 := HBb7.out.cell 3 _ rfl
        have y4 := HBb7.out.cell 4 _ rfl
        have y5 := HBb7.out.cell 5 _ rfl
        have y6 := HBb7.out.cell 6 _ rfl
        have y7 := HBb7.out.cell 7 _ rfl
        have y8 := HBb7.out.cell 8 _ rfl
        have y9 := HBb7.out.cell 9 _ rfl
        have y10 := HBb7.out.cell 10 _ rfl
        have y11 := HBb7.out.cell 11 _ rfl
        go_wp2_with fail
        refine (HN1.out _).mono ?_
        rintro e w7' ⟨rfl, rfl⟩
        go_wp2_with fail
        refine (CB.out w7 HM7.out.tab (RowK.ofOwn HOb7.out).1).mono ?_
        rintro e w8 ⟨rfl, hb8⟩
        have HM8 := Lib.hid (HM7.out.next hb8)
        clear hb8 hb7
        go_wp2_with fail
        refine (HN1.out _).mono ?_
        rintro e w8' ⟨rfl, rfl⟩
        go_wp2
        go_roundg (12 - (8 + 1))
        case measure => omega
        case rel => exact ⟨8 + 1, by go_num, by omega, by omega, HM8.out⟩
      · have lt6 := HT6.out.lt
        have lt7 := HT7.out.lt
        have z0 := HB6.out.cell 0 _ rfl
        have f0 := HB6.out.free 0 _ rfl
        have y0 := HB7.out.cell 0 _ rfl
        have e0 := HB7.out.free 0 _ rfl
        have z1 := HB6.out.cell 1 _ rfl
        have f1 := HB6.out.free 1 _ rfl
        have y1 := HB7.out.cell 1 _ rfl
        have e1 := HB7.out.free 1 _ rfl
        have z2 := HB6.out.cell 2 _ rfl
        have f2 := HB6.out.free 2 _ rfl
        have y2 := HB7.out.cell 2 _ rfl
        have e2 := HB7.out.free 2 _ rfl
        have z3 := HB6.out.cell 3 _ rfl
        have f3 := HB6.out.free 3 _ rfl
        have y3 := HB7.out.cell 3 _ rfl
        have e3 := HB7.out.free 3 _ rfl
        have z4 := HB6.out.cell 4 _ rfl
        have f4 := HB6.out.free 4 _ rfl
        have y4 := HB7.out.cell 4 _ rfl
        have e4 := HB7.out.free 4 _ rfl
        have z5 := HB6.out.cell 5 _ rfl
        have f5 := HB6.out.free 5 _ rfl
        have y5 := HB7.out.cell 5 _ rfl
        have e5 := HB7.out.free 5 _ rfl
        have z6 := HB6.out.cell 6 _ rfl
        have f6 := HB6.out.free 6 _ rfl
        have y6 := HB7.out.cell 6 _ rfl
        have e6 := HB7.out.free 6 _ rfl
        have z7 := HB6.out.cell 7 _ rfl
        have f7 := HB6.out.free 7 _ rfl
        have y7 := HB7.out.cell 7 _ rfl
        have e7 := HB7.out.free 7 _ rfl
        have z8 := HB6.out.cell 8 _ rfl
        have f8 := HB6.out.free 8 _ rfl
        have y8 := HB7.out.cell 8 _ rfl
        have e8 := HB7.out.free 8 _ rfl
        have z9 := HB6.out.cell 9 _ rfl
        have f9 := HB6.out.free 9 _ rfl
        have y9 := HB7.out.cell 9 _ rfl
        have e9 := HB7.out.free 9 _ rfl
        have z10 := HB6.out.cell 10 _ rfl
        have f10 := HB6.out.free 10 _ rfl
        have y10 := HB7.out.cell 10 _ rfl
        have e10 := HB7.out.free 10 _ rfl
        have z11 := HB6.out.cell 11 _ rfl
        have f11 := HB6.out.free 11 _ rfl
        have y11 := HB7.out.cell 11 _ rfl
        have e11 := HB7.out.free 11 _ rfl
        have HBa : Hid (Blk ((((w5.setCell ⟨g6, 0, none⟩ (.int .i64 1099511627777)).setCell ⟨g6, 1, none⟩ (.int .i64 0)).setCell ⟨g7, 0, none⟩ (.int .i64 3)).setCell ⟨g7, 1, none⟩ (.int .i64 16)) g6 [.int .i64 1099511627777, .int .i64 0, .int .i64 1, .slice a4 1 c4, .int .i64 1, .int .i64 1, .int .i64 0, .int .i64 0, .int .i64 0, .string ⟨#[107]⟩, .int .i64 0, .int .i64 0]) := Lib.hid ((((HB6.out.set 0 _).set 1 _).other hne' _ _).other hne' _ _)
        have HBb : Hid (Blk ((((w5.setCell ⟨g6, 0, none⟩ (.int .i64 1099511627777)).setCell ⟨g6, 1, none⟩ (.int .i64 0)).setCell ⟨g7, 0, none⟩ (.int .i64 3)).setCell ⟨g7, 1, none⟩ (.int .i64 16)) g7 [.int .i64 3, .int .i64 16, .int .i64 3, .slice a5 2 c5, .int .i64 2, .int .i64 2, .int .i64 0, .int .i64 0, .int .i64 0, .string ⟨#[]⟩, .int .i64 3, .int .i64 (-1)]) := Lib.hid ((((HB7.out.other hne _ _).other hne _ _).set 0 _).set 1 _)
        have HOa : Hid (OwnK .i64 3 ((((w5.setCell ⟨g6, 0, none⟩ (.int .i64 1099511627777)).setCell ⟨g6, 1, none⟩ (.int .i64 0)).setCell ⟨g7, 0, none⟩ (.int .i64 3)).setCell ⟨g7, 1, none⟩ (.int .i64 16)) wr.heap.size (.slice a4 1 c4) [0]) := Lib.hid ((((HO1.out.grown (grown_setCell _ ⟨g6, 0, none⟩ (.int .i64 1099511627777)) ((HT6.out).apart HO1.out)).grown (grown_setCell _ ⟨g6, 1, none⟩ (.int .i64 0)) (((HT6.out.set _ _ _)).apart (HO1.out.grown (grown_setCell _ ⟨g6, 0, none⟩ (.int .i64 1099511627777)) ((HT6.out).apart HO1.out)))).grown (grown_setCell _ ⟨g7, 0, none⟩ (.int .i64 3)) ((((HT7.out.set _ _ _).set _ _ _)).apart ((HO1.out.grown (grown_setCell _ ⟨g6, 0, none⟩ (.int .i64 1099511627777)) ((HT6.out).apart HO1.out)).grown (grown_setCell _ ⟨g6, 1, none⟩ (.int .i64 0)) (((HT6.out.set _ _ _)).apart (HO1.out.grown (grown_setCell _ ⟨g6, 0, none⟩ (.int .i64 1099511627777)) ((HT6.out).apart HO1.out)))))).grown (grown_setCell _ ⟨g7, 1, none⟩ (.int .i64 16)) (((((HT7.out.set _ _ _).set _ _ _).set _ _ _)).apart (((HO1.out.grown (grown_setCell _ ⟨g6, 0, none⟩ (.int .i64 1099511627777)) ((HT6.out).apart HO1.out)).grown (grown_setCell _ ⟨g6, 1, none⟩ (.int .i64 0)) (((HT6.out.set _ _ _)).apart (HO1.out.grown (grown_setCell _ ⟨g6, 0, none⟩ (.int .i64 1099511627777)) ((HT6.out).apart HO1.out)))).grown (grown_setCell _ ⟨g7, 0, none⟩ (.int .i64 3)) ((((HT7.out.set _ _ _).set _ _ _)).apart ((HO1.out.grown (grown_setCell _ ⟨g6, 0, none⟩ (.int .i64 1099511627777)) ((HT6.out).apart HO1.out)).grown (grown_setCell _ ⟨g6, 1, none⟩ (.int .i64 0)) (((HT6.out.set _ _ _)).apart (HO1.out.grown (grown_setCell _ ⟨g6, 0, none⟩ (.int .i64 1099511627777)) ((HT6.out).apart HO1.out))))))))
        have HOb : Hid (OwnK .i64 3 ((((w5.setCell ⟨g6, 0, none⟩ (.int .i64 1099511627777)).setCell ⟨g6, 1, none⟩ (.int .i64 0)).setCell ⟨g7, 0, none⟩ (.int .i64 3)).setCell ⟨g7, 1, none⟩ (.int .i64 16)) wr.heap.size (.slice a5 2 c5) [7, 2]) := Lib.hid ((((HO3.out.grown (grown_setCell _ ⟨g6, 0, none⟩ (.int .i64 1099511627777)) ((HT6.out).apart HO3.out)).grown (grown_setCell _ ⟨g6, 1, none⟩ (.int .i64 0)) (((HT6.out.set _ _ _)).apart (HO3.out.grown (grown_setCell _ ⟨g6, 0, none⟩ (.int .i64 1099511627777)) ((HT6.out).apart HO3.out)))).grown (grown_setCell _ ⟨g7, 0, none⟩ (.int .i64 3)) ((((HT7.out.set _ _ _).set _ _ _)).apart ((HO3.out.grown (grown_setCell _ ⟨g6, 0, none⟩ (.int .i64 1099511627777)) ((HT6.out).apart HO3.out)).grown (grown_setCell _ ⟨g6, 1, none⟩ (.int .i64 0)) (((HT6.out.set _ _ _)).apart (HO3.out.grown (grown_setCell _ ⟨g6, 0, none⟩ (.int .i64 1099511627777)) ((HT6.out).apart HO3.out)))))).grown (grown_setCell _ ⟨g7, 1, none⟩ (.int .i64 16)) (((((HT7.out.set _ _ _).set _ _ _).set _ _ _)).apart (((HO3.out.grown (grown_setCell _ ⟨g6, 0, none⟩ (.int .i64 1099511627777)) ((HT6.out).apart HO3.out)).grown (grown_setCell _ ⟨g6, 1, none⟩ (.int .i64 0)) (((HT6.out.set _ _ _)).apart (HO3.out.grown (grown_setCell _ ⟨g6, 0, none⟩ (.int .i64 1099511627777)) ((HT6.out).apart HO3.out)))).grown (grown_setCell _ ⟨g7, 0, none⟩ (.int .i64 3)) ((((HT7.out.set _ _ _).set _ _ _)).apart ((HO3.out.grown (grown_setCell _ ⟨g6, 0, none⟩ (.int .i64 1099511627777)) ((HT6.out).apart HO3.out)).grown (grown_setCell _ ⟨g6, 1, none⟩ (.int .i64 0)) (((HT6.out.set _ _ _)).apart (HO3.out.grown (grown_setCell _ ⟨g6, 0, none⟩ (.int .i64 1099511627777)) ((HT6.out).apart HO3.out))))))))
        have HBL : Hid (Below wr.heap.size wr ((((w5.setCell ⟨g6, 0, none⟩ (.int .i64 1099511627777)).setCell ⟨g6, 1, none⟩ (.int .i64 0)).setCell ⟨g7, 0, none⟩ (.int .i64 3)).setCell ⟨g7, 1, none⟩ (.int .i64 16))) := Lib.hid ((((HB5.out.setCell (p := ⟨g6, 0, none⟩) HG6.out (.int .i64 1099511627777)).setCell (p := ⟨g6, 1, none⟩) HG6.out (.int .i64 0)).setCell (p := ⟨g7, 0, none⟩) HG7.out (.int .i64 3)).setCell (p := ⟨g7, 1, none⟩) HG7.out (.int .i64 16))
        have HMx := Lib.hid (HM.out.next HBL.out)
        have CA := Lib.hid (fun W hT hR => check_is 1099511627777 0 1 a4 [0] 1 c4 1 1 0 0 0 ⟨#[107]⟩ 0 0 W hT hR rfl (by decide) 1 (by rw [show opB 1099511627777 0 1 [0] 1 1 0 0 0 ⟨#[107]⟩ 0 0 = false by decide]; rfl))
        have CB := Lib.hid (fun W hT hR => check_is 3 16 3 a5 [7, 2] 2 c5 2 2 0 0 0 ⟨#[]⟩ 3 (-1) W hT hR rfl (by decide) 1 (by rw [show opB 3 16 3 [7, 2] 2 2 0 0 0 ⟨#[]⟩ 3 (-1) = false by decide]; rfl))
        clear HB6 HB7 HO1 HO3 HT6 HT7 HB5 HM
        go_wp2_with fail
        clear z0 f0 y0 e0 z1 f1 y1 e1 z2 f2 y2 e2 z3 f3 y3 e3 z4 f4 y4 e4 z5 f5 y5 e5 z6 f6 y6 e6 z7 f7 y7 e7 z8 f8 y8 e8 z9 f9 y9 e9 z10 f10 y10 e10 z11 f11 y11 e11
        generalize ((((w5.setCell ⟨g6, 0, none⟩ (.int .i64 1099511627777)).setCell ⟨g6, 1, none⟩ (.int .i64 0)).setCell ⟨g7, 0, none⟩ (.int .i64 3)).setCell ⟨g7, 1, none⟩ (.int .i64 16)) = w6 at *
        refine (CA.out w6 HMx.out.tab (RowK.ofOwn HOa.out).1).mono ?_
        rintro e w7 ⟨rfl, hb7⟩
        have HM7 := Lib.hid (HMx.out.next hb7)
        have HBb7 := Lib.hid (HBb.out.next hb7)
        have HOb7 := Lib.hid (HOb.out.below hb7)
        have y0 := HBb7.out.cell 0 _ rfl
        have y1 := HBb7.out.cell 1 _ rfl
        have y2 := HBb7.out.cell 2 _ rfl
        have y3 := HBb7.out.cell 3 _ rfl
        have y4 := HBb7.out.cell 4 _ rfl
        have y5 := HBb7.out.cell 5 _ rfl
        have y6 := HBb7.out.cell 6 _ rfl
        have y7 := HBb7.out.cell 7 _ rfl
        have y8 := HBb7.out.cell 8 _ rfl
        have y9 := HBb7.out.cell 9 _ rfl
        have y10 := HBb7.out.cell 10 _ rfl
        have y11 := HBb7.out.cell 11 _ rfl
        go_wp2_with fail
        refine (HN1.out _).mono ?_
        rintro e w7' ⟨rfl, rfl⟩
        go_wp2_with fail
        refine (CB.out w7 HM7.out.tab (RowK.ofOwn HOb7.out).1).mono ?_
        rintro e w8 ⟨rfl, hb8⟩
        have HM8 := Lib.hid (HM7.out.next hb8)
        clear hb8 hb7
        go_wp2_with fail
        refine (HN1.out _).mono ?_
        rintro e w8' ⟨rfl, rfl⟩
        go_wp2
        go_roundg (12 - (9 + 1))
        case measure => omega
        case rel => exact ⟨9 + 1, by go_num, by omega, by omega, HM8.out⟩
      · have lt6 := HT6.out.lt
        have lt7 := HT7.out.lt
        have z0 := HB6.out.cell 0 _ rfl
        have f0 := HB6.out.free 0 _ rfl
        have y0 := HB7.out.cell 0 _ rfl
        have e0 := HB7.out.free 0 _ rfl
        have z1 := HB6.out.cell 1 _ rfl
        have f1 := HB6.out.free 1 _ rfl
        have y1 := HB7.out.cell 1 _ rfl
        have e1 := HB7.out.free 1 _ rfl
        have z2 := HB6.out.cell 2 _ rfl
        have f2 := HB6.out.free 2 _ rfl
        have y2 := HB7.out.cell 2 _ rfl
        have e2 := HB7.out.free 2 _ rfl
        have z3 := HB6.out.cell 3 _ rfl
        have f3 := HB6.out.free 3 _ rfl
        have y3 := HB7.out.cell 3 _ rfl
        have e3 := HB7.out.free 3 _ rfl
        have z4 := HB6.out.cell 4 _ rfl
        have f4 := HB6.out.free 4 _ rfl
        have y4 := HB7.out.cell 4 _ rfl
        have e4 := HB7.out.free 4 _ rfl
        have z5 := HB6.out.cell 5 _ rfl
        have f5 := HB6.out.free 5 _ rfl
        have y5 := HB7.out.cell 5 _ rfl
        have e5 := HB7.out.free 5 _ rfl
        have z6 := HB6.out.cell 6 _ rfl
        have f6 := HB6.out.free 6 _ rfl
        have y6 := HB7.out.cell 6 _ rfl
        have e6 := HB7.out.free 6 _ rfl
        have z7 := HB6.out.cell 7 _ rfl
        have f7 := HB6.out.free 7 _ rfl
        have y7 := HB7.out.cell 7 _ rfl
        have e7 := HB7.out.free 7 _ rfl
        have z8 := HB6.out.cell 8 _ rfl
        have f8 := HB6.out.free 8 _ rfl
        have y8 := HB7.out.cell 8 _ rfl
        have e8 := HB7.out.free 8 _ rfl
        have z9 := HB6.out.cell 9 _ rfl
        have f9 := HB6.out.free 9 _ rfl
        have y9 := HB7.out.cell 9 _ rfl
        have e9 := HB7.out.free 9 _ rfl
        have z10 := HB6.out.cell 10 _ rfl
        have f10 := HB6.out.free 10 _ rfl
        have y10 := HB7.out.cell 10 _ rfl
        have e10 := HB7.out.free 10 _ rfl
        have z11 := HB6.out.cell 11 _ rfl
        have f11 := HB6.out.free 11 _ rfl
        have y11 := HB7.out.cell 11 _ rfl
        have e11 := HB7.out.free 11 _ rfl
        have hmk := make17
        go_wp2_with fail
        go_region
        · have HBa : Hid (Blk ((((w5.setCell ⟨g6, 3, none⟩ (.slice (some ⟨w5.heap.size, 0, none⟩) 1 1)).setCell ⟨g7, 3, none⟩ (.slice (some ⟨w5.heap.size + 1, 0, none⟩) 17 17)).alloc (.cells #[.int .i64 (-1)] 3)).alloc (.cells Z17 3)).drew g6 [.int .i64 1, .int .i64 0, .int .i64 1, .slice (some ⟨w5.heap.size, 0, none⟩) 1 1, .int .i64 1, .int .i64 1, .int .i64 0, .int .i64 0, .int .i64 0, .string ⟨#[107]⟩, .int .i64 0, .int .i64 0]) := Lib.hid ((((HB6.out.set 3 _).other hne' _ _).next (box_bel _ (.cells #[.int .i64 (-1)] 3))).next (box_bel _ (.cells Z17 3))).drew
          have HBb : Hid (Blk ((((w5.setCell ⟨g6, 3, none⟩ (.slice (some ⟨w5.heap.size, 0, none⟩) 1 1)).setCell ⟨g7, 3, none⟩ (.slice (some ⟨w5.heap.size + 1, 0, none⟩) 17 17)).alloc (.cells #[.int .i64 (-1)] 3)).alloc (.cells Z17 3)).drew g7 [.int .i64 3, .int .i64 1, .int .i64 3, .slice (some ⟨w5.heap.size + 1, 0, none⟩) 17 17, .int .i64 2, .int .i64 2, .int .i64 0, .int .i64 0, .int .i64 0, .string ⟨#[]⟩, .int .i64 3, .int .i64 (-1)]) := Lib.hid ((((HB7.out.other hne _ _).set 3 _).next (box_bel _ (.cells #[.int .i64 (-1)] 3))).next (box_bel _ (.cells Z17 3))).drew
          have HOa : Hid (OwnK .i64 3 ((((w5.setCell ⟨g6, 3, none⟩ (.slice (some ⟨w5.heap.size, 0, none⟩) 1 1)).setCell ⟨g7, 3, none⟩ (.slice (some ⟨w5.heap.size + 1, 0, none⟩) 17 17)).alloc (.cells #[.int .i64 (-1)] 3)).alloc (.cells Z17 3)).drew w5.heap.size (.slice (some ⟨w5.heap.size, 0, none⟩) 1 1) [-1]) := by
            have hq := ((own_new ((w5.setCell ⟨g6, 3, none⟩ (.slice (some ⟨w5.heap.size, 0, none⟩) 1 1)).setCell ⟨g7, 3, none⟩ (.slice (some ⟨w5.heap.size + 1, 0, none⟩) 17 17)) [-1] 1 rfl (by decide)).alloc (.cells Z17 3))
            simp only [World.size_alloc, World.size_setCell] at hq
            exact Lib.hid (hq.mono (by omega))
          have HOb : Hid (OwnK .i64 3 ((((w5.setCell ⟨g6, 3, none⟩ (.slice (some ⟨w5.heap.size, 0, none⟩) 1 1)).setCell ⟨g7, 3, none⟩ (.slice (some ⟨w5.heap.size + 1, 0, none⟩) 17 17)).alloc (.cells #[.int .i64 (-1)] 3)).alloc (.cells Z17 3)).drew w5.heap.size (.slice (some ⟨w5.heap.size + 1, 0, none⟩) 17 17) (List.replicate 17 0)) := by
            have hq := (own_new (((w5.setCell ⟨g6, 3, none⟩ (.slice (some ⟨w5.heap.size, 0, none⟩) 1 1)).setCell ⟨g7, 3, none⟩ (.slice (some ⟨w5.heap.size + 1, 0, none⟩) 17 17)).alloc (.cells #[.int .i64 (-1)] 3)) (List.replicate 17 0) 17 rfl (by decide))
            simp only [World.size_alloc, World.size_setCell] at hq
            exact Lib.hid (hq.mono (by omega))
          have HBL : Hid (Below wr.heap.size wr ((((w5.setCell ⟨g6, 3, none⟩ (.slice (some ⟨w5.heap.size, 0, none⟩) 1 1)).setCell ⟨g7, 3, none⟩ (.slice (some ⟨w5.heap.size + 1, 0, none⟩) 17 17)).alloc (.cells #[.int .i64 (-1)] 3)).alloc (.cells Z17 3)).drew) := Lib.hid (bel_alloc (bel_alloc ((HB5.out.setCell (p := ⟨g6, 3, none⟩) HG6.out (.slice (some ⟨w5.heap.size, 0, none⟩) 1 1)).setCell (p := ⟨g7, 3, none⟩) HG7.out (.slice (some ⟨w5.heap.size + 1, 0, none⟩) 17 17)) (Nat.le_refl _) (.cells #[.int .i64 (-1)] 3)) (Nat.le_refl _) (.cells Z17 3)).drew
          have HMx := Lib.hid (HM.out.next HBL.out)
          have CA := Lib.hid (fun W hT hR => check_is 1 0 1 (some ⟨w5.heap.size, 0, none⟩) [-1] 1 1 1 1 0 0 0 ⟨#[107]⟩ 0 0 W hT hR rfl (by decide) 1 (by rw [show opB 1 0 1 [-1] 1 1 0 0 0 ⟨#[107]⟩ 0 0 = false by decide]; rfl))
          have CB := Lib.hid (fun W hT hR => check_is 3 1 3 (some ⟨w5.heap.size + 1, 0, none⟩) (List.replicate 17 0) 17 17 2 2 0 0 0 ⟨#[]⟩ 3 (-1) W hT hR rfl (by decide) 1 (by rw [show opB 3 1 3 (List.replicate 17 0) 2 2 0 0 0 ⟨#[]⟩ 3 (-1) = false by decide]; rfl))
          clear HB6 HB7 HO1 HO3 HT6 HT7 HB5 HM
          go_wp2_with fail
          clear z0 f0 y0 e0 z1 f1 y1 e1 z2 f2 y2 e2 z3 f3 y3 e3 z4 f4 y4 e4 z5 f5 y5 e5 z6 f6 y6 e6 z7 f7 y7 e7 z8 f8 y8 e8 z9 f9 y9 e9 z10 f10 y10 e10 z11 f11 y11 e11
          generalize ((((w5.setCell ⟨g6, 3, none⟩ (.slice (some ⟨w5.heap.size, 0, none⟩) 1 1)).setCell ⟨g7, 3, none⟩ (.slice (some ⟨w5.heap.size + 1, 0, none⟩) 17 17)).alloc (.cells #[.int .i64 (-1)] 3)).alloc (.cells Z17 3)).drew = w6 at *
          refine (CA.out w6 HMx.out.tab (RowK.ofOwn HOa.out).1).mono ?_
          rintro e w7 ⟨rfl, hb7⟩
          have HM7 := Lib.hid (HMx.out.next hb7)
          have HBb7 := Lib.hid (HBb.out.next hb7)
          have HOb7 := Lib.hid (HOb.out.below hb7)
          have y0 := HBb7.out.cell 0 _ rfl
          have y1 := HBb7.out.cell 1 _ rfl
          have y2 := HBb7.out.cell 2 _ rfl
          have y3 := HBb7.out.cell 3 _ rfl
          have y4 := HBb7.out.cell 4 _ rfl
          have y5 := HBb7.out.cell 5 _ rfl
          have y6 := HBb7.out.cell 6 _ rfl
          have y7 := HBb7.out.cell 7 _ rfl
          have y8 := HBb7.out.cell 8 _ rfl
          have y9 := HBb7.out.cell 9 _ rfl
          have y10 := HBb7.out.cell 10 _ rfl
          have y11 := HBb7.out.cell 11 _ rfl
          go_wp2_with fail
          refine (HN1.out _).mono ?_
          rintro e w7' ⟨rfl, rfl⟩
          go_wp2_with fail
          refine (CB.out w7 HM7.out.tab (RowK.ofOwn HOb7.out).1).mono ?_
          rintro e w8 ⟨rfl, hb8⟩
          have HM8 := Lib.hid (HM7.out.next hb8)
          clear hb8 hb7
          go_wp2_with fail
          refine (HN1.out _).mono ?_
          rintro e w8' ⟨rfl, rfl⟩
          go_wp2
          go_roundg (12 - (10 + 1))
          case measure => omega
          case rel => exact ⟨10 + 1, by go_num, by omega, by omega, HM8.out⟩
        · have HBa : Hid (Blk ((((w5.setCell ⟨g6, 3, none⟩ (.slice (some ⟨w5.heap.size + 1, 0, none⟩) 1 1)).setCell ⟨g7, 3, none⟩ (.slice (some ⟨w5.heap.size, 0, none⟩) 17 17)).alloc (.cells Z17 3)).alloc (.cells #[.int .i64 (-1)] 3)).drew g6 [.int .i64 1, .int .i64 0, .int .i64 1, .slice (some ⟨w5.heap.size + 1, 0, none⟩) 1 1, .int .i64 1, .int .i64 1, .int .i64 0, .int .i64 0, .int .i64 0, .string ⟨#[107]⟩, .int .i64 0, .int .i64 0]) := Lib.hid ((((HB6.out.set 3 _).other hne' _ _).next (box_bel _ (.cells Z17 3))).next (box_bel _ (.cells #[.int .i64 (-1)] 3))).drew
          have HBb : Hid (Blk ((((w5.setCell ⟨g6, 3, none⟩ (.slice (some ⟨w5.heap.size + 1, 0, none⟩) 1 1)).setCell ⟨g7, 3, none⟩ (.slice (some ⟨w5.heap.size, 0, none⟩) 17 17)).alloc (.cells Z17 3)).alloc (.cells #[.int .i64 (-1)] 3)).drew g7 [.int .i64 3, .int .i64 1, .int .i64 3, .slice (some ⟨w5.heap.size, 0, none⟩) 17 17, .int .i64 2, .int .i64 2, .int .i64 0, .int .i64 0, .int .i64 0, .string ⟨#[]⟩, .int .i64 3, .int .i64 (-1)]) := Lib.hid ((((HB7.out.other hne _ _).set 3 _).next (box_bel _ (.cells Z17 3))).next (box_bel _ (.cells #[.int .i64 (-1)] 3))).drew
          have HOa : Hid (OwnK .i64 3 ((((w5.setCell ⟨g6, 3, none⟩ (.slice (some ⟨w5.heap.size + 1, 0, none⟩) 1 1)).setCell ⟨g7, 3, none⟩ (.slice (some ⟨w5.heap.size, 0, none⟩) 17 17)).alloc (.cells Z17 3)).alloc (.cells #[.int .i64 (-1)] 3)).drew w5.heap.size (.slice (some ⟨w5.heap.size + 1, 0, none⟩) 1 1) [-1]) := by
            have hq := (own_new (((w5.setCell ⟨g6, 3, none⟩ (.slice (some ⟨w5.heap.size + 1, 0, none⟩) 1 1)).setCell ⟨g7, 3, none⟩ (.slice (some ⟨w5.heap.size, 0, none⟩) 17 17)).alloc (.cells Z17 3)) [-1] 1 rfl (by decide))
            simp only [World.size_alloc, World.size_setCell] at hq
            exact Lib.hid (hq.mono (by omega))
          have HOb : Hid (OwnK .i64 3 ((((w5.setCell ⟨g6, 3, none⟩ (.slice (some ⟨w5.heap.size + 1, 0, none⟩) 1 1)).setCell ⟨g7, 3, none⟩ (.slice (some ⟨w5.heap.size, 0, none⟩) 17 17)).alloc (.cells Z17 3)).alloc (.cells #[.int .i64 (-1)] 3)).drew w5.heap.size (.slice (some ⟨w5.heap.size, 0, none⟩) 17 17) (List.replicate 17 0)) := by
            have hq := ((own_new ((w5.setCell ⟨g6, 3, none⟩ (.slice (some ⟨w5.heap.size + 1, 0, none⟩) 1 1)).setCell ⟨g7, 3, none⟩ (.slice (some ⟨w5.heap.size, 0, none⟩) 17 17)) (List.replicate 17 0) 17 rfl (by decide)).alloc (.cells #[.int .i64 (-1)] 3))
            simp only [World.size_alloc, World.size_setCell] at hq
            exact Lib.hid (hq.mono (by omega))
          have HBL : Hid (Below wr.heap.size wr ((((w5.setCell ⟨g6, 3, none⟩ (.slice (some ⟨w5.heap.size + 1, 0, none⟩) 1 1)).setCell ⟨g7, 3, none⟩ (.slice (some ⟨w5.heap.size, 0, none⟩) 17 17)).alloc (.cells Z17 3)).alloc (.cells #[.int .i64 (-1)] 3)).drew) := Lib.hid (bel_alloc (bel_alloc ((HB5.out.setCell (p := ⟨g6, 3, none⟩) HG6.out (.slice (some ⟨w5.heap.size + 1, 0, none⟩) 1 1)).setCell (p := ⟨g7, 3, none⟩) HG7.out (.slice (some ⟨w5.heap.size, 0, none⟩) 17 17)) (Nat.le_refl _) (.cells Z17 3)) (Nat.le_refl _) (.cells #[.int .i64 (-1)] 3)).drew
          have HMx := Lib.hid (HM.out.next HBL.out)
          have CA := Lib.hid (fun W hT hR => check_is 1 0 1 (some ⟨w5.heap.size + 1, 0, none⟩) [-1] 1 1 1 1 0 0 0 ⟨#[107]⟩ 0 0 W hT hR rfl (by decide) 1 (by rw [show opB 1 0 1 [-1] 1 1 0 0 0 ⟨#[107]⟩ 0 0 = false by decide]; rfl))
          have CB := Lib.hid (fun W hT hR => check_is 3 1 3 (some ⟨w5.heap.size, 0, none⟩) (List.replicate 17 0) 17 17 2 2 0 0 0 ⟨#[]⟩ 3 (-1) W hT hR rfl (by decide) 1 (by rw [show opB 3 1 3 (List.replicate 17 0) 2 2 0 0 0 ⟨#[]⟩ 3 (-1) = false by decide]; rfl))
          clear HB6 HB7 HO1 HO3 HT6 HT7 HB5 HM
          go_wp2_with fail
          clear z0 f0 y0 e0 z1 f1 y1 e1 z2 f2 y2 e2 z3 f3 y3 e3 z4 f4 y4 e4 z5 f5 y5 e5 z6 f6 y6 e6 z7 f7 y7 e7 z8 f8 y8 e8 z9 f9 y9 e9 z10 f10 y10 e10 z11 f11 y11 e11
          generalize ((((w5.setCell ⟨g6, 3, none⟩ (.slice (some ⟨w5.heap.size + 1, 0, none⟩) 1 1)).setCell ⟨g7, 3, none⟩ (.slice (some ⟨w5.heap.size, 0, none⟩) 17 17)).alloc (.cells Z17 3)).alloc (.cells #[.int .i64 (-1)] 3)).drew = w6 at *
          refine (CA.out w6 HMx.out.tab (RowK.ofOwn HOa.out).1).mono ?_
          rintro e w7 ⟨rfl, hb7⟩
          have HM7 := Lib.hid (HMx.out.next hb7)
          have HBb7 := Lib.hid (HBb.out.next hb7)
          have HOb7 := Lib.hid (HOb.out.below hb7)
          have y0 := HBb7.out.cell 0 _ rfl
          have y1 := HBb7.out.cell 1 _ rfl
          have y2 := HBb7.out.cell 2 _ rfl
          have y3 := HBb7.out.cell 3 _ rfl
          have y4 := HBb7.out.cell 4 _ rfl
          have y5 := HBb7.out.cell 5 _ rfl
          have y6 := HBb7.out.cell 6 _ rfl
          have y7 := HBb7.out.cell 7 _ rfl
          have y8 := HBb7.out.cell 8 _ rfl
          have y9 := HBb7.out.cell 9 _ rfl
          have y10 := HBb7.out.cell 10 _ rfl
          have y11 := HBb7.out.cell 11 _ rfl
          go_wp2_with fail
          refine (HN1.out _).mono ?_
          rintro e w7' ⟨rfl, rfl⟩
          go_wp2_with fail
          refine (CB.out w7 HM7.out.tab (RowK.ofOwn HOb7.out).1).mono ?_
          rintro e w8 ⟨rfl, hb8⟩
          have HM8 := Lib.hid (HM7.out.next hb8)
          clear hb8 hb7
          go_wp2_with fail
          refine (HN1.out _).mono ?_
          rintro e w8' ⟨rfl, rfl⟩
          go_wp2
          go_roundg (12 - (10 + 1))
          case measure => omega
          case rel => exact ⟨10 + 1, by go_num, by omega, by omega, HM8.out⟩
      · have hmk := make64
        have hst := to_str (w5.alloc (.cells Z64 5)) _ _ 64 64 rfl (row64 w5)
        have hk65 := key65
        have hct : (strOfNums (List.replicate 64 0)).size = 64 := by rw [strOfNums_size]; rfl
        generalize strOfNums (List.replicate 64 0) = K64 at hst hk65 hct
        have lt6 := HT6.out.lt
        have lt7 := HT7.out.lt
        have z0 := HB6.out.cell 0 _ rfl
        have f0 := HB6.out.free 0 _ rfl
        have y0 := HB7.out.cell 0 _ rfl
        have e0 := HB7.out.free 0 _ rfl
        have z1 := HB6.out.cell 1 _ rfl
        have f1 := HB6.out.free 1 _ rfl
        have y1 := HB7.out.cell 1 _ rfl
        have e1 := HB7.out.free 1 _ rfl
        have z2 := HB6.out.cell 2 _ rfl
        have f2 := HB6.out.free 2 _ rfl
        have y2 := HB7.out.cell 2 _ rfl
        have e2 := HB7.out.free 2 _ rfl
        have z3 := HB6.out.cell 3 _ rfl
        have f3 := HB6.out.free 3 _ rfl
        have y3 := HB7.out.cell 3 _ rfl
        have e3 := HB7.out.free 3 _ rfl
        have z4 := HB6.out.cell 4 _ rfl
        have f4 := HB6.out.free 4 _ rfl
        have y4 := HB7.out.cell 4 _ rfl
        have e4 := HB7.out.free 4 _ rfl
        have z5 := HB6.out.cell 5 _ rfl
        have f5 := HB6.out.free 5 _ rfl
        have y5 := HB7.out.cell 5 _ rfl
        have e5 := HB7.out.free 5 _ rfl
        have z6 := HB6.out.cell 6 _ rfl
        have f6 := HB6.out.free 6 _ rfl
        have y6 := HB7.out.cell 6 _ rfl
        have e6 := HB7.out.free 6 _ rfl
        have z7 := HB6.out.cell 7 _ rfl
        have f7 := HB6.out.free 7 _ rfl
        have y7 := HB7.out.cell 7 _ rfl
        have e7 := HB7.out.free 7 _ rfl
        have z8 := HB6.out.cell 8 _ rfl
        have f8 := HB6.out.free 8 _ rfl
        have y8 := HB7.out.cell 8 _ rfl
        have e8 := HB7.out.free 8 _ rfl
        have z9 := HB6.out.cell 9 _ rfl
        have f9 := HB6.out.free 9 _ rfl
        have y9 := HB7.out.cell 9 _ rfl
        have e9 := HB7.out.free 9 _ rfl
        have z10 := HB6.out.cell 10 _ rfl
        have f10 := HB6.out.free 10 _ rfl
        have y10 := HB7.out.cell 10 _ rfl
        have e10 := HB7.out.free 10 _ rfl
        have z11 := HB6.out.cell 11 _ rfl
        have f11 := HB6.out.free 11 _ rfl
        have y11 := HB7.out.cell 11 _ rfl
        have e11 := HB7.out.free 11 _ rfl
        have HBa : Hid (Blk ((((w5.setCell ⟨g6, 9, none⟩ (.string (K64 ++ ⟨#[107]⟩))).setCell ⟨g7, 3, none⟩ (.slice (some ⟨w5.heap.size + 1, 0, none⟩) 2 2)).alloc (.cells Z64 5)).alloc (.cells #[.int .i64 (-1), .int .i64 2] 3)) g6 [.int .i64 1, .int .i64 0, .int .i64 1, .slice a4 1 c4, .int .i64 1, .int .i64 1, .int .i64 0, .int .i64 0, .int .i64 0, .string (K64 ++ ⟨#[107]⟩), .int .i64 0, .int .i64 0]) := Lib.hid ((((HB6.out.set 9 _).other hne' _ _).next (box_bel _ (.cells Z64 5))).next (box_bel _ (.cells #[.int .i64 (-1), .int .i64 2] 3)))
        have HBb : Hid (Blk ((((w5.setCell ⟨g6, 9, none⟩ (.string (K64 ++ ⟨#[107]⟩))).setCell ⟨g7, 3, none⟩ (.slice (some ⟨w5.heap.size + 1, 0, none⟩) 2 2)).alloc (.cells Z64 5)).alloc (.cells #[.int .i64 (-1), .int .i64 2] 3)) g7 [.int .i64 3, .int .i64 1, .int .i64 3, .slice (some ⟨w5.heap.size + 1, 0, none⟩) 2 2, .int .i64 2, .int .i64 2, .int .i64 0, .int .i64 0, .int .i64 0, .string ⟨#[]⟩, .int .i64 3, .int .i64 (-1)]) := Lib.hid ((((HB7.out.other hne _ _).set 3 _).next (box_bel _ (.cells Z64 5))).next (box_bel _ (.cells #[.int .i64 (-1), .int .i64 2] 3)))
        have HOa : Hid (OwnK .i64 3 ((((w5.setCell ⟨g6, 9, none⟩ (.string (K64 ++ ⟨#[107]⟩))).setCell ⟨g7, 3, none⟩ (.slice (some ⟨w5.heap.size + 1, 0, none⟩) 2 2)).alloc (.cells Z64 5)).alloc (.cells #[.int .i64 (-1), .int .i64 2] 3)) wr.heap.size (.slice a4 1 c4) [0]) := Lib.hid ((((HO1.out.grown (grown_setCell _ ⟨g6, 9, none⟩ (.string (K64 ++ ⟨#[107]⟩))) ((HT6.out).apart HO1.out)).grown (grown_setCell _ ⟨g7, 3, none⟩ (.slice (some ⟨w5.heap.size + 1, 0, none⟩) 2 2)) (((HT7.out.set _ _ _)).apart (HO1.out.grown (grown_setCell _ ⟨g6, 9, none⟩ (.string (K64 ++ ⟨#[107]⟩))) ((HT6.out).apart HO1.out)))).alloc (.cells Z64 5)).alloc (.cells #[.int .i64 (-1), .int .i64 2] 3))
        have HOb : Hid (OwnK .i64 3 ((((w5.setCell ⟨g6, 9, none⟩ (.string (K64 ++ ⟨#[107]⟩))).setCell ⟨g7, 3, none⟩ (.slice (some ⟨w5.heap.size + 1, 0, none⟩) 2 2)).alloc (.cells Z64 5)).alloc (.cells #[.int .i64 (-1), .int .i64 2] 3)) w5.heap.size (.slice (some ⟨w5.heap.size + 1, 0, none⟩) 2 2) [-1, 2]) := by
          have hq := (own_new (((w5.setCell ⟨g6, 9, none⟩ (.string (K64 ++ ⟨#[107]⟩))).setCell ⟨g7, 3, none⟩ (.slice (some ⟨w5.heap.size + 1, 0, none⟩) 2 2)).alloc (.cells Z64 5)) [-1, 2] 2 rfl (by decide))
          simp only [World.size_alloc, World.size_setCell] at hq
          exact Lib.hid (hq.mono (by omega))
        have HBL : Hid (Below wr.heap.size wr ((((w5.setCell ⟨g6, 9, none⟩ (.string (K64 ++ ⟨#[107]⟩))).setCell ⟨g7, 3, none⟩ (.slice (some ⟨w5.heap.size + 1, 0, none⟩) 2 2)).alloc (.cells Z64 5)).alloc (.cells #[.int .i64 (-1), .int .i64 2] 3))) := Lib.hid (bel_alloc (bel_alloc ((HB5.out.setCell (p := ⟨g6, 9, none⟩) HG6.out (.string (K64 ++ ⟨#[107]⟩))).setCell (p := ⟨g7, 3, none⟩) HG7.out (.slice (some ⟨w5.heap.size + 1, 0, none⟩) 2 2)) (Nat.le_refl _) (.cells Z64 5)) (Nat.le_refl _) (.cells #[.int .i64 (-1), .int .i64 2] 3))
        have HMx := Lib.hid (HM.out.next HBL.out)
        have CA := Lib.hid (fun W hT hR => check_is 1 0 1 a4 [0] 1 c4 1 1 0 0 0 (K64 ++ ⟨#[107]⟩) 0 0 W hT hR rfl (by decide) 1 (by rw [hk65]; rfl))
        have CB := Lib.hid (fun W hT hR => check_is 3 1 3 (some ⟨w5.heap.size + 1, 0, none⟩) [-1, 2] 2 2 2 2 0 0 0 ⟨#[]⟩ 3 (-1) W hT hR rfl (by decide) 1 (by rw [show opB 3 1 3 [-1, 2] 2 2 0 0 0 ⟨#[]⟩ 3 (-1) = false by decide]; rfl))
        clear HB6 HB7 HO1 HO3 HT6 HT7 HB5 HM
        go_wp2_with fail
        clear z0 f0 y0 e0 z1 f1 y1 e1 z2 f2 y2 e2 z3 f3 y3 e3 z4 f4 y4 e4 z5 f5 y5 e5 z6 f6 y6 e6 z7 f7 y7 e7 z8 f8 y8 e8 z9 f9 y9 e9 z10 f10 y10 e10 z11 f11 y11 e11
        generalize ((((w5.setCell ⟨g6, 9, none⟩ (.string (K64 ++ ⟨#[107]⟩))).setCell ⟨g7, 3, none⟩ (.slice (some ⟨w5.heap.size + 1, 0, none⟩) 2 2)).alloc (.cells Z64 5)).alloc (.cells #[.int .i64 (-1), .int .i64 2] 3)) = w6 at *
        refine (CA.out w6 HMx.out.tab (RowK.ofOwn HOa.out).1).mono ?_
        rintro e w7 ⟨rfl, hb7⟩
        have HM7 := Lib.hid (HMx.out.next hb7)
        have HBb7 := Lib.hid (HBb.out.next hb7)
        have HOb7 := Lib.hid (HOb.out.below hb7)
        have y0 := HBb7.out.cell 0 _ rfl
        have y1 := HBb7.out.cell 1 _ rfl
        have y2 := HBb7.out.cell 2 _ rfl
        have y3 := HBb7.out.cell 3 _ rfl
        have y4 := HBb7.out.cell 4 _ rfl
        have y5 := HBb7.out.cell 5 _ rfl
        have y6 := HBb7.out.cell 6 _ rfl
        have y7 := HBb7.out.cell 7 _ rfl
        have y8 := HBb7.out.cell 8 _ rfl
        have y9 := HBb7.out.cell 9 _ rfl
        have y10 := HBb7.out.cell 10 _ rfl
        have y11 := HBb7.out.cell 11 _ rfl
        go_wp2_with fail
        refine (HN1.out _).mono ?_
        rintro e w7' ⟨rfl, rfl⟩
        go_wp2_with fail
        refine (CB.out w7 HM7.out.tab (RowK.ofOwn HOb7.out).1).mono ?_
        rintro e w8 ⟨rfl, hb8⟩
        have HM8 := Lib.hid (HM7.out.next hb8)
        clear hb8 hb7
        go_wp2_with fail
        refine (HN1.out _).mono ?_
        rintro e w8' ⟨rfl, rfl⟩
        go_wp2
        go_roundg (12 - (11 + 1))
        case measure => omega
        case rel => exact ⟨11 + 1, by go_num, by omega, by omega, HM8.out⟩
    · have hi' : i = 12 := by omega
      subst hi'
      clear hi hi12 hg1
      have HTR := Lib.hid HM.out.tab
      go_wp2_with fail
      refine (wakes_op wr HTR.out).mono ?_
      rintro e w1 ⟨rfl, hb1⟩
      have HB1 := Lib.hid (HM.out.bel.trans (hb1.mono HM.out.bel.size))
      clear hb1
      go_wp2
      go_ret
      exact ⟨rfl, HB1.out⟩
end Go.Proofs.YtabbbpmhmlapgaaDoor
