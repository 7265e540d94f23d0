/- Small functions of the laws of operations. -/
import Derived.Test.YtabbbpmhmlapgaaDoorO9
import Derived.Test.YtabbbpmhmlapgaaDoorO9b
namespace Go.Proofs.YtabbbpmhmlapgaaDoor
open Go.RowKit Go.Lib
set_option linter.unusedVariables false

set_option maxHeartbeats 400000 in
theorem num15_any (n : Int) (w : World) : Calls Tryd.prog 6 #[.int .i64 n] w fun e w' => e = .returned (.int .i64 n) ∧ w = w' := by
  go_enter Tryd.func6, Tryd.ntmps6
  go_wp2
  go_ret
  exact ⟨rfl, rfl⟩
set_option maxHeartbeats 400000 in
theorem copyI_big (a : Option Addr) (zs : List Int) (n c : Nat) (w : World) (ha : RowK .i64 w a zs) (hn : n = zs.length) (hl : zs.length ≤ 17592186044416) :
    Calls Tryd.prog 17 #[.slice a n c] w (fun e w' => ∃ v, e = .returned v ∧ OwnK .i64 3 w' w.heap.size v zs ∧ Below w.heap.size w w') := by
  subst hn
  have HA := Lib.hid ha
  clear ha
  go_enter Tryd.func17, Tryd.ntmps17
  go_wp2
  go_loopg [3, 4] zs.length (fun g1 v i wr => ∃ k : Nat, i = .int .i64 k ∧ k ≤ zs.length ∧ zs.length - k ≤ g1 ∧ Hid (OwnK .i64 3 wr w.heap.size v (zs.take k) ∧ Below w.heap.size w wr))
  case atStart => exact ⟨0, rfl, Nat.zero_le _, by omega, ⟨OwnK.nil _ _ _ _, Below.refl _ _⟩⟩
  case round =>
    obtain ⟨k, rfl, hk, hg, HI⟩ := hrel
    by_cases hlt : k < zs.length
    · obtain ⟨b1, o1, rfl, hc1⟩ := HA.out k hlt
      have hbl := World.block_lt_of_cell? _ _ hc1
      have hsz := HI.out.2.size
      have hd1 : wr.cell? ⟨b1, o1 + k, none⟩ = some (.int .i64 (zs.getD k 0)) := (HI.out.2.cell (p := ⟨b1, o1 + k, none⟩) hbl).trans hc1
      have hltz : (k : Int) < (zs.length : Int) := by omega
      have HT := Lib.hid (take_getD zs k hlt)
      clear hc1 hbl
      generalize zs.getD k 0 = z at *
      go_wp2_with (at_builtin
                   refine wpI_one rfl _ _ rfl w.heap.size wr u3 (zs.take k) z rfl HI.out.1 rfl (by rw [List.length_take]; omega) (by omega) ?_
                   intro v1 w2 hp1
                   have HI2 : Hid (OwnK .i64 3 w2 w.heap.size v1 (zs.take (k + 1)) ∧ Below w.heap.size w w2) := ⟨by rw [HT.out]; exact hp1.own, hp1.bel _ _ HI.out.2 (Nat.le_refl _) (by omega)⟩
                   clear hp1 HI HT hd1)
      go_roundg (zs.length - (k + 1))
      case measure => omega
      case rel => exact ⟨k + 1, by go_num, by omega, by omega, HI2⟩
    · have hltz : ¬ (k : Int) < (zs.length : Int) := by omega
      have HF : Hid (OwnK .i64 3 wr w.heap.size u3 zs ∧ Below w.heap.size w wr) := by
        have h1 := HI.out.1
        rw [List.take_of_length_le (by omega)] at h1
        exact ⟨h1, HI.out.2⟩
      clear HI
      go_wp2
      go_ret
      exact ⟨u3, rfl, HF.out.1, HF.out.2⟩

def SomeInt (w : World) (e : Ending) (w' : World) : Prop := ∃ z : Int, e = .returned (.int .i64 z) ∧ Below w.heap.size w w'
/-- too much to be played: if not, the bytes are few -/
def HeavyPost (nx : Nat) (w : World) (e : Ending) (w' : World) : Prop := ∃ b : Bool, e = .returned (.bool b) ∧ (b = false → nx ≤ 3000) ∧ Below w.heap.size w w'
theorem HeavyPost.mk' {nx : Nat} {w w' : World} {b : Bool} (h : b = false → nx ≤ 3000) (hb : Below w.heap.size w w') : HeavyPost nx w (.returned (.bool b)) w' := ⟨b, rfl, h, hb⟩
theorem blkO_new (w : World) (t r q : Int) (d : Value) (k nt nr pt pr : Int) (s : ByteArray) (p v : Int) (ds : List Int) : Blk (w.alloc (.cells #[.int .i64 t, .int .i64 r, .int .i64 q, d, .int .i64 k, .int .i64 nt, .int .i64 nr, .int .i64 pt, .int .i64 pr, .string s, .int .i64 p, .int .i64 v] 27)) w.heap.size ((⟨t, r, ds, k, nt, nr, pt, pr, s, p, v⟩ : OpR).cells q d) := by
  constructor
  · intro i u hi
    match i, hi with
    | 0, hi | 1, hi | 2, hi | 3, hi | 4, hi | 5, hi | 6, hi | 7, hi | 8, hi | 9, hi | 10, hi | 11, hi => simp [OpR.cells] at hi; subst hi; simp
    | _ + 12, hi => simp [OpR.cells] at hi
  · intro i u hi
    match i, hi with
    | 0, hi | 1, hi | 2, hi | 3, hi | 4, hi | 5, hi | 6, hi | 7, hi | 8, hi | 9, hi | 10, hi | 11, hi => simp
    | _ + 12, hi => simp [OpR.cells] at hi

def CopyPost (t r q : Int) (ds : List Int) (k nt nr pt pr : Int) (s : ByteArray) (p v : Int) (w : World) (e : Ending) (w' : World) : Prop := ∃ da dn dc, e = .returned (.agg #[.int .i64 t, .int .i64 r, .int .i64 q, .slice da dn dc, .int .i64 k, .int .i64 nt, .int .i64 nr, .int .i64 pt, .int .i64 pr, .string s, .int .i64 p, .int .i64 v]) ∧ OwnK .i64 3 w' w.heap.size (.slice da dn dc) ds ∧ Below w.heap.size w w'
set_option maxHeartbeats 2000000 in
set_option maxRecDepth 100000 in
theorem copyOp_any (t r q : Int) (da : Option Addr) (ds : List Int) (dn dc : Nat) (k nt nr pt pr : Int) (s : ByteArray) (p v : Int) (w : World) (hr : RowK .i64 w da ds) (hn : dn = ds.length) (hl : ds.length ≤ 17592186044416) : Calls Tryd.prog 8 #[.agg #[.int .i64 t, .int .i64 r, .int .i64 q, .slice da dn dc, .int .i64 k, .int .i64 nt, .int .i64 nr, .int .i64 pt, .int .i64 pr, .string s, .int .i64 p, .int .i64 v]] w (CopyPost t r q ds k nt nr pt pr s p v w) := by
  obtain ⟨g, hg⟩ : ∃ g, w.heap.size = g := ⟨_, rfl⟩
  have HG : Hid (w.heap.size = g) := hg
  have HB0 := Lib.hid (box_bel w (.cells #[.int .i64 t, .int .i64 r, .int .i64 q, .slice da dn dc, .int .i64 k, .int .i64 nt, .int .i64 nr, .int .i64 pt, .int .i64 pr, .string s, .int .i64 p, .int .i64 v] 27))
  have HB1 := Lib.hid (HB0.out.trans ((box_bel (w.alloc (.cells #[.int .i64 t, .int .i64 r, .int .i64 q, .slice da dn dc, .int .i64 k, .int .i64 nt, .int .i64 nr, .int .i64 pt, .int .i64 pr, .string s, .int .i64 p, .int .i64 v] 27)) (.cells #[.int .i64 0, .int .i64 0, .int .i64 0, .slice none 0 0, .int .i64 0, .int .i64 0, .int .i64 0, .int .i64 0, .int .i64 0, .string ⟨#[]⟩, .int .i64 0, .int .i64 0] 27)).mono HB0.out.size))
  have HB2 := Lib.hid (HB1.out.trans ((box_bel ((w.alloc (.cells #[.int .i64 t, .int .i64 r, .int .i64 q, .slice da dn dc, .int .i64 k, .int .i64 nt, .int .i64 nr, .int .i64 pt, .int .i64 pr, .string s, .int .i64 p, .int .i64 v] 27)).alloc (.cells #[.int .i64 0, .int .i64 0, .int .i64 0, .slice none 0 0, .int .i64 0, .int .i64 0, .int .i64 0, .int .i64 0, .int .i64 0, .string ⟨#[]⟩, .int .i64 0, .int .i64 0] 27)) (.cells #[.int .i64 t, .int .i64 r, .int .i64 q, .slice da dn dc, .int .i64 k, .int .i64 nt, .int .i64 nr, .int .i64 pt, .int .i64 pr, .string s, .int .i64 p, .int .i64 v] 27)).mono HB1.out.size))
  have C := Lib.hid (copyI_big da ds dn dc (((w.alloc (.cells #[.int .i64 t, .int .i64 r, .int .i64 q, .slice da dn dc, .int .i64 k, .int .i64 nt, .int .i64 nr, .int .i64 pt, .int .i64 pr, .string s, .int .i64 p, .int .i64 v] 27)).alloc (.cells #[.int .i64 0, .int .i64 0, .int .i64 0, .slice none 0 0, .int .i64 0, .int .i64 0, .int .i64 0, .int .i64 0, .int .i64 0, .string ⟨#[]⟩, .int .i64 0, .int .i64 0] 27)).alloc (.cells #[.int .i64 t, .int .i64 r, .int .i64 q, .slice da dn dc, .int .i64 k, .int .i64 nt, .int .i64 nr, .int .i64 pt, .int .i64 pr, .string s, .int .i64 p, .int .i64 v] 27)) (((hr.alloc _).alloc _).alloc _) hn hl)
  have HR1 : Hid (Blk (((w.alloc (.cells #[.int .i64 t, .int .i64 r, .int .i64 q, .slice da dn dc, .int .i64 k, .int .i64 nt, .int .i64 nr, .int .i64 pt, .int .i64 pr, .string s, .int .i64 p, .int .i64 v] 27)).alloc (.cells #[.int .i64 0, .int .i64 0, .int .i64 0, .slice none 0 0, .int .i64 0, .int .i64 0, .int .i64 0, .int .i64 0, .int .i64 0, .string ⟨#[]⟩, .int .i64 0, .int .i64 0] 27)).alloc (.cells #[.int .i64 t, .int .i64 r, .int .i64 q, .slice da dn dc, .int .i64 k, .int .i64 nt, .int .i64 nr, .int .i64 pt, .int .i64 pr, .string s, .int .i64 p, .int .i64 v] 27)) (g + 1) (zR.cells 0 (.slice none 0 0))) := by
    have h1 := (blk_new (w.alloc (.cells #[.int .i64 t, .int .i64 r, .int .i64 q, .slice da dn dc, .int .i64 k, .int .i64 nt, .int .i64 nr, .int .i64 pt, .int .i64 pr, .string s, .int .i64 p, .int .i64 v] 27))).next (box_bel _ (.cells #[.int .i64 t, .int .i64 r, .int .i64 q, .slice da dn dc, .int .i64 k, .int .i64 nt, .int .i64 nr, .int .i64 pt, .int .i64 pr, .string s, .int .i64 p, .int .i64 v] 27))
    rw [World.size_alloc, hg] at h1
    exact h1
  have HX1 : Hid (Blk (((w.alloc (.cells #[.int .i64 t, .int .i64 r, .int .i64 q, .slice da dn dc, .int .i64 k, .int .i64 nt, .int .i64 nr, .int .i64 pt, .int .i64 pr, .string s, .int .i64 p, .int .i64 v] 27)).alloc (.cells #[.int .i64 0, .int .i64 0, .int .i64 0, .slice none 0 0, .int .i64 0, .int .i64 0, .int .i64 0, .int .i64 0, .int .i64 0, .string ⟨#[]⟩, .int .i64 0, .int .i64 0] 27)).alloc (.cells #[.int .i64 t, .int .i64 r, .int .i64 q, .slice da dn dc, .int .i64 k, .int .i64 nt, .int .i64 nr, .int .i64 pt, .int .i64 pr, .string s, .int .i64 p, .int .i64 v] 27)) (g + 1 + 1) ((⟨t, r, ds, k, nt, nr, pt, pr, s, p, v⟩ : OpR).cells q (.slice da dn dc))) := by
    have h1 := blkO_new ((w.alloc (.cells #[.int .i64 t, .int .i64 r, .int .i64 q, .slice da dn dc, .int .i64 k, .int .i64 nt, .int .i64 nr, .int .i64 pt, .int .i64 pr, .string s, .int .i64 p, .int .i64 v] 27)).alloc (.cells #[.int .i64 0, .int .i64 0, .int .i64 0, .slice none 0 0, .int .i64 0, .int .i64 0, .int .i64 0, .int .i64 0, .int .i64 0, .string ⟨#[]⟩, .int .i64 0, .int .i64 0] 27)) t r q (.slice da dn dc) k nt nr pt pr s p v ds
    rw [World.size_alloc, World.size_alloc, hg] at h1
    exact h1
  have HSZ : Hid ((((w.alloc (.cells #[.int .i64 t, .int .i64 r, .int .i64 q, .slice da dn dc, .int .i64 k, .int .i64 nt, .int .i64 nr, .int .i64 pt, .int .i64 pr, .string s, .int .i64 p, .int .i64 v] 27)).alloc (.cells #[.int .i64 0, .int .i64 0, .int .i64 0, .slice none 0 0, .int .i64 0, .int .i64 0, .int .i64 0, .int .i64 0, .int .i64 0, .string ⟨#[]⟩, .int .i64 0, .int .i64 0] 27)).alloc (.cells #[.int .i64 t, .int .i64 r, .int .i64 q, .slice da dn dc, .int .i64 k, .int .i64 nt, .int .i64 nr, .int .i64 pt, .int .i64 pr, .string s, .int .i64 p, .int .i64 v] 27)).heap.size = g + 3) := (by simp [hg] : (((w.alloc (.cells #[.int .i64 t, .int .i64 r, .int .i64 q, .slice da dn dc, .int .i64 k, .int .i64 nt, .int .i64 nr, .int .i64 pt, .int .i64 pr, .string s, .int .i64 p, .int .i64 v] 27)).alloc (.cells #[.int .i64 0, .int .i64 0, .int .i64 0, .slice none 0 0, .int .i64 0, .int .i64 0, .int .i64 0, .int .i64 0, .int .i64 0, .string ⟨#[]⟩, .int .i64 0, .int .i64 0] 27)).alloc (.cells #[.int .i64 t, .int .i64 r, .int .i64 q, .slice da dn dc, .int .i64 k, .int .i64 nt, .int .i64 nr, .int .i64 pt, .int .i64 pr, .string s, .int .i64 p, .int .i64 v] 27)).heap.size = g + 3)
  clear hr hn hl
  go_enter Tryd.func8, Tryd.ntmps8
  go_wp2_with fail
  refine (C.out).mono ?_
  rintro e w1 ⟨v1, rfl, ho, hb⟩
  have HO1 := Lib.hid (ho.mono (show g + 3 ≤ _ from Nat.le_of_eq HSZ.out.symm))
  have HL1 := Lib.hid (HB2.out.trans (hb.mono HB2.out.size))
  have HR2 := Lib.hid (HR1.out.next hb)
  have HX2 := Lib.hid (HX1.out.next hb)
  obtain ⟨a9, n9, c9, rfl, hn9, hr9, hc9⟩ := ho.form'
  clear ho hb hn9 hr9 hc9 HR1 HX1 C HB0 HB1 HB2 hg
  have xc0 := HX2.out.cell 0 _ rfl
  have xc1 := HX2.out.cell 1 _ rfl
  have xc2 := HX2.out.cell 2 _ rfl
  have xc3 := HX2.out.cell 3 _ rfl
  have xc4 := HX2.out.cell 4 _ rfl
  have xc5 := HX2.out.cell 5 _ rfl
  have xc6 := HX2.out.cell 6 _ rfl
  have xc7 := HX2.out.cell 7 _ rfl
  have xc8 := HX2.out.cell 8 _ rfl
  have xc9 := HX2.out.cell 9 _ rfl
  have xc10 := HX2.out.cell 10 _ rfl
  have xc11 := HX2.out.cell 11 _ rfl
  have xf3 := HX2.out.free 3 _ rfl
  have zc0 := HR2.out.cell 0 _ rfl
  have zf0 := HR2.out.free 0 _ rfl
  have zc1 := HR2.out.cell 1 _ rfl
  have zf1 := HR2.out.free 1 _ rfl
  have zc2 := HR2.out.cell 2 _ rfl
  have zf2 := HR2.out.free 2 _ rfl
  have zc3 := HR2.out.cell 3 _ rfl
  have zf3 := HR2.out.free 3 _ rfl
  have zc4 := HR2.out.cell 4 _ rfl
  have zf4 := HR2.out.free 4 _ rfl
  have zc5 := HR2.out.cell 5 _ rfl
  have zf5 := HR2.out.free 5 _ rfl
  have zc6 := HR2.out.cell 6 _ rfl
  have zf6 := HR2.out.free 6 _ rfl
  have zc7 := HR2.out.cell 7 _ rfl
  have zf7 := HR2.out.free 7 _ rfl
  have zc8 := HR2.out.cell 8 _ rfl
  have zf8 := HR2.out.free 8 _ rfl
  have zc9 := HR2.out.cell 9 _ rfl
  have zf9 := HR2.out.free 9 _ rfl
  have zc10 := HR2.out.cell 10 _ rfl
  have zf10 := HR2.out.free 10 _ rfl
  have zc11 := HR2.out.cell 11 _ rfl
  have zf11 := HR2.out.free 11 _ rfl
  go_wp2
  have HZ := (((((((((((((HR2.out.other (b := g + 1 + 1) (by omega) 3 (.slice a9 n9 c9)).set 0 (.int .i64 t)).set 1 (.int .i64 r)).set 2 (.int .i64 q)).set 3 (.slice a9 n9 c9)).set 4 (.int .i64 k)).set 5 (.int .i64 nt)).set 6 (.int .i64 nr)).set 7 (.int .i64 pt)).set 8 (.int .i64 pr)).set 9 (.string s)).set 10 (.int .i64 p)).set 11 (.int .i64 v))
  have z0 := HZ.cell 0 _ rfl
  have z1 := HZ.cell 1 _ rfl
  have z2 := HZ.cell 2 _ rfl
  have z3 := HZ.cell 3 _ rfl
  have z4 := HZ.cell 4 _ rfl
  have z5 := HZ.cell 5 _ rfl
  have z6 := HZ.cell 6 _ rfl
  have z7 := HZ.cell 7 _ rfl
  have z8 := HZ.cell 8 _ rfl
  have z9 := HZ.cell 9 _ rfl
  have z10 := HZ.cell 10 _ rfl
  have z11 := HZ.cell 11 _ rfl
  refine bodyPost_ret (v := .agg #[.int .i64 t, .int .i64 r, .int .i64 q, .slice a9 n9 c9, .int .i64 k, .int .i64 nt, .int .i64 nr, .int .i64 pt, .int .i64 pr, .string s, .int .i64 p, .int .i64 v]) (by simp [results, Tryd.results8, go_sem, z0, z1, z2, z3, z4, z5, z6, z7, z8, z9, z10, z11]) rfl ?_
  exact ⟨_, _, _, rfl, (((((((((((((HO1.out.far (show g + 1 + 1 < g + 3 by omega) 3 (.slice a9 n9 c9)).far (show g + 1 < g + 3 by omega) 0 (.int .i64 t)).far (show g + 1 < g + 3 by omega) 1 (.int .i64 r)).far (show g + 1 < g + 3 by omega) 2 (.int .i64 q)).far (show g + 1 < g + 3 by omega) 3 (.slice a9 n9 c9)).far (show g + 1 < g + 3 by omega) 4 (.int .i64 k)).far (show g + 1 < g + 3 by omega) 5 (.int .i64 nt)).far (show g + 1 < g + 3 by omega) 6 (.int .i64 nr)).far (show g + 1 < g + 3 by omega) 7 (.int .i64 pt)).far (show g + 1 < g + 3 by omega) 8 (.int .i64 pr)).far (show g + 1 < g + 3 by omega) 9 (.string s)).far (show g + 1 < g + 3 by omega) 10 (.int .i64 p)).far (show g + 1 < g + 3 by omega) 11 (.int .i64 v)).mono (by have := HG.out; omega), (((((((((((((HL1.out.setCell (p := ⟨g + 1 + 1, 3, none⟩) (by have := HG.out; show w.heap.size ≤ g + 1 + 1; omega) (.slice a9 n9 c9)).setCell (p := ⟨g + 1, 0, none⟩) (by have := HG.out; show w.heap.size ≤ g + 1; omega) (.int .i64 t)).setCell (p := ⟨g + 1, 1, none⟩) (by have := HG.out; show w.heap.size ≤ g + 1; omega) (.int .i64 r)).setCell (p := ⟨g + 1, 2, none⟩) (by have := HG.out; show w.heap.size ≤ g + 1; omega) (.int .i64 q)).setCell (p := ⟨g + 1, 3, none⟩) (by have := HG.out; show w.heap.size ≤ g + 1; omega) (.slice a9 n9 c9)).setCell (p := ⟨g + 1, 4, none⟩) (by have := HG.out; show w.heap.size ≤ g + 1; omega) (.int .i64 k)).setCell (p := ⟨g + 1, 5, none⟩) (by have := HG.out; show w.heap.size ≤ g + 1; omega) (.int .i64 nt)).setCell (p := ⟨g + 1, 6, none⟩) (by have := HG.out; show w.heap.size ≤ g + 1; omega) (.int .i64 nr)).setCell (p := ⟨g + 1, 7, none⟩) (by have := HG.out; show w.heap.size ≤ g + 1; omega) (.int .i64 pt)).setCell (p := ⟨g + 1, 8, none⟩) (by have := HG.out; show w.heap.size ≤ g + 1; omega) (.int .i64 pr)).setCell (p := ⟨g + 1, 9, none⟩) (by have := HG.out; show w.heap.size ≤ g + 1; omega) (.string s)).setCell (p := ⟨g + 1, 10, none⟩) (by have := HG.out; show w.heap.size ≤ g + 1; omega) (.int .i64 p)).setCell (p := ⟨g + 1, 11, none⟩) (by have := HG.out; show w.heap.size ≤ g + 1; omega) (.int .i64 v))⟩

end Go.Proofs.YtabbbpmhmlapgaaDoor
