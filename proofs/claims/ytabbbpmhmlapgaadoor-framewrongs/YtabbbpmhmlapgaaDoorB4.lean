/- The place that bytes begin with: the program's, the page's. -/
import Derived.Test.YtabbbpmhmlapgaaDoorB3
namespace Go.Proofs.YtabbbpmhmlapgaaDoor.St
open Go.RowKit Go.Lib
set_option linter.unusedVariables false

def TakeSt (R : Int × Int × Nat × Int) (w : World) (e : Ending) (w' : World) : Prop := e = .returned (.tuple #[.agg #[.int .i64 R.1, .int .i64 R.2.1], .int .i64 (R.2.2.1 : Int), .int .i64 R.2.2.2]) ∧ Below w.heap.size w w'
/-- a stamp in a block of one's own, that may be written -/
structure StW (w : World) (g : Nat) (t r : Int) : Prop where
  c0 : w.cell? ⟨g, 0, none⟩ = some (.int .i64 t)
  c1 : w.cell? ⟨g, 1, none⟩ = some (.int .i64 r)
  f0 : w.frozen? ⟨g, 0, none⟩ = false
  f1 : w.frozen? ⟨g, 1, none⟩ = false
theorem StW.new (w : World) (t r : Int) : StW (w.alloc (.cells #[.int .i64 t, .int .i64 r] 24)) w.heap.size t r := ⟨by simp, by simp, by simp, by simp⟩
theorem StW.next {w w' : World} {g : Nat} {t r : Int} (h : StW w g t r) (hb : Below w.heap.size w w') : StW w' g t r := by
  have hl := World.block_lt_of_cell? _ _ h.c0
  exact ⟨(hb.cell (p := ⟨g, 0, none⟩) hl).trans h.c0, (hb.cell (p := ⟨g, 1, none⟩) hl).trans h.c1, (hb.frozen (p := ⟨g, 0, none⟩) hl).trans h.f0, (hb.frozen (p := ⟨g, 1, none⟩) hl).trans h.f1⟩
theorem below_set2 {w w1 : World} (h : Below w.heap.size w w1) (u v : Value) : Below w.heap.size w ((w1.setCell ⟨w.heap.size, 0, none⟩ u).setCell ⟨w.heap.size, 1, none⟩ v) :=
  (h.setCell (p := ⟨w.heap.size, 0, none⟩) (Nat.le_refl _) u).setCell (p := ⟨w.heap.size, 1, none⟩) (Nat.le_refl _) v
theorem set2_cells {w1 : World} {g : Nat} {t r : Int} (h : StW w1 g t r) (u v : Value) : ((w1.setCell ⟨g, 0, none⟩ u).setCell ⟨g, 1, none⟩ v).cell? ⟨g, 0, none⟩ = some u ∧ ((w1.setCell ⟨g, 0, none⟩ u).setCell ⟨g, 1, none⟩ v).cell? ⟨g, 1, none⟩ = some v := by
  have h1 : (w1.setCell ⟨g, 0, none⟩ u).cell? ⟨g, 0, none⟩ = some u := World.cell?_setCell_same' _ _ _ (by rw [h.c0]; rfl)
  have h2 : (w1.setCell ⟨g, 0, none⟩ u).cell? ⟨g, 1, none⟩ = some (.int .i64 r) := by rw [World.cell?_setCell_other _ _ _ _ (by simp)]; exact h.c1
  refine ⟨?_, World.cell?_setCell_same' _ _ _ (by rw [h2]; rfl)⟩
  rw [World.cell?_setCell_other _ _ _ _ (by simp)]
  exact h1

set_option maxHeartbeats 2000000 in
set_option maxRecDepth 100000 in
theorem take_any (a : Option Addr) (bs : List Int) (n cap : Nat) (w : World) (hn : n = bs.length) (hr : RowK .u8 w a bs) (hb : IsB bs) (hcap : bs.length ≤ cap) (hlen : bs.length ≤ 140737488355328) : Calls Tryd.prog 47 #[.slice a n cap] w (TakeSt (tkSt bs) w) := by
  subst hn
  have hbd := st_build
  have hb0 := st_build0
  have H1 := Lib.hid (takeNum_any a bs cap (w.alloc (.cells #[.int .i64 0, .int .i64 0] 24)) (hr.alloc _) hb)
  unfold TakePost at H1
  by_cases he : (tkN bs).2.2 = 0
  · obtain ⟨k1, k2, k3⟩ := tkN_k bs hb
    have H2 := Lib.hid (fun W (h : RowK .u8 W a bs) => takeNum_any (partA a (tkN bs).2.1 cap) (bs.drop (tkN bs).2.1) (cap - (tkN bs).2.1) W (h.rest _ cap hcap) (hb.drop _))
    rw [List.length_drop] at H2
    unfold TakePost at H2
    have hsl := fun W => slice_l W a bs.length cap (tkN bs).2.1 ((tkN bs).2.1 : Int) rfl k1
    have HR0 := Lib.hid (hr.alloc (.cells #[.int .i64 0, .int .i64 0] 24))
    rw [he] at H1
    obtain ⟨m1, m2, m3⟩ := tkN_k (bs.drop (tkN bs).2.1) (hb.drop _)
    rw [List.length_drop] at m1
    by_cases he2 : (tkN (bs.drop (tkN bs).2.1)).2.2 = 0
    · rw [he2] at H2
      cases hp : plB (tkN bs).1 (tkN (bs.drop (tkN bs).2.1)).1
      · rw [tkSt_no he he2 hp]
        have HP := Lib.hid (fun W => place_is _ _ false hp W)
        clear he he2 hp hr hb
        generalize (tkN (bs.drop (tkN bs).2.1)).1 = r at *
        generalize (tkN (bs.drop (tkN bs).2.1)).2.1 = m at *
        generalize (tkN bs).1 = t at *
        generalize (tkN bs).2.1 = k at *
        go_enter Tryd.func47, Tryd.ntmps47
        go_wp2_with fail
        refine (H1.out).mono ?_
        rintro e w' ⟨rfl, rfl⟩
        go_wp2_with fail
        refine (H2.out _ HR0.out).mono ?_
        rintro e w' ⟨rfl, rfl⟩
        go_wp2_with fail
        refine (HP.out _).mono ?_
        rintro e w1 ⟨rfl, hb1⟩
        have HB1 := Lib.hid ((below_box w _).trans (hb1.mono (below_box w _).size))
        have hsw := (StW.new w t r).next hb1
        have HSW := Lib.hid hsw
        obtain ⟨e0, e1, e2, e3⟩ := hsw
        clear hb1
        go_wp2
        obtain ⟨r0, r1⟩ := set2_cells HSW.out (.int .i64 0) (.int .i64 0)
        refine bodyPost_ret (v := .tuple #[.agg #[.int .i64 0, .int .i64 0], .int .i64 0, .int .i64 1]) (by simp [results, Tryd.results47, go_sem, r0, r1]) rfl ?_
        exact ⟨rfl, below_set2 HB1.out _ _⟩
      · rw [tkSt_yes he he2 hp]
        have HP := Lib.hid (fun W => place_is _ _ true hp W)
        clear he he2 hp hr hb
        generalize (tkN (bs.drop (tkN bs).2.1)).1 = r at *
        generalize (tkN (bs.drop (tkN bs).2.1)).2.1 = m at *
        generalize (tkN bs).1 = t at *
        generalize (tkN bs).2.1 = k at *
        go_enter Tryd.func47, Tryd.ntmps47
        go_wp2_with fail
        refine (H1.out).mono ?_
        rintro e w' ⟨rfl, rfl⟩
        go_wp2_with fail
        refine (H2.out _ HR0.out).mono ?_
        rintro e w' ⟨rfl, rfl⟩
        go_wp2_with fail
        refine (HP.out _).mono ?_
        rintro e w1 ⟨rfl, hb1⟩
        have HB1 := Lib.hid ((below_box w _).trans (hb1.mono (below_box w _).size))
        have hsw := (StW.new w t r).next hb1
        have HSW := Lib.hid hsw
        obtain ⟨e0, e1, e2, e3⟩ := hsw
        clear hb1
        go_wp2
        obtain ⟨r0, r1⟩ := set2_cells HSW.out (.int .i64 t) (.int .i64 r)
        refine bodyPost_ret (v := .tuple #[.agg #[.int .i64 t, .int .i64 r], .int .i64 ((k + m : Nat) : Int), .int .i64 0]) (by simp [results, Tryd.results47, go_sem, r0, r1]) rfl ?_
        exact ⟨rfl, below_set2 HB1.out _ _⟩
    · rw [tkSt_err2 he he2]
      clear he hr hb
      generalize (tkN (bs.drop (tkN bs).2.1)).2.2 = x at *
      generalize (tkN (bs.drop (tkN bs).2.1)).1 = r at *
      generalize (tkN (bs.drop (tkN bs).2.1)).2.1 = m at *
      generalize (tkN bs).1 = t at *
      generalize (tkN bs).2.1 = k at *
      have hx : (x == 0) = false := by simpa using he2
      go_enter Tryd.func47, Tryd.ntmps47
      go_wp2_with fail
      refine (H1.out).mono ?_
      rintro e w' ⟨rfl, rfl⟩
      go_wp2_with fail
      refine (H2.out _ HR0.out).mono ?_
      rintro e w' ⟨rfl, rfl⟩
      go_wp2
      refine bodyPost_ret (v := .tuple #[.agg #[.int .i64 0, .int .i64 0], .int .i64 0, .int .i64 x]) (by simp [results, Tryd.results47, go_sem]) rfl ?_
      exact ⟨rfl, below_box _ _⟩
  · rw [tkSt_err he]
    clear hr hb
    generalize (tkN bs).2.2 = x at *
    generalize (tkN bs).1 = t at *
    generalize (tkN bs).2.1 = k at *
    have hx : (x == 0) = false := by simpa using he
    go_enter Tryd.func47, Tryd.ntmps47
    go_wp2_with fail
    refine (H1.out).mono ?_
    rintro e w' ⟨rfl, rfl⟩
    go_wp2
    refine bodyPost_ret (v := .tuple #[.agg #[.int .i64 0, .int .i64 0], .int .i64 0, .int .i64 x]) (by simp [results, Tryd.results47, go_sem]) rfl ?_
    exact ⟨rfl, below_box _ _⟩

end Go.Proofs.YtabbbpmhmlapgaaDoor.St
