/- The page's taker: a stamp. -/
import Derived.Test.YtknfpildkiekcaaDoorO11
namespace Go.Proofs.YtknfpildkiekcaaDoor
open Go.RowKit Go.Lib
set_option linter.unusedVariables false

theorem heldT_next {w0 w1 w2 : World} {h : Nat} {u v : Value} (hS : w1.cell? ⟨h, 0, none⟩ = some u ∧ w1.cell? ⟨h, 1, none⟩ = some v ∧ Hid (Below w0.heap.size w0 w1)) (hb : Below w1.heap.size w1 w2) : w2.cell? ⟨h, 0, none⟩ = some u ∧ w2.cell? ⟨h, 1, none⟩ = some v ∧ Hid (Below w0.heap.size w0 w2) := by
  have hl := World.block_lt_of_cell? _ _ hS.1
  exact ⟨(hb.cell (p := ⟨h, 0, none⟩) hl).trans hS.1, (hb.cell (p := ⟨h, 1, none⟩) hl).trans hS.2.1, Lib.hid (hS.2.2.out.trans (hb.mono hS.2.2.out.size))⟩
theorem heldT_alloc {w0 w1 : World} {h : Nat} {u v : Value} (hS : w1.cell? ⟨h, 0, none⟩ = some u ∧ w1.cell? ⟨h, 1, none⟩ = some v ∧ Hid (Below w0.heap.size w0 w1)) (o : Obj) : (w1.alloc o).cell? ⟨h, 0, none⟩ = some u ∧ (w1.alloc o).cell? ⟨h, 1, none⟩ = some v ∧ Hid (Below w0.heap.size w0 (w1.alloc o)) := heldT_next hS (box_bel w1 o)

theorem heldT_set2 {w0 w1 : World} {h : Nat} {u v : Value} (hS : w1.cell? ⟨h, 0, none⟩ = some u ∧ w1.cell? ⟨h, 1, none⟩ = some v ∧ Hid (Below w0.heap.size w0 w1)) {b : Nat} (hne : b ≠ h) (hb : w0.heap.size ≤ b) (x y : Value) : ((w1.setCell ⟨b, 0, none⟩ x).setCell ⟨b, 1, none⟩ y).cell? ⟨h, 0, none⟩ = some u ∧ ((w1.setCell ⟨b, 0, none⟩ x).setCell ⟨b, 1, none⟩ y).cell? ⟨h, 1, none⟩ = some v ∧ Hid (Below w0.heap.size w0 ((w1.setCell ⟨b, 0, none⟩ x).setCell ⟨b, 1, none⟩ y)) := by
  refine ⟨?_, ?_, Lib.hid ((hS.2.2.out.setCell (p := ⟨b, 0, none⟩) hb x).setCell (p := ⟨b, 1, none⟩) hb y)⟩
  · rw [World.cell?_setCell_far _ _ _ _ (by simpa using hne), World.cell?_setCell_far _ _ _ _ (by simpa using hne)]; exact hS.1
  · rw [World.cell?_setCell_far _ _ _ _ (by simpa using hne), World.cell?_setCell_far _ _ _ _ (by simpa using hne)]; exact hS.2.1
theorem blk2_new (W : World) (x y : Int) : Blk (W.alloc (.cells #[.int .i64 x, .int .i64 y] 25)) W.heap.size [.int .i64 x, .int .i64 y] := by
  constructor
  · intro i u hi
    match i, hi with
    | 0, hi | 1, hi => simp at hi; subst hi; simp
    | _ + 2, hi => simp at hi
  · intro i u hi
    match i, hi with
    | 0, hi | 1, hi => simp
    | _ + 2, hi => simp at hi
theorem blk2_after {W w8 : World} {x y : Int} (hb : Below (W.alloc (.cells #[.int .i64 x, .int .i64 y] 25)).drew.heap.size (W.alloc (.cells #[.int .i64 x, .int .i64 y] 25)).drew w8) : Blk w8 W.heap.size [.int .i64 x, .int .i64 y] := (blk2_new W x y).drew.next hb
theorem blk2_after2 {W w8 : World} {x y x' y' : Int} (hb : Below ((W.alloc (.cells #[.int .i64 x, .int .i64 y] 25)).alloc (.cells #[.int .i64 x', .int .i64 y'] 25)).drew.heap.size ((W.alloc (.cells #[.int .i64 x, .int .i64 y] 25)).alloc (.cells #[.int .i64 x', .int .i64 y'] 25)).drew w8) : Blk w8 W.heap.size [.int .i64 x, .int .i64 y] := ((blk2_new W x y).next (box_bel _ _)).drew.next hb
theorem grown_at {w w' : World} {row : Option Nat} {b : Nat} (h : w.grownBy w' row) (hb : w.heap.size ≤ b) (i : Nat) (u : Value) : w.grownBy (w'.setCell ⟨b, i, none⟩ u) row :=
  ⟨h.os, h.tape, h.output, Nat.le_trans h.size (by simp [World.setCell]), fun k hk hne => (Below.heap_setCell _ _ _ k (by intro e; simp at e; omega)).trans (h.block k hk hne)⟩
structure StI (w W2 : World) (h b : Nat) (a : Option Addr) (n cap kk : Nat) (y1 y2 : Int) : Prop where
  s : Blk W2 b [.int .i64 y1, .int .i64 y2]
  t : Blk W2 h (tkrV a n cap (kk : Int) 0)
  r : Blk W2 w.heap.size [.int .i64 0, .int .i64 0]
  bel : Below w.heap.size w W2
  ne1 : b ≠ h
  ne2 : b ≠ w.heap.size
set_option maxHeartbeats 2000000 in
theorem tstamp_on (h : Nat) (a : Option Addr) (bs : List Int) (n cap kk : Nat) (w : World) (hB : Blk w h (tkrV a n cap (kk : Int) 0)) (hn : n = bs.length) (hr : RowK .u8 w a bs) (hb : IsB bs) (hcap : bs.length ≤ cap) (hlen : bs.length ≤ 140737488355328) (hk : kk ≤ bs.length) {y1 y2 : Int} {k' : Nat} {x : Int} (hs : St.tkSt (bs.drop kk) = (y1, y2, k', x)) : Calls Tryd.prog 46 #[.pointer (some ⟨h, 0, none⟩)] w (StT h a n cap y1 y2 ((kk + k' : Nat) : Int) x w) := by
  have HB := Lib.hid hB
  have mixed : Tryd.prog.follows .mixedOrders = true := by kernel_rfl
  have hk' : k' ≤ bs.length - kk := by have := tkSt_k (bs.drop kk) (hb.drop kk); rw [hs, List.length_drop] at this; exact this
  have e0 : w.cell? ⟨h, 0, none⟩ = some (.slice a n cap) := hB.cell 0 _ rfl
  have e1 : w.cell? ⟨h, 1, none⟩ = some (.int .i64 (kk : Int)) := hB.cell 1 _ rfl
  have e2 : w.cell? ⟨h, 2, none⟩ = some (.int .i64 0) := hB.cell 2 _ rfl
  have f1 : w.frozen? ⟨h, 1, none⟩ = false := hB.free 1 _ rfl
  have f2 : w.frozen? ⟨h, 2, none⟩ = false := hB.free 2 _ rfl
  have hlt := hB.lt
  have hS0 : (w.alloc (.cells #[.int .i64 0, .int .i64 0] 25)).drew.cell? ⟨h, 0, none⟩ = some (.slice a n cap) ∧ (w.alloc (.cells #[.int .i64 0, .int .i64 0] 25)).drew.cell? ⟨h, 1, none⟩ = some (.int .i64 (kk : Int)) ∧ Hid (Below w.heap.size w (w.alloc (.cells #[.int .i64 0, .int .i64 0] 25)).drew) := heldT_next (w0 := w) (w1 := w) ⟨e0, e1, Lib.hid (Below.refl _ _)⟩ (box_bel w _).drew
  have hsl := fun W => slice_l W a n cap kk (kk : Int) rfl (by omega)
  have C := Lib.hid (fun (W : World) (hS : W.cell? ⟨h, 0, none⟩ = some (.slice a n cap) ∧ W.cell? ⟨h, 1, none⟩ = some (.int .i64 (kk : Int)) ∧ Hid (Below w.heap.size w W)) => St.refTake_is (partA a kk cap) (bs.drop kk) (n - kk) (cap - kk) W (by rw [List.length_drop, hn]) ((hr.below hS.2.2.out (Nat.le_refl _)).rest kk cap hcap) (hb.drop kk) (by rw [List.length_drop]; omega) (by rw [List.length_drop]; omega) hs)
  have hbd : (kk : Int) + (k' : Int) ≤ 140737488355328 := by omega
  have hk2 : kk ≤ n := by omega
  clear hB hr hb hs hn hcap hlen hk hk'
  go_enter Tryd.func46, Tryd.ntmps46
  go_wp2_with fail
  go_region_held3 (fun w' => w'.cell? ⟨h, 0, none⟩ = some (.slice a n cap) ∧ w'.cell? ⟨h, 1, none⟩ = some (.int .i64 (kk : Int)) ∧ Hid (Below w.heap.size w w')) (first | assumption | exact heldT_alloc (by assumption) _ | exact heldT_set2 (by assumption) (by omega) (by omega) _ _) (first
    | (go_at_call 71
       (with_reducible refine (C.out _ (by assumption)).mono ?_)
       rintro e w8 ⟨rfl, hb8⟩
       have hS1 := heldT_next (w0 := w) (by assumption) hb8
       have hsz := hS1.2.2.out.size
       have HB8 := Lib.hid (HB.out.next hS1.2.2.out)
       first
         | (with_reducible have q := blk2_after (W := w.alloc (.cells #[.int .i64 0, .int .i64 0] 25)) hb8
            have q' : Blk w8 (w.heap.size + 1) [.int .i64 0, .int .i64 0] := by simpa using q
            have q0 := q'.cell 0 _ rfl
            have q1 := q'.cell 1 _ rfl
            have q2 := q'.free 0 _ rfl
            have q3 := q'.free 1 _ rfl
            have HQ := Lib.hid q'
            have HR8 := Lib.hid (blk2_after2 hb8)
            clear q q')
         | have HR8 := Lib.hid (blk2_after (W := w) hb8)))
  · have HI : Hid (StI w (w8.alloc (.cells #[.int .i64 y1, .int .i64 y2] 25)) h (w8.heap.size) a n cap kk y1 y2) := ⟨blk2_new w8 y1 y2, HB8.out.next (box_bel w8 _), HR8.out.next (box_bel w8 _), hS1.2.2.out.trans ((box_bel w8 _).mono hsz), by have := HB8.out.lt; omega, by have := HR8.out.lt; omega⟩
    generalize w8.alloc (.cells #[.int .i64 y1, .int .i64 y2] 25) = W2 at *
    generalize w8.heap.size = b at *
    clear e0 e1 e2 f1 f2 hS0 hS1
    have e1 := HI.out.t.cell 1 _ rfl
    have e2 := HI.out.t.cell 2 _ rfl
    have f1 := HI.out.t.free 1 _ rfl
    have f2 := HI.out.t.free 2 _ rfl
    have s0 := HI.out.s.cell 0 _ rfl
    have s1 := HI.out.s.cell 1 _ rfl
    have r0 := HI.out.r.cell 0 _ rfl
    have r1 := HI.out.r.cell 1 _ rfl
    have r2 := HI.out.r.free 0 _ rfl
    have r3 := HI.out.r.free 1 _ rfl
    have n1 := HI.out.ne1
    have n2 := HI.out.ne2
    have n3 : w.heap.size ≠ h := by omega
    have n1' := Ne.symm n1
    have n2' := Ne.symm n2
    have n3' := Ne.symm n3
    go_wp2
    have HZ := (((HI.out.r.other (b := h) n3' 1 (.int .i64 ((kk + k' : Nat) : Int))).other (b := h) n3' 2 (.int .i64 x)).set 0 (.int .i64 y1)).set 1 (.int .i64 y2)
    have z0 := HZ.cell 0 _ rfl
    have z1 := HZ.cell 1 _ rfl
    simp only [Int.natCast_add] at z0 z1
    refine bodyPost_ret (v := .agg #[.int .i64 y1, .int .i64 y2]) (by simp [results, Tryd.results46, go_sem, z0, z1]) rfl ?_
    exact ⟨rfl, (((HI.out.t.set 1 _).set 2 _).other n3 _ _).other n3 _ _, grown_at (grown_at (grown_set (grown_set (bel_grown HI.out.bel _) _ _) _ _) (Nat.le_refl _) _ _) (Nat.le_refl _) _ _⟩
  · have HI : Hid (StI w ((w8.setCell ⟨w.heap.size + 1, 0, none⟩ (.int .i64 y1)).setCell ⟨w.heap.size + 1, 1, none⟩ (.int .i64 y2)) h (w.heap.size + 1) a n cap kk y1 y2) := ⟨(HQ.out.set 0 _).set 1 _, (HB8.out.other (by omega) _ _).other (by omega) _ _, (HR8.out.other (by omega) _ _).other (by omega) _ _, (hS1.2.2.out.setCell (p := ⟨w.heap.size + 1, 0, none⟩) (Nat.le_succ _) _).setCell (p := ⟨w.heap.size + 1, 1, none⟩) (Nat.le_succ _) _, by omega, by omega⟩
    generalize (w8.setCell ⟨w.heap.size + 1, 0, none⟩ (.int .i64 y1)).setCell ⟨w.heap.size + 1, 1, none⟩ (.int .i64 y2) = W2 at *
    generalize w.heap.size + 1 = b at *
    clear q0 q1 q2 q3 e0 e1 e2 f1 f2 hS0 hS1
    have e1 := HI.out.t.cell 1 _ rfl
    have e2 := HI.out.t.cell 2 _ rfl
    have f1 := HI.out.t.free 1 _ rfl
    have f2 := HI.out.t.free 2 _ rfl
    have s0 := HI.out.s.cell 0 _ rfl
    have s1 := HI.out.s.cell 1 _ rfl
    have r0 := HI.out.r.cell 0 _ rfl
    have r1 := HI.out.r.cell 1 _ rfl
    have r2 := HI.out.r.free 0 _ rfl
    have r3 := HI.out.r.free 1 _ rfl
    have n1 := HI.out.ne1
    have n2 := HI.out.ne2
    have n3 : w.heap.size ≠ h := by omega
    have n1' := Ne.symm n1
    have n2' := Ne.symm n2
    have n3' := Ne.symm n3
    go_wp2
    have HZ := (((HI.out.r.other (b := h) n3' 1 (.int .i64 ((kk + k' : Nat) : Int))).other (b := h) n3' 2 (.int .i64 x)).set 0 (.int .i64 y1)).set 1 (.int .i64 y2)
    have z0 := HZ.cell 0 _ rfl
    have z1 := HZ.cell 1 _ rfl
    simp only [Int.natCast_add] at z0 z1
    refine bodyPost_ret (v := .agg #[.int .i64 y1, .int .i64 y2]) (by simp [results, Tryd.results46, go_sem, z0, z1]) rfl ?_
    exact ⟨rfl, (((HI.out.t.set 1 _).set 2 _).other n3 _ _).other n3 _ _, grown_at (grown_at (grown_set (grown_set (bel_grown HI.out.bel _) _ _) _ _) (Nat.le_refl _) _ _) (Nat.le_refl _) _ _⟩
end Go.Proofs.YtknfpildkiekcaaDoor
