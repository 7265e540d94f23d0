/- Blocks of one's own; one field taken. -/
import Derived.Test.YtabbbpmhmlapgaaDoorO7
namespace Go.Proofs.YtabbbpmhmlapgaaDoor
open Go.RowKit Go.Lib
set_option linter.unusedVariables false

/-- a block of cells of one's own, that may be written -/
structure Blk (w : World) (g : Nat) (vs : List Value) : Prop where
  cell : ∀ i u, vs[i]? = some u → w.cell? ⟨g, i, none⟩ = some u
  free : ∀ i u, vs[i]? = some u → w.frozen? ⟨g, i, none⟩ = false
theorem Blk.lt {w : World} {g : Nat} {v : Value} {vs : List Value} (h : Blk w g (v :: vs)) : g < w.heap.size := World.block_lt_of_cell? _ _ (h.cell 0 v rfl)
theorem Blk.below {w w' : World} {g B : Nat} {vs : List Value} (h : Blk w g vs) (hb : Below B w w') (hB : g < B) : Blk w' g vs :=
  ⟨fun i u hi => (hb.cell (p := ⟨g, i, none⟩) hB).trans (h.cell i u hi), fun i u hi => (hb.frozen (p := ⟨g, i, none⟩) hB).trans (h.free i u hi)⟩
theorem Blk.next {w w' : World} {g : Nat} {v : Value} {vs : List Value} (h : Blk w g (v :: vs)) (hb : Below w.heap.size w w') : Blk w' g (v :: vs) := h.below hb h.lt
theorem Blk.set {w : World} {g : Nat} {vs : List Value} (h : Blk w g vs) (i : Nat) (u : Value) : Blk (w.setCell ⟨g, i, none⟩ u) g (vs.set i u) := by
  constructor
  · intro j x hj
    rw [List.getElem?_set] at hj
    by_cases e : i = j
    · subst e
      rw [if_pos rfl] at hj
      split at hj
      · rename_i hl
        cases hj
        exact World.cell?_setCell_same' _ _ _ (by rw [h.cell i _ (List.getElem?_eq_getElem hl)]; rfl)
      · cases hj
    · rw [if_neg e] at hj
      rw [World.cell?_setCell_other _ _ _ _ (by simp)]
      exact h.cell j x hj
  · intro j x hj
    rw [World.frozen?_setCell]
    rw [List.getElem?_set] at hj
    by_cases e : i = j
    · subst e
      rw [if_pos rfl] at hj
      split at hj
      · rename_i hl
        exact h.free i _ (List.getElem?_eq_getElem hl)
      · cases hj
    · rw [if_neg e] at hj
      exact h.free j x hj
theorem Blk.other {w : World} {g b : Nat} {vs : List Value} (h : Blk w g vs) (hne : b ≠ g) (i : Nat) (u : Value) : Blk (w.setCell ⟨b, i, none⟩ u) g vs :=
  ⟨fun j x hj => by rw [World.cell?_setCell_far _ _ _ _ (by simpa using hne)]; exact h.cell j x hj, fun j x hj => by rw [World.frozen?_setCell]; exact h.free j x hj⟩
theorem Blk.drew {w : World} {g : Nat} {vs : List Value} (h : Blk w g vs) : Blk w.drew g vs := ⟨h.cell, h.free⟩
theorem Blk.drewN {w : World} {g : Nat} {vs : List Value} (h : Blk w g vs) (n : Nat) : Blk (w.drewN n) g vs := ⟨h.cell, h.free⟩
theorem OwnK.far {kd : IntKind} {e : TypeId} {w : World} {base g : Nat} {v : Value} {zs : List Int} (h : OwnK kd e w base v zs) (hg : g < base) (i : Nat) (u : Value) : OwnK kd e (w.setCell ⟨g, i, none⟩ u) base v zs := by
  refine h.grown (grown_setCell w ⟨g, i, none⟩ u) ?_
  by_cases hn : v.ownBlock = some g
  · have := (h.lt hn).1
    omega
  · exact .inr hn

def OpR.cells (R : OpR) (q : Int) (d : Value) : List Value := [.int .i64 R.t, .int .i64 R.r, .int .i64 q, d, .int .i64 R.k, .int .i64 R.nt, .int .i64 R.nr, .int .i64 R.pt, .int .i64 R.pr, .string R.s, .int .i64 R.p, .int .i64 R.v]

def KindPost (bs : List Int) (w : World) (e : Ending) (w' : World) : Prop := e = .returned (.tuple #[.int .i64 (tkK bs).1, .int .i64 ((tkK bs).2.1 : Int), .int .i64 (tkK bs).2.2]) ∧ w = w'
set_option maxHeartbeats 1000000 in
theorem takeKind_any (a : Option Addr) (bs : List Int) (n cap : Nat) (w : World) (hn : n = bs.length) (hr : RowK .u8 w a bs) (hb : IsB bs) : Calls Tryd.prog 49 #[.slice a n cap] w (KindPost bs w) := by
  have C := Lib.hid (takeNum_n a bs n cap w hn hr hb)
  unfold KindPost tkK
  unfold TakePost at C
  clear hn hr hb
  generalize tkN bs = R at *
  obtain ⟨x1, x2, x3⟩ := R
  simp only at C ⊢
  by_cases h3 : x3 = 0
  · rw [if_neg (by simp [h3])]
    subst h3
    by_cases h1 : x1 = 1
    · subst h1
      rw [if_pos (by simp)]
      go_enter Tryd.func49, Tryd.ntmps49
      go_wp2_with fail
      refine (C.out).mono ?_
      rintro e w1 ⟨rfl, rfl⟩
      go_wp2
      go_ret3
      exact ⟨rfl, rfl⟩
    · have h1' : (x1 == 1) = false := by simpa using h1
      by_cases h2 : x1 = 2
      · subst h2
        rw [if_pos (by simp)]
        go_enter Tryd.func49, Tryd.ntmps49
        go_wp2_with fail
        refine (C.out).mono ?_
        rintro e w1 ⟨rfl, rfl⟩
        go_wp2
        go_ret3
        exact ⟨rfl, rfl⟩
      · have h2' : (x1 == 2) = false := by simpa using h2
        have h1n : (x1 != 1) = true := by simpa using h1
        have h2n : (x1 != 2) = true := by simpa using h2
        rw [if_neg (by simp [h1, h2])]
        go_enter Tryd.func49, Tryd.ntmps49
        go_wp2_with fail
        refine (C.out).mono ?_
        rintro e w1 ⟨rfl, rfl⟩
        go_wp2
        go_ret3
        exact ⟨rfl, rfl⟩
  · rw [if_pos h3]
    have h3' : (x3 == 0) = false := by simpa using h3
    go_enter Tryd.func49, Tryd.ntmps49
    go_wp2_with fail
    refine (C.out).mono ?_
    rintro e w1 ⟨rfl, rfl⟩
    go_wp2
    go_ret3
    exact ⟨rfl, rfl⟩

def FldPost (g : Nat) (X : OpR × Nat × Int) (q : Int) (w : World) (e : Ending) (w' : World) : Prop := ∃ d, e = .returned (.tuple #[.int .i64 (X.2.1 : Int), .int .i64 X.2.2]) ∧ Blk w' g (X.1.cells q d) ∧ OwnK .i64 3 w' (g + 1) d X.1.ds ∧ Below g w w'

set_option maxHeartbeats 1000000 in
theorem takeF0 (g : Nat) (R : OpR) (q : Int) (d : Value) (a : Option Addr) (bs : List Int) (n cap : Nat) (w : World) (hB : Blk w g (R.cells q d)) (ho : OwnK .i64 3 w (g + 1) d R.ds) (hn : n = bs.length) (hr : RowK .u8 w a bs) (hb : IsB bs) (hcap : bs.length ≤ cap) (hlen : bs.length ≤ 140737488355328) : Calls Tryd.prog 34 #[.pointer (some ⟨g, 0, none⟩), .int .i64 0, .slice a n cap] w (FldPost g (updF 0 bs R) q w) := by
  have hlt := hB.lt
  obtain ⟨⟨x1, x2, x3, x4⟩, hx⟩ : ∃ R, St.tkSt bs = R := ⟨_, rfl⟩
  have C := Lib.hid (St.take_is a bs n cap w hn hr hb hcap hlen hx)
  rw [show updF 0 bs R = ({ R with t := x1, r := x2 }, x3, x4) by simp only [updF, hx]]
  clear hn hr hb hcap hlen hx
  go_enter Tryd.func34, Tryd.ntmps34
  go_wp2_with fail
  refine (C.out).mono ?_
  rintro e w1 ⟨rfl, hb1⟩
  have hB1 := hB.next hb1
  have HB1 := Lib.hid hB1
  have HO1 := Lib.hid (ho.below hb1)
  have HL1 := Lib.hid (hb1.mono (Nat.le_of_lt hlt))
  have e0 := hB1.cell 0 _ rfl
  have e1 := hB1.cell 1 _ rfl
  have e2 := hB1.free 0 _ rfl
  have e3 := hB1.free 1 _ rfl
  clear hB1 hb1 ho hB hlt
  go_wp2
  go_ret2
  exact ⟨d, rfl, (HB1.out.set 0 _).set 1 _, (HO1.out.far (Nat.lt_succ_self g) _ _).far (Nat.lt_succ_self g) _ _, (HL1.out.setCell (p := ⟨g, 0, none⟩) (Nat.le_refl _) _).setCell (p := ⟨g, 1, none⟩) (Nat.le_refl _) _⟩

set_option maxHeartbeats 1000000 in
theorem takeF1 (g : Nat) (R : OpR) (q : Int) (d : Value) (a : Option Addr) (bs : List Int) (n cap : Nat) (w : World) (hB : Blk w g (R.cells q d)) (ho : OwnK .i64 3 w (g + 1) d R.ds) (hn : n = bs.length) (hr : RowK .u8 w a bs) (hb : IsB bs) (hcap : bs.length ≤ cap) (hlen : bs.length ≤ 140737488355328) : Calls Tryd.prog 34 #[.pointer (some ⟨g, 0, none⟩), .int .i64 1, .slice a n cap] w (FldPost g (updF 1 bs R) q w) := by
  have hlt := hB.lt
  obtain ⟨⟨x1, x2, x3⟩, hx⟩ : ∃ R, Hv.tkV bs = R := ⟨_, rfl⟩
  have C := Lib.hid (Hv.take_is a bs n cap w hn hr hb hcap hlen hx)
  rw [show updF 1 bs R = ({ R with ds := x1 }, x2, x3) by simp only [updF, hx]]
  clear hn hr hb hcap hlen hx
  go_enter Tryd.func34, Tryd.ntmps34
  go_wp2_with fail
  refine (C.out).mono ?_
  rintro e w1 ⟨v1, rfl, ho1, hb1⟩
  have hB1 := hB.next hb1
  have HB1 := Lib.hid hB1
  have HO1 := Lib.hid (ho1.mono (show g + 1 ≤ w.heap.size from hlt))
  have HL1 := Lib.hid (hb1.mono (Nat.le_of_lt hlt))
  have e0 := hB1.cell 3 _ rfl
  have e2 := hB1.free 3 _ rfl
  obtain ⟨a9, n9, c9, rfl, hn9, hr9, hc9⟩ := ho1.form'
  clear hB1 hb1 ho hB hlt ho1 hn9 hr9 hc9
  go_wp2
  go_ret2
  exact ⟨_, rfl, HB1.out.set 3 _, HO1.out.far (Nat.lt_succ_self g) _ _, HL1.out.setCell (p := ⟨g, 3, none⟩) (Nat.le_refl _) _⟩

set_option maxHeartbeats 1000000 in
theorem takeF2 (g : Nat) (R : OpR) (q : Int) (d : Value) (a : Option Addr) (bs : List Int) (n cap : Nat) (w : World) (hB : Blk w g (R.cells q d)) (ho : OwnK .i64 3 w (g + 1) d R.ds) (hn : n = bs.length) (hr : RowK .u8 w a bs) (hb : IsB bs) (hcap : bs.length ≤ cap) (hlen : bs.length ≤ 140737488355328) : Calls Tryd.prog 34 #[.pointer (some ⟨g, 0, none⟩), .int .i64 2, .slice a n cap] w (FldPost g (updF 2 bs R) q w) := by
  have hlt := hB.lt
  obtain ⟨⟨x1, x2, x3⟩, hx⟩ : ∃ R, tkK bs = R := ⟨_, rfl⟩
  have C := Lib.hid (takeKind_any a bs n cap w hn hr hb)
  unfold KindPost at C
  rw [hx] at C
  rw [show updF 2 bs R = ({ R with k := x1 }, x2, x3) by simp only [updF, hx]]
  clear hn hr hb hcap hlen hx
  go_enter Tryd.func34, Tryd.ntmps34
  go_wp2_with fail
  refine (C.out).mono ?_
  rintro e w1 ⟨rfl, rfl⟩
  have HB1 := Lib.hid hB
  have HO1 := Lib.hid ho
  have HL1 := Lib.hid (Below.refl g w)
  have e0 := hB.cell 4 _ rfl
  have e2 := hB.free 4 _ rfl
  clear ho hB hlt
  go_wp2
  go_ret2
  exact ⟨d, rfl, HB1.out.set 4 _, HO1.out.far (Nat.lt_succ_self g) _ _, HL1.out.setCell (p := ⟨g, 4, none⟩) (Nat.le_refl _) _⟩

set_option maxHeartbeats 1000000 in
theorem takeF3 (g : Nat) (R : OpR) (q : Int) (d : Value) (a : Option Addr) (bs : List Int) (n cap : Nat) (w : World) (hB : Blk w g (R.cells q d)) (ho : OwnK .i64 3 w (g + 1) d R.ds) (hn : n = bs.length) (hr : RowK .u8 w a bs) (hb : IsB bs) (hcap : bs.length ≤ cap) (hlen : bs.length ≤ 140737488355328) : Calls Tryd.prog 34 #[.pointer (some ⟨g, 0, none⟩), .int .i64 3, .slice a n cap] w (FldPost g (updF 3 bs R) q w) := by
  have hlt := hB.lt
  obtain ⟨⟨x1, x2, x3, x4⟩, hx⟩ : ∃ R, St.tkSt bs = R := ⟨_, rfl⟩
  have C := Lib.hid (St.take_is a bs n cap w hn hr hb hcap hlen hx)
  rw [show updF 3 bs R = ({ R with nt := x1, nr := x2 }, x3, x4) by simp only [updF, hx]]
  clear hn hr hb hcap hlen hx
  go_enter Tryd.func34, Tryd.ntmps34
  go_wp2_with fail
  refine (C.out).mono ?_
  rintro e w1 ⟨rfl, hb1⟩
  have hB1 := hB.next hb1
  have HB1 := Lib.hid hB1
  have HO1 := Lib.hid (ho.below hb1)
  have HL1 := Lib.hid (hb1.mono (Nat.le_of_lt hlt))
  have e0 := hB1.cell 5 _ rfl
  have e1 := hB1.cell 6 _ rfl
  have e2 := hB1.free 5 _ rfl
  have e3 := hB1.free 6 _ rfl
  clear hB1 hb1 ho hB hlt
  go_wp2
  go_ret2
  exact ⟨d, rfl, (HB1.out.set 5 _).set 6 _, (HO1.out.far (Nat.lt_succ_self g) _ _).far (Nat.lt_succ_self g) _ _, (HL1.out.setCell (p := ⟨g, 5, none⟩) (Nat.le_refl _) _).setCell (p := ⟨g, 6, none⟩) (Nat.le_refl _) _⟩

set_option maxHeartbeats 1000000 in
theorem takeF4 (g : Nat) (R : OpR) (q : Int) (d : Value) (a : Option Addr) (bs : List Int) (n cap : Nat) (w : World) (hB : Blk w g (R.cells q d)) (ho : OwnK .i64 3 w (g + 1) d R.ds) (hn : n = bs.length) (hr : RowK .u8 w a bs) (hb : IsB bs) (hcap : bs.length ≤ cap) (hlen : bs.length ≤ 140737488355328) : Calls Tryd.prog 34 #[.pointer (some ⟨g, 0, none⟩), .int .i64 4, .slice a n cap] w (FldPost g (updF 4 bs R) q w) := by
  have hlt := hB.lt
  obtain ⟨⟨x1, x2, x3, x4⟩, hx⟩ : ∃ R, St.tkSt bs = R := ⟨_, rfl⟩
  have C := Lib.hid (St.take_is a bs n cap w hn hr hb hcap hlen hx)
  rw [show updF 4 bs R = ({ R with pt := x1, pr := x2 }, x3, x4) by simp only [updF, hx]]
  clear hn hr hb hcap hlen hx
  go_enter Tryd.func34, Tryd.ntmps34
  go_wp2_with fail
  refine (C.out).mono ?_
  rintro e w1 ⟨rfl, hb1⟩
  have hB1 := hB.next hb1
  have HB1 := Lib.hid hB1
  have HO1 := Lib.hid (ho.below hb1)
  have HL1 := Lib.hid (hb1.mono (Nat.le_of_lt hlt))
  have e0 := hB1.cell 7 _ rfl
  have e1 := hB1.cell 8 _ rfl
  have e2 := hB1.free 7 _ rfl
  have e3 := hB1.free 8 _ rfl
  clear hB1 hb1 ho hB hlt
  go_wp2
  go_ret2
  exact ⟨d, rfl, (HB1.out.set 7 _).set 8 _, (HO1.out.far (Nat.lt_succ_self g) _ _).far (Nat.lt_succ_self g) _ _, (HL1.out.setCell (p := ⟨g, 7, none⟩) (Nat.le_refl _) _).setCell (p := ⟨g, 8, none⟩) (Nat.le_refl _) _⟩

set_option maxHeartbeats 1000000 in
theorem takeF5 (g : Nat) (R : OpR) (q : Int) (d : Value) (a : Option Addr) (bs : List Int) (n cap : Nat) (w : World) (hB : Blk w g (R.cells q d)) (ho : OwnK .i64 3 w (g + 1) d R.ds) (hn : n = bs.length) (hr : RowK .u8 w a bs) (hb : IsB bs) (hcap : bs.length ≤ cap) (hlen : bs.length ≤ 140737488355328) : Calls Tryd.prog 34 #[.pointer (some ⟨g, 0, none⟩), .int .i64 5, .slice a n cap] w (FldPost g (updF 5 bs R) q w) := by
  have hlt := hB.lt
  obtain ⟨⟨x1, x2, x3⟩, hx⟩ : ∃ R, tkS bs = R := ⟨_, rfl⟩
  have C := Lib.hid (takeText_n a bs n cap w hn hr hb hcap hlen)
  unfold TextPost at C
  rw [hx] at C
  rw [show updF 5 bs R = ({ R with s := x1 }, x2, x3) by simp only [updF, hx]]
  clear hn hr hb hcap hlen hx
  go_enter Tryd.func34, Tryd.ntmps34
  go_wp2_with fail
  refine (C.out).mono ?_
  rintro e w1 ⟨rfl, rfl⟩
  have HB1 := Lib.hid hB
  have HO1 := Lib.hid ho
  have HL1 := Lib.hid (Below.refl g w)
  have e0 := hB.cell 9 _ rfl
  have e2 := hB.free 9 _ rfl
  clear ho hB hlt
  go_wp2
  go_ret2
  exact ⟨d, rfl, HB1.out.set 9 _, HO1.out.far (Nat.lt_succ_self g) _ _, HL1.out.setCell (p := ⟨g, 9, none⟩) (Nat.le_refl _) _⟩

set_option maxHeartbeats 1000000 in
theorem takeF6 (g : Nat) (R : OpR) (q : Int) (d : Value) (a : Option Addr) (bs : List Int) (n cap : Nat) (w : World) (hB : Blk w g (R.cells q d)) (ho : OwnK .i64 3 w (g + 1) d R.ds) (hn : n = bs.length) (hr : RowK .u8 w a bs) (hb : IsB bs) (hcap : bs.length ≤ cap) (hlen : bs.length ≤ 140737488355328) : Calls Tryd.prog 34 #[.pointer (some ⟨g, 0, none⟩), .int .i64 6, .slice a n cap] w (FldPost g (updF 6 bs R) q w) := by
  have hlt := hB.lt
  obtain ⟨⟨x1, x2, x3⟩, hx⟩ : ∃ R, tkN bs = R := ⟨_, rfl⟩
  have C := Lib.hid (takeNum_n a bs n cap w hn hr hb)
  unfold TakePost at C
  rw [hx] at C
  rw [show updF 6 bs R = ({ R with p := x1 }, x2, x3) by simp only [updF, hx]]
  clear hn hr hb hcap hlen hx
  go_enter Tryd.func34, Tryd.ntmps34
  go_wp2_with fail
  refine (C.out).mono ?_
  rintro e w1 ⟨rfl, rfl⟩
  have HB1 := Lib.hid hB
  have HO1 := Lib.hid ho
  have HL1 := Lib.hid (Below.refl g w)
  have e0 := hB.cell 10 _ rfl
  have e2 := hB.free 10 _ rfl
  clear ho hB hlt
  go_wp2
  go_ret2
  exact ⟨d, rfl, HB1.out.set 10 _, HO1.out.far (Nat.lt_succ_self g) _ _, HL1.out.setCell (p := ⟨g, 10, none⟩) (Nat.le_refl _) _⟩

set_option maxHeartbeats 1000000 in
theorem takeF7 (g : Nat) (R : OpR) (q : Int) (d : Value) (a : Option Addr) (bs : List Int) (n cap : Nat) (w : World) (hB : Blk w g (R.cells q d)) (ho : OwnK .i64 3 w (g + 1) d R.ds) (hn : n = bs.length) (hr : RowK .u8 w a bs) (hb : IsB bs) (hcap : bs.length ≤ cap) (hlen : bs.length ≤ 140737488355328) : Calls Tryd.prog 34 #[.pointer (some ⟨g, 0, none⟩), .int .i64 7, .slice a n cap] w (FldPost g (updF 7 bs R) q w) := by
  have hlt := hB.lt
  obtain ⟨⟨x1, x2, x3⟩, hx⟩ : ∃ R, tkN bs = R := ⟨_, rfl⟩
  have C := Lib.hid (takeNum_n a bs n cap w hn hr hb)
  unfold TakePost at C
  rw [hx] at C
  rw [show updF 7 bs R = ({ R with v := x1 - 1 }, x2, x3) by simp only [updF, hx]]
  have hz := tkN_k bs hb
  rw [hx] at hz
  have hw1 : wrap64 (x1 - 1) = x1 - 1 := IntWalk.wrap64_in _ (by simp only at hz; omega)
  have hw2 : IntKind.i64.wrap (x1 - 1) = x1 - 1 := IntWalk.i64_in _ (by simp only at hz; omega)
  clear hn hr hb hcap hlen hx hz
  go_enter Tryd.func34, Tryd.ntmps34
  go_wp2_with fail
  refine (C.out).mono ?_
  rintro e w1 ⟨rfl, rfl⟩
  have HB1 := Lib.hid hB
  have HO1 := Lib.hid ho
  have HL1 := Lib.hid (Below.refl g w)
  have e0 := hB.cell 11 _ rfl
  have e2 := hB.free 11 _ rfl
  clear ho hB hlt
  go_wp2
  go_ret2
  exact ⟨d, rfl, (HB1.out.set 11 _).set 11 _, (HO1.out.far (Nat.lt_succ_self g) _ _).far (Nat.lt_succ_self g) _ _, (HL1.out.setCell (p := ⟨g, 11, none⟩) (Nat.le_refl _) _).setCell (p := ⟨g, 11, none⟩) (Nat.le_refl _) _⟩

theorem takeField_any (f : Nat) (hf : f < 8) (g : Nat) (R : OpR) (q : Int) (d : Value) (a : Option Addr) (bs : List Int) (n cap : Nat) (w : World) (hB : Blk w g (R.cells q d)) (ho : OwnK .i64 3 w (g + 1) d R.ds) (hn : n = bs.length) (hr : RowK .u8 w a bs) (hb : IsB bs) (hcap : bs.length ≤ cap) (hlen : bs.length ≤ 140737488355328) : Calls Tryd.prog 34 #[.pointer (some ⟨g, 0, none⟩), .int .i64 (f : Int), .slice a n cap] w (FldPost g (updF f bs R) q w) := by
  match f, hf with
  | 0, _ => exact takeF0 g R q d a bs n cap w hB ho hn hr hb hcap hlen
  | 1, _ => exact takeF1 g R q d a bs n cap w hB ho hn hr hb hcap hlen
  | 2, _ => exact takeF2 g R q d a bs n cap w hB ho hn hr hb hcap hlen
  | 3, _ => exact takeF3 g R q d a bs n cap w hB ho hn hr hb hcap hlen
  | 4, _ => exact takeF4 g R q d a bs n cap w hB ho hn hr hb hcap hlen
  | 5, _ => exact takeF5 g R q d a bs n cap w hB ho hn hr hb hcap hlen
  | 6, _ => exact takeF6 g R q d a bs n cap w hB ho hn hr hb hcap hlen
  | 7, _ => exact takeF7 g R q d a bs n cap w hB ho hn hr hb hcap hlen
end Go.Proofs.YtabbbpmhmlapgaaDoor
