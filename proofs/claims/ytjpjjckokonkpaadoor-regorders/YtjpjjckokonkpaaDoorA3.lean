/- Registers: one that may be, the later one, by property; Check, the page's Regs. -/
import Derived.Test.YtjpjjckokonkpaaDoorA2
import Derived.Test.YtjpjjckokonkpaaDoorS3
namespace Go.Proofs.YtjpjjckokonkpaaDoor
open Go.RowKit Go.Lib
set_option linter.unusedVariables false

theorem regrown_at {W : World} {f : FuncId} {args : Array Value} {v : Value} (h : ∀ W', Below W.heap.size W W' → Calls Tryd.prog f args W' fun e w' => e = .returned v ∧ Below W'.heap.size W' w') : St.RegrownTo W f args v := fun d os => Calls.regrown_of (h _ (below_regrown W d os))
theorem RgAt.regrown {w : World} {b o : Nat} {x : RgD} (h : RgAt w b o x) : (∀ d os, (Go.Sort.grow (redrawn w d) os).cell? ⟨b, o, none⟩ = some (.int .i64 x.p)) ∧ (∀ d os, (Go.Sort.grow (redrawn w d) os).cell? ⟨b, o + 1, none⟩ = some (.int .i64 x.v)) ∧ (∀ d os, (Go.Sort.grow (redrawn w d) os).cell? ⟨b, o + 2, none⟩ = some (.int .i64 x.t)) ∧ (∀ d os, (Go.Sort.grow (redrawn w d) os).cell? ⟨b, o + 3, none⟩ = some (.int .i64 x.r)) := ⟨cell_regrown h.c0, cell_regrown h.c1, cell_regrown h.c2, cell_regrown h.c3⟩
set_option maxHeartbeats 400000 in
theorem num15_any (z : Int) (w : World) : Calls Tryd.prog 11 #[.int .i64 z] w fun e w' => e = .returned (.int .i64 z) ∧ w = w' := by
  go_enter Tryd.func11, Tryd.ntmps11
  go_wp2
  go_ret
  exact ⟨rfl, rfl⟩
set_option maxHeartbeats 1000000 in
theorem isReg_any (x : RgD) (w : World) (ht : Pr.Tab w) : Calls Tryd.prog 26 #[valG x] w (BoolPost w (regB x)) := by
  have HB := Lib.hid (bel1 w (objG x))
  have HA := Lib.hid (RgAt.new w x)
  have HT := Lib.hid (ht.alloc (objG x))
  clear ht
  obtain ⟨z, hz⟩ : ∃ z, Pr.errP x.p x.v = z := ⟨_, rfl⟩
  have C := Lib.hid (fun W hw => Pr.check_any x.p x.v W hw)
  rw [hz] at C
  unfold regB
  rw [hz]
  clear hz
  obtain ⟨c0, c1, c2, c3⟩ := HA.out
  by_cases h0 : z = 0
  · subst h0
    obtain ⟨b, hb⟩ : ∃ b, St.stB x.t x.r = b := ⟨_, rfl⟩
    have D := Lib.hid (fun W => St.check_any x.t x.r W)
    rw [hb] at D ⊢
    clear hb
    cases b
    all_goals
      go_enter Tryd.func26, Tryd.ntmps26
      go_wp2_with fail
      refine (C.out _ HT.out).mono ?_
      rintro e w1 ⟨rfl, rfl⟩
      go_wp2_with fail
      refine (D.out _).mono ?_
      rintro e w1 ⟨rfl, hb⟩
      have HB1 := Lib.hid (HB.out.trans (hb.mono HB.out.size))
      clear hb
      simp only [St.errB]
      go_wp2
      go_ret
      exact ⟨rfl, HB1.out⟩
  · have hz1 : (z == 0) = false := by simpa using h0
    go_enter Tryd.func26, Tryd.ntmps26
    go_wp2_with fail
    refine (C.out _ HT.out).mono ?_
    rintro e w1 ⟨rfl, rfl⟩
    go_wp2
    go_ret
    exact ⟨by simp [h0], HB.out⟩
set_option maxHeartbeats 1000000 in
theorem byProp_any (x : RgD) (p : Int) (w : World) : Calls Tryd.prog 28 #[valG x, .int .i64 p] w (fun e w' => e = .returned (.int .i64 (St.cmpI x.p p)) ∧ Below w.heap.size w w') := by
  have HB := Lib.hid (bel1 w (objG x))
  obtain ⟨c0, c1, c2, c3⟩ := RgAt.new w x
  have C := Lib.hid (fun W => St.compare_any x.p p W)
  go_enter Tryd.func28, Tryd.ntmps28
  go_wp2_with fail
  refine (C.out _).mono ?_
  rintro e w1 ⟨rfl, rfl⟩
  go_wp2
  go_ret
  exact ⟨rfl, HB.out⟩
/-- a block of cells of one's own, that may be written -/
structure Blk (w : World) (g : Nat) (vs : List Value) : Prop where
  cell : ∀ i u, vs[i]? = some u → w.cell? ⟨g, i, none⟩ = some u
  free : ∀ i u, vs[i]? = some u → w.frozen? ⟨g, i, none⟩ = false
theorem Blk.lt {w : World} {g : Nat} {v : Value} {vs : List Value} (h : Blk w g (v :: vs)) : g < w.heap.size := World.block_lt_of_cell? _ _ (h.cell 0 v rfl)
theorem Blk.below {w w' : World} {g B : Nat} {vs : List Value} (h : Blk w g vs) (hb : Below B w w') (hB : g < B) : Blk w' g vs :=
  ⟨fun i u hi => (hb.cell (p := ⟨g, i, none⟩) hB).trans (h.cell i u hi), fun i u hi => (hb.frozen (p := ⟨g, i, none⟩) hB).trans (h.free i u hi)⟩
theorem Blk.next {w w' : World} {g : Nat} {v : Value} {vs : List Value} (h : Blk w g (v :: vs)) (hb : Below w.heap.size w w') : Blk w' g (v :: vs) := h.below hb h.lt
theorem Blk.set {w : World} {g : Nat} {vs : List Value} (h : Blk w g vs) (i : Nat) (u : Value) : Blk (w.setCell ⟨g, i, none⟩ u) g (vs.set i u) := by
  constructor
  · intro j x hj
    rw [List.getElem?_set] at hj
    by_cases e : i = j
    · subst e
      rw [if_pos rfl] at hj
      split at hj
      · rename_i hl
        cases hj
        exact World.cell?_setCell_same' _ _ _ (by rw [h.cell i _ (List.getElem?_eq_getElem hl)]; rfl)
      · cases hj
    · rw [if_neg e] at hj
      rw [World.cell?_setCell_other _ _ _ _ (by simp)]
      exact h.cell j x hj
  · intro j x hj
    rw [World.frozen?_setCell]
    rw [List.getElem?_set] at hj
    by_cases e : i = j
    · subst e
      rw [if_pos rfl] at hj
      split at hj
      · rename_i hl
        exact h.free i _ (List.getElem?_eq_getElem hl)
      · cases hj
    · rw [if_neg e] at hj
      exact h.free j x hj
theorem Blk.other {w : World} {g b : Nat} {vs : List Value} (h : Blk w g vs) (hne : b ≠ g) (i : Nat) (u : Value) : Blk (w.setCell ⟨b, i, none⟩ u) g vs :=
  ⟨fun j x hj => by rw [World.cell?_setCell_far _ _ _ _ (by simpa using hne)]; exact h.cell j x hj, fun j x hj => by rw [World.frozen?_setCell]; exact h.free j x hj⟩
theorem Blk.drew {w : World} {g : Nat} {vs : List Value} (h : Blk w g vs) : Blk w.drew g vs := ⟨h.cell, h.free⟩
theorem Blk.drewN {w : World} {g : Nat} {vs : List Value} (h : Blk w g vs) (n : Nat) : Blk (w.drewN n) g vs := ⟨h.cell, h.free⟩
theorem blkG_new (w : World) (x : RgD) : Blk (w.alloc (objG x)) w.heap.size x.vals := by
  constructor
  · intro i u hi
    match i, hi with
    | 0, hi | 1, hi | 2, hi | 3, hi => simp [RgD.vals] at hi; subst hi; simp
    | _ + 4, hi => simp [RgD.vals] at hi
  · intro i u hi
    match i, hi with
    | 0, hi | 1, hi | 2, hi | 3, hi => simp
    | _ + 4, hi => simp [RgD.vals] at hi
abbrev objZ : Obj := .cells #[.int .i64 0, .int .i64 0, .int .i64 0, .int .i64 0] 51
abbrev putG (w : World) (g : Nat) (x : RgD) : World := (((w.setCell ⟨g, 0, none⟩ (.int .i64 x.p)).setCell ⟨g, 1, none⟩ (.int .i64 x.v)).setCell ⟨g, 2, none⟩ (.int .i64 x.t)).setCell ⟨g, 3, none⟩ (.int .i64 x.r)
set_option maxHeartbeats 2000000 in
theorem later_any (x y : RgD) (w : World) : Calls Tryd.prog 36 #[valG x, valG y] w (fun e w' => e = .returned (valG (latG x y)) ∧ Below w.heap.size w w') := by
  obtain ⟨g, hg⟩ : ∃ g, w.heap.size = g := ⟨_, rfl⟩
  have HG : Hid (w.heap.size = g) := hg
  have b1 := bel1 w (objG x)
  have b2 := bel1 (w.alloc (objG x)) (objG y)
  have b3 := bel1 ((w.alloc (objG x)).alloc (objG y)) objZ
  have HL0 : Hid (Below w.heap.size w (((w.alloc (objG x)).alloc (objG y)).alloc objZ)) := (b1.trans (b2.mono b1.size)).trans (b3.mono (Nat.le_trans b1.size b2.size))
  have HX0 : Hid (RgAt (((w.alloc (objG x)).alloc (objG y)).alloc objZ) g 0 x) := by
    have := ((RgAt.new w x).next b2).next b3
    rwa [hg] at this
  have HY0 : Hid (RgAt (((w.alloc (objG x)).alloc (objG y)).alloc objZ) (g + 1) 0 y) := by
    have := (RgAt.new (w.alloc (objG x)) y).next b3
    rwa [World.size_alloc, hg] at this
  have HZ0 : Hid (Blk (((w.alloc (objG x)).alloc (objG y)).alloc objZ) (g + 1 + 1) zG.vals) := by
    have := blkG_new ((w.alloc (objG x)).alloc (objG y)) zG
    rw [World.size_alloc, World.size_alloc, hg] at this
    exact this
  have HSZ : Hid ((((w.alloc (objG x)).alloc (objG y)).alloc objZ).heap.size = g + 3) := by show _ = _; rw [World.size_alloc, World.size_alloc, World.size_alloc, hg]
  clear b1 b2 b3
  obtain ⟨z, hz⟩ : ∃ z, St.cmpS x.t x.r y.t y.r = z := ⟨_, rfl⟩
  have C := Lib.hid (fun W => St.cmp_any x.t x.r y.t y.r W)
  have hlat : latG x y = if z < 0 then y else x := by unfold latG belG; rw [hz]; simp
  have HLT := Lib.hid hlat
  rw [hz] at C
  clear hz hlat
  by_cases hz : z < 0
  · have hzd : decide (z < 0) = true := decide_eq_true hz
    rw [HLT.out, if_pos hz]
    go_enter Tryd.func36, Tryd.ntmps36
    obtain ⟨c0, c1, c2, c3⟩ := HX0.out
    obtain ⟨d0, d1, d2, d3⟩ := HY0.out
    go_wp2_with fail
    generalize (((w.alloc (objG x)).alloc (objG y)).alloc objZ) = WX at *
    clear hg
    refine (C.out _).mono ?_
    rintro e w1 ⟨rfl, hb⟩
    have HX1 := Lib.hid (HX0.out.next hb)
    have HY1 := Lib.hid (HY0.out.next hb)
    have HZ1 := Lib.hid (HZ0.out.next hb)
    have HL1 := Lib.hid (HL0.out.trans (hb.mono HL0.out.size))
    clear hb c0 c1 c2 c3 d0 d1 d2 d3 C
    obtain ⟨c0, c1, c2, c3⟩ := HX1.out
    obtain ⟨d0, d1, d2, d3⟩ := HY1.out
    have f0 := HZ1.out.free 0 _ rfl
    have f1 := HZ1.out.free 1 _ rfl
    have f2 := HZ1.out.free 2 _ rfl
    have f3 := HZ1.out.free 3 _ rfl
    have e0 := HZ1.out.cell 0 _ rfl
    have e1 := HZ1.out.cell 1 _ rfl
    have e2 := HZ1.out.cell 2 _ rfl
    have e3 := HZ1.out.cell 3 _ rfl
    go_wp2
    have HQ := (((HZ1.out.set 0 (.int .i64 y.p)).set 1 (.int .i64 y.v)).set 2 (.int .i64 y.t)).set 3 (.int .i64 y.r)
    have z0 := HQ.cell 0 _ rfl
    have z1 := HQ.cell 1 _ rfl
    have z2 := HQ.cell 2 _ rfl
    have z3 := HQ.cell 3 _ rfl
    clear HQ
    refine bodyPost_ret (v := valG y) (by simp [results, Tryd.results36, go_sem, z0, z1, z2, z3]) rfl ?_
    have hle : w.heap.size ≤ g + 1 + 1 := by have := HG.out; omega
    exact ⟨rfl, (((HL1.out.setCell (p := ⟨g + 1 + 1, 0, none⟩) hle _).setCell (p := ⟨g + 1 + 1, 1, none⟩) hle _).setCell (p := ⟨g + 1 + 1, 2, none⟩) hle _).setCell (p := ⟨g + 1 + 1, 3, none⟩) hle _⟩
  · have hzd : decide (z < 0) = false := decide_eq_false hz
    rw [HLT.out, if_neg hz]
    go_enter Tryd.func36, Tryd.ntmps36
    obtain ⟨c0, c1, c2, c3⟩ := HX0.out
    obtain ⟨d0, d1, d2, d3⟩ := HY0.out
    go_wp2_with fail
    generalize (((w.alloc (objG x)).alloc (objG y)).alloc objZ) = WX at *
    clear hg
    refine (C.out _).mono ?_
    rintro e w1 ⟨rfl, hb⟩
    have HX1 := Lib.hid (HX0.out.next hb)
    have HY1 := Lib.hid (HY0.out.next hb)
    have HZ1 := Lib.hid (HZ0.out.next hb)
    have HL1 := Lib.hid (HL0.out.trans (hb.mono HL0.out.size))
    clear hb c0 c1 c2 c3 d0 d1 d2 d3 C
    obtain ⟨c0, c1, c2, c3⟩ := HX1.out
    obtain ⟨d0, d1, d2, d3⟩ := HY1.out
    have f0 := HZ1.out.free 0 _ rfl
    have f1 := HZ1.out.free 1 _ rfl
    have f2 := HZ1.out.free 2 _ rfl
    have f3 := HZ1.out.free 3 _ rfl
    have e0 := HZ1.out.cell 0 _ rfl
    have e1 := HZ1.out.cell 1 _ rfl
    have e2 := HZ1.out.cell 2 _ rfl
    have e3 := HZ1.out.cell 3 _ rfl
    go_wp2
    have HQ := (((HZ1.out.set 0 (.int .i64 x.p)).set 1 (.int .i64 x.v)).set 2 (.int .i64 x.t)).set 3 (.int .i64 x.r)
    have z0 := HQ.cell 0 _ rfl
    have z1 := HQ.cell 1 _ rfl
    have z2 := HQ.cell 2 _ rfl
    have z3 := HQ.cell 3 _ rfl
    clear HQ
    refine bodyPost_ret (v := valG x) (by simp [results, Tryd.results36, go_sem, z0, z1, z2, z3]) rfl ?_
    have hle : w.heap.size ≤ g + 1 + 1 := by have := HG.out; omega
    exact ⟨rfl, (((HL1.out.setCell (p := ⟨g + 1 + 1, 0, none⟩) hle _).setCell (p := ⟨g + 1 + 1, 1, none⟩) hle _).setCell (p := ⟨g + 1 + 1, 2, none⟩) hle _).setCell (p := ⟨g + 1 + 1, 3, none⟩) hle _⟩
end Go.Proofs.YtjpjjckokonkpaaDoor
