/- Joined: G24 G25. -/
import Derived.Test.YtfhppfbmnnkikaaDoorZM
import Derived.Test.YtfhppfbmnnkikaaDoorZF
import Derived.Test.YtfhppfbmnnkikaaDoorZX
import Derived.Lib.QuietBelow

/- The page's Parse: mathematics; its taker. -/
namespace Go.Proofs.YtfhppfbmnnkikaaDoor
open Go.RowKit Go.Lib
set_option linter.unusedVariables false


/-- the page's next number -/
def stepT (bd : List Int) (at_ : Nat) (x : Int) : Int × Nat × Int := if x ≠ 0 then (0, at_, x) else ((tkN (bd.drop at_)).1, at_ + (tkN (bd.drop at_)).2.1, (tkN (bd.drop at_)).2.2)
theorem stepT_off {bd : List Int} {k : Nat} {x : Int} (h : x ≠ 0) : stepT bd k x = (0, k, x) := by unfold stepT; rw [if_pos h]
theorem stepT_on (bd : List Int) (k : Nat) : stepT bd k 0 = ((tkN (bd.drop k)).1, k + (tkN (bd.drop k)).2.1, (tkN (bd.drop k)).2.2) := by unfold stepT; rw [if_neg (by simp)]
theorem stepT_le {bd : List Int} (hb : IsB bd) {k : Nat} (hk : k ≤ bd.length) {x y : Int} {k' : Nat} {x' : Int} (h : stepT bd k x = (y, k', x')) : k' ≤ bd.length ∧ 0 ≤ y ∧ y ≤ 4611686018427387904 := by
  by_cases hx : x = 0
  · subst hx
    rw [stepT_on] at h
    have h1 := tkN_k (bd.drop k) (hb.drop k)
    rw [List.length_drop] at h1
    simp only [Prod.mk.injEq] at h
    omega
  · rw [stepT_off hx] at h
    simp only [Prod.mk.injEq] at h
    omega
theorem tnum_any (h : Nat) (a : Option Addr) (bs : List Int) (n cap kk : Nat) (x : Int) (w : World) (hB : Blk w h (tkrV a n cap (kk : Int) x)) (hn : n = bs.length) (hr : RowK .u8 w a bs) (hb : IsB bs) (hcap : bs.length ≤ cap) (hlen : bs.length ≤ 140737488355328) (hk : kk ≤ bs.length) {y : Int} {k' : Nat} {x' : Int} (hs : stepT bs kk x = (y, k', x')) : Calls Tryd.prog 52 #[.pointer (some ⟨h, 0, none⟩)] w (NumT h a n cap y (k' : Int) x' w) := by
  by_cases hx : x = 0
  · subst hx
    rw [stepT_on] at hs
    simp only [Prod.mk.injEq] at hs
    obtain ⟨rfl, rfl, rfl⟩ := hs
    exact tnum_on h a bs n cap kk w hB hn hr hb hcap hlen hk rfl
  · rw [stepT_off hx] at hs
    simp only [Prod.mk.injEq] at hs
    obtain ⟨rfl, rfl, rfl⟩ := hs
    exact tnum_off h a n cap (kk : Int) x w hB hx
theorem run_off {bd : List Int} {i : Nat} (hi : i ≤ 4) (h : (runB bd i).2.2 ≠ 0) : (runB bd 4).2.2 ≠ 0 := by rw [runB_off hi h]; exact h
/-- three numbers, and whether they were there -/
theorem run3 {bd : List Int} {y1 y2 y3 x1 x2 x3 : Int} {a1 a2 a3 : Nat} (h1 : stepT bd 0 0 = (y1, a1, x1)) (h2 : stepT bd a1 x1 = (y2, a2, x2)) (h3 : stepT bd a2 x2 = (y3, a3, x3)) : (x3 = 0 → runB bd 3 = (⟨y1, y2, y3, [], []⟩, a3, 0)) ∧ (x3 ≠ 0 → (runB bd 4).2.2 ≠ 0) := by
  rw [stepT_on, List.drop_zero, Nat.zero_add] at h1
  simp only [Prod.mk.injEq] at h1
  have r0 : runB bd 0 = (zF, 0, 0) := rfl
  by_cases e1 : x1 = 0
  · subst e1
    have r1 : runB bd 1 = (⟨y1, 0, 0, [], []⟩, a1, 0) := by
      have := runB_step (i := 0) r0 (F' := ⟨y1, 0, 0, [], []⟩) (k' := a1) (by rw [List.drop_zero]; simp only [updB, zF]; rw [h1.1, h1.2.1, h1.2.2])
      rw [Nat.zero_add, Nat.zero_add] at this
      exact this
    rw [stepT_on] at h2
    simp only [Prod.mk.injEq] at h2
    by_cases e2 : x2 = 0
    · subst e2
      have r2 : runB bd 2 = (⟨y1, y2, 0, [], []⟩, a2, 0) := by
        have := runB_step (i := 1) r1 (F' := ⟨y1, y2, 0, [], []⟩) (k' := (tkN (bd.drop a1)).2.1) (by simp only [updB]; rw [h2.1, h2.2.2])
        rw [h2.2.1] at this
        exact this
      rw [stepT_on] at h3
      simp only [Prod.mk.injEq] at h3
      by_cases e3 : x3 = 0
      · subst e3
        refine ⟨fun _ => ?_, fun h => absurd rfl h⟩
        have := runB_step (i := 2) r2 (F' := ⟨y1, y2, y3, [], []⟩) (k' := (tkN (bd.drop a2)).2.1) (by simp only [updB]; rw [h3.1, h3.2.2])
        rw [h3.2.1] at this
        exact this
      · refine ⟨fun h => absurd h e3, fun _ => ?_⟩
        rw [runB_bad (i := 2) (by omega) r2 e3 (F' := ⟨y1, y2, y3, [], []⟩) (k' := (tkN (bd.drop a2)).2.1) (by simp only [updB]; rw [h3.1, h3.2.2])]
        exact e3
    · rw [stepT_off e2] at h3
      simp only [Prod.mk.injEq] at h3
      rw [← h3.2.2]
      refine ⟨fun h => absurd h e2, fun _ => ?_⟩
      rw [runB_bad (i := 1) (by omega) r1 e2 (F' := ⟨y1, y2, 0, [], []⟩) (k' := (tkN (bd.drop a1)).2.1) (by simp only [updB]; rw [h2.1, h2.2.2])]
      exact e2
  · rw [stepT_off e1] at h2
    simp only [Prod.mk.injEq] at h2
    rw [← h2.2.2, stepT_off e1] at h3
    simp only [Prod.mk.injEq] at h3
    rw [← h3.2.2]
    refine ⟨fun h => absurd h e1, fun _ => ?_⟩
    rw [runB_bad (i := 0) (by omega) r0 e1 (F' := ⟨y1, 0, 0, [], []⟩) (k' := a1) (by rw [List.drop_zero]; simp only [updB, zF]; rw [h1.1, h1.2.1, h1.2.2])]
    exact e1
theorem prs_bad {bs : List Int} (h4 : ¬ bs.length < 4) (hq : bs.take 4 = be4 (crc (bs.drop 4))) (h : (runB (bs.drop 4) 4).2.2 ≠ 0) : prsF bs = (zF, 1) := prsF_1 h4 hq (F := (runB (bs.drop 4) 4).1) (k := (runB (bs.drop 4) 4).2.1) (x := (runB (bs.drop 4) 4).2.2) rfl (.inl h)
theorem updB_bad {bd : List Int} {F : FrD} {k : Nat} (h : runB bd 3 = (F, k, 0)) (hu : (updB 3 (bd.drop k) F).2.2 ≠ 0) : (runB bd 4).2.2 ≠ 0 := by
  rw [runB_bad (i := 3) (by omega) h (F' := (updB 3 (bd.drop k) F).1) (k' := (updB 3 (bd.drop k) F).2.1) (x := (updB 3 (bd.drop k) F).2.2) hu rfl]
  exact hu
/-- the vector's way -/
theorem page_vec {bs : List Int} (h4 : ¬ bs.length < 4) (hq : bs.take 4 = be4 (crc (bs.drop 4))) {y1 y2 : Int} {a3 : Nat} (hr : runB (bs.drop 4) 3 = (⟨y1, y2, 1, [], []⟩, a3, 0)) {ls : List Int} {k : Nat} {x : Int} (hv : Hv.tkV ((bs.drop 4).drop a3) = (ls, k, x)) :
    (x ≠ 0 → prsF bs = (zF, 1)) ∧ (x = 0 → (runB (bs.drop 4) 4 = (⟨y1, y2, 1, ls, []⟩, a3 + k, 0))) := by
  have hu : updB 3 ((bs.drop 4).drop a3) ⟨y1, y2, 1, [], []⟩ = (⟨y1, y2, 1, ls, []⟩, k, x) := by simp only [updB, hv, if_true]
  refine ⟨fun hx => prs_bad h4 hq (updB_bad hr (by rw [hu]; exact hx)), fun hx => ?_⟩
  subst hx
  exact runB_step hr hu
/-- the end: behind all fields -/
theorem page_end {bs : List Int} (hb : IsB bs) (h4 : ¬ bs.length < 4) (hq : bs.take 4 = be4 (crc (bs.drop 4))) {F : FrD} {k : Nat} (hr : runB (bs.drop 4) 4 = (F, k, 0)) :
    (k ≠ (bs.drop 4).length → prsF bs = (zF, 1)) ∧ (F.ok = false → prsF bs = (zF, 1)) ∧ (k = (bs.drop 4).length → F.ok = true → prsF bs = (F, 0)) := by
  have hk := runB_k (hb.drop 4) 4 (Nat.le_refl _) (by rw [hr])
  rw [hr] at hk
  refine ⟨fun h => prsF_1 h4 hq hr (.inr (.inl ?_)), fun h => prsF_1 h4 hq hr (.inr (.inr h)), fun h1 h2 => prsF_0 h4 hq hr (by omega) h2⟩
  simp only at hk
  omega
/-- the operations' way: what its loop holds -/
structure GoodO (bd : List Int) (a3 c a0 i : Nat) (os : List OpD) (kk : Nat) : Prop where
  num : tkN (bd.drop a3) = ((c : Int), a0, 0)
  run : tkOs (bd.drop a3) a0 i = (os, kk, 0)
  len : os.length = i
theorem GoodO.le {bd : List Int} (hb : IsB bd) {a3 c a0 i : Nat} {os : List OpD} {kk : Nat} (h : GoodO bd a3 c a0 i os kk) : kk ≤ (bd.drop a3).length := by
  have h1 := (tkN_k (bd.drop a3) (hb.drop a3)).1
  rw [h.num] at h1
  have := (tkOs_back (hb.drop a3) h1 i (by rw [h.run])).1
  rw [h.run] at this
  exact this
theorem GoodO.ops {bd : List Int} {a3 c a0 i : Nat} {os : List OpD} {kk : Nat} (h : GoodO bd a3 c a0 i os kk) (hc : c = i) (h8 : c ≤ 8) : tkOps (bd.drop a3) = (os, kk, 0) := by
  rw [tkOps_run h.num h8, hc]
  exact h.run
theorem upd_ops {bs : List Int} {F : FrD} (hk : F.k = 2) : updB 3 bs F = ({ F with os := (tkOps bs).1 }, (tkOps bs).2.1, (tkOps bs).2.2) := by
  simp only [updB]
  rw [if_neg (by rw [hk]; decide), if_pos hk]
theorem upd_none {bs : List Int} {F : FrD} (h1 : F.k ≠ 1) (h2 : F.k ≠ 2) : updB 3 bs F = (F, 0, 1) := by
  simp only [updB]
  rw [if_neg h1, if_neg h2]
/-- an error in the operations' way: none -/
theorem page_opsE {bs : List Int} (h4 : ¬ bs.length < 4) (hq : bs.take 4 = be4 (crc (bs.drop 4))) {F : FrD} {a3 : Nat} (hr : runB (bs.drop 4) 3 = (F, a3, 0)) (hk1 : F.k ≠ 1) (he : F.k = 2 → (tkOps ((bs.drop 4).drop a3)).2.2 ≠ 0) : prsF bs = (zF, 1) := by
  refine prs_bad h4 hq (updB_bad hr ?_)
  by_cases hk : F.k = 2
  · rw [upd_ops hk]; exact he hk
  · rw [upd_none hk1 hk]; simp
theorem tkOps_stop {bs : List Int} {c a0 i kk k' : Nat} {os : List OpD} {R : OpR} {q x : Int} (hn : tkN bs = ((c : Int), a0, 0)) (h : tkOs bs a0 i = (os, kk, 0)) (hk : tkO (bs.drop kk) = (R, q, k', x)) (hx : x ≠ 0) (hi : i < c) : (tkOps bs).2.2 ≠ 0 := by
  by_cases h8 : c ≤ 8
  · rw [tkOps_run hn h8, tkOs_bad h hk hx hi]; exact hx
  · rw [tkOps_big hn (by omega)]; simp
theorem page_ops {bs : List Int} (hb : IsB bs) (h4 : ¬ bs.length < 4) (hq : bs.take 4 = be4 (crc (bs.drop 4))) {y1 y2 y3 : Int} {a3 : Nat} (hr : runB (bs.drop 4) 3 = (⟨y1, y2, y3, [], []⟩, a3, 0)) (hy : y3 ≠ 1) {c a0 i kk : Nat} {os : List OpD} (g : GoodO (bs.drop 4) a3 c a0 i os kk) (hend : i = c ∨ 9 ≤ i) (hic : i ≤ c) :
    (a3 + kk ≠ (bs.drop 4).length → prsF bs = (zF, 1)) ∧ (frB y1 y2 y3 [] os = false → prsF bs = (zF, 1)) ∧ (a3 + kk = (bs.drop 4).length → frB y1 y2 y3 [] os = true → prsF bs = (⟨y1, y2, y3, [], os⟩, 0)) := by
  by_cases hgood : y3 = 2 ∧ c ≤ 8
  · obtain ⟨rfl, h8⟩ := hgood
    have ho := g.ops (by omega) h8
    have hu : updB 3 ((bs.drop 4).drop a3) ⟨y1, y2, 2, [], []⟩ = (⟨y1, y2, 2, [], os⟩, kk, 0) := by rw [upd_ops rfl, ho]
    have r4 := runB_step hr hu
    exact page_end hb h4 hq r4
  · have hbad : prsF bs = (zF, 1) := page_opsE h4 hq hr hy fun h2 => by
      have h8 : 8 < c := by
        simp only at h2
        have : ¬ c ≤ 8 := fun h => hgood ⟨h2, h⟩
        omega
      rw [tkOps_big g.num (by omega)]; simp
    refine ⟨fun _ => hbad, fun _ => hbad, fun _ hf => ?_⟩
    exfalso
    rcases fkB_parts (frB_parts hf).2.2.2 with ⟨e, _⟩ | ⟨e, hbt, _⟩
    · exact hy e
    · have hl := (batB_parts hbt).2.1
      have := g.len
      exact hgood ⟨e, by omega⟩
end Go.Proofs.YtfhppfbmnnkikaaDoor

/- Which frame bytes are: the page's. -/
namespace Go.Proofs.YtfhppfbmnnkikaaDoor
open Go.RowKit Go.Lib
set_option linter.unusedVariables false


theorem fblk_isv (w : World) (y1 y2 y3 : Int) : Blk (w.alloc (.cells #[.int .i64 y1, .int .i64 y2, .int .i64 y3, .slice none 0 0, .slice none 0 0] 40)) w.heap.size [.int .i64 y1, .int .i64 y2, .int .i64 y3, .slice none 0 0, .slice none 0 0] := by
  constructor
  · intro i u hi
    match i, hi with
    | 0, hi | 1, hi | 2, hi | 3, hi | 4, hi => simp at hi; subst hi; simp
    | _ + 5, hi => simp at hi
  · intro i u hi
    match i, hi with
    | 0, hi | 1, hi | 2, hi | 3, hi | 4, hi => simp
    | _ + 5, hi => simp at hi
/-- what the page's Parse keeps -/
structure PZ (w W : World) (g h : Nat) (a : Option Addr) (n cap : Nat) (z x : Int) : Prop where
  rz : Blk W g (zF.cells (.slice none 0 0) (.slice none 0 0))
  t : Blk W h (tkrV a n cap z x)
  bel : Below w.heap.size w W
  gg : w.heap.size = g
  hh : g < h
structure PQ (w W : World) (g h f : Nat) (a : Option Addr) (n cap : Nat) (z x : Int) (y1 y2 y3 : Int) (hv ov : Value) : Prop where
  rz : Blk W g (zF.cells (.slice none 0 0) (.slice none 0 0))
  t : Blk W h (tkrV a n cap z x)
  o : Blk W f [.int .i64 y1, .int .i64 y2, .int .i64 y3, hv, ov]
  bel : Below w.heap.size w W
  gg : w.heap.size = g
  hh : g < h
  hb : h < f
section
variable {w W W' : World} {g h f : Nat} {a : Option Addr} {n cap : Nat} {z x y1 y2 y3 : Int} {hv ov : Value}
theorem PZ.grown (p : PZ w W g h a n cap z x) {z' x' : Int} (hg : W.grownBy W' (some h)) (ht : Blk W' h (tkrV a n cap z' x')) : PZ w W' g h a n cap z' x' := by
  have h1 := p.hh
  have h2 := p.gg
  have h3 := p.rz.lt
  exact ⟨p.rz.grown hg (by intro e; cases e; omega), ht, bel_grownBy p.bel hg (by omega) (by omega), h2, h1⟩
theorem PZ.open (p : PZ w W g h a n cap z x) (y1 y2 y3 : Int) : PQ w (W.alloc (.cells #[.int .i64 y1, .int .i64 y2, .int .i64 y3, .slice none 0 0, .slice none 0 0] 40)) g h W.heap.size a n cap z x y1 y2 y3 (.slice none 0 0) (.slice none 0 0) :=
  ⟨p.rz.next (box_bel _ _), p.t.next (box_bel _ _), fblk_isv W y1 y2 y3, p.bel.trans ((box_bel W _).mono p.bel.size), p.gg, p.hh, p.t.lt⟩
theorem PQ.grown (p : PQ w W g h f a n cap z x y1 y2 y3 hv ov) {z' x' : Int} (hg : W.grownBy W' (some h)) (ht : Blk W' h (tkrV a n cap z' x')) : PQ w W' g h f a n cap z' x' y1 y2 y3 hv ov := by
  have h1 := p.hh
  have h2 := p.hb
  have h3 := p.rz.lt
  have h4 := p.gg
  exact ⟨p.rz.grown hg (by intro e; cases e; omega), ht, p.o.grown hg (by intro e; cases e; omega), bel_grownBy p.bel hg (by omega) (by omega), h4, h1, h2⟩
theorem PQ.next (p : PQ w W g h f a n cap z x y1 y2 y3 hv ov) (hb : Below W.heap.size W W') : PQ w W' g h f a n cap z x y1 y2 y3 hv ov :=
  ⟨p.rz.next hb, p.t.next hb, p.o.next hb, p.bel.trans (hb.mono p.bel.size), p.gg, p.hh, p.hb⟩
theorem PQ.drew (p : PQ w W g h f a n cap z x y1 y2 y3 hv ov) : PQ w W.drew g h f a n cap z x y1 y2 y3 hv ov := p.next (Below.refl _ W).drew
theorem PQ.setH (p : PQ w W g h f a n cap z x y1 y2 y3 hv ov) (u : Value) : PQ w (W.setCell ⟨f, 3, none⟩ u) g h f a n cap z x y1 y2 y3 u ov := by
  have h1 := p.hh
  have h2 := p.hb
  have h4 := p.gg
  exact ⟨p.rz.other (by omega) _ _, p.t.other (by omega) _ _, p.o.set 3 u, p.bel.setCell (p := ⟨f, 3, none⟩) (by simp; omega) _, h4, h1, h2⟩
theorem PQ.setO (p : PQ w W g h f a n cap z x y1 y2 y3 hv ov) (u : Value) : PQ w (W.setCell ⟨f, 4, none⟩ u) g h f a n cap z x y1 y2 y3 hv u := by
  have h1 := p.hh
  have h2 := p.hb
  have h4 := p.gg
  exact ⟨p.rz.other (by omega) _ _, p.t.other (by omega) _ _, p.o.set 4 u, p.bel.setCell (p := ⟨f, 4, none⟩) (by simp; omega) _, h4, h1, h2⟩
theorem PQ.setT (p : PQ w W g h f a n cap z x y1 y2 y3 hv ov) (z' x' : Int) : PQ w ((W.setCell ⟨h, 1, none⟩ (.int .i64 z')).setCell ⟨h, 2, none⟩ (.int .i64 x')) g h f a n cap z' x' y1 y2 y3 hv ov := by
  have h1 := p.hh
  have h2 := p.hb
  have h4 := p.gg
  exact ⟨(p.rz.other (by omega) _ _).other (by omega) _ _, (p.t.set 1 _).set 2 _, (p.o.other (by omega) _ _).other (by omega) _ _, (p.bel.setCell (p := ⟨h, 1, none⟩) (by simp; omega) _).setCell (p := ⟨h, 2, none⟩) (by simp; omega) _, h4, h1, h2⟩
theorem PQ.grownO {row : Option Nat} (p : PQ w W g h f a n cap z x y1 y2 y3 hv ov) (hg : W.grownBy W' row) (hrow : ∀ k, row = some k → f < k) : PQ w W' g h f a n cap z x y1 y2 y3 hv ov := by
  have h1 := p.hh
  have h2 := p.hb
  have h3 := p.rz.lt
  have h4 := p.gg
  have n1 : some g ≠ row := fun e => by have := hrow g e.symm; omega
  have n2 : some h ≠ row := fun e => by have := hrow h e.symm; omega
  have n3 : some f ≠ row := fun e => by have := hrow f e.symm; omega
  exact ⟨p.rz.grown hg n1, p.t.grown hg n2, p.o.grown hg n3, ⟨hg.os.trans p.bel.os, hg.tape.trans p.bel.tape, hg.output.trans p.bel.output, Nat.le_trans p.bel.size hg.size, fun k hk => (hg.block k (by have := p.bel.size; omega) (fun e => by have := hrow k e.symm; omega)).trans (p.bel.block k hk)⟩, h4, h1, h2⟩
end
theorem far12T {w1 : World} {h b j : Nat} {u : Value} (hne : b ≠ h) (hc : w1.cell? ⟨h, j, none⟩ = some u) (u0 u1 u2 u3 u4 u5 u6 u7 u8 u9 u10 u11 : Value) : ((((((((((((w1.setCell ⟨b, 0, none⟩ u0).setCell ⟨b, 1, none⟩ u1).setCell ⟨b, 2, none⟩ u2).setCell ⟨b, 3, none⟩ u3).setCell ⟨b, 4, none⟩ u4).setCell ⟨b, 5, none⟩ u5).setCell ⟨b, 6, none⟩ u6).setCell ⟨b, 7, none⟩ u7).setCell ⟨b, 8, none⟩ u8).setCell ⟨b, 9, none⟩ u9).setCell ⟨b, 10, none⟩ u10).setCell ⟨b, 11, none⟩ u11).cell? ⟨h, j, none⟩ = some u := by
  rw [World.cell?_setCell_far _ _ _ _ (by simpa using hne), World.cell?_setCell_far _ _ _ _ (by simpa using hne), World.cell?_setCell_far _ _ _ _ (by simpa using hne), World.cell?_setCell_far _ _ _ _ (by simpa using hne), World.cell?_setCell_far _ _ _ _ (by simpa using hne), World.cell?_setCell_far _ _ _ _ (by simpa using hne), World.cell?_setCell_far _ _ _ _ (by simpa using hne), World.cell?_setCell_far _ _ _ _ (by simpa using hne), World.cell?_setCell_far _ _ _ _ (by simpa using hne), World.cell?_setCell_far _ _ _ _ (by simpa using hne), World.cell?_setCell_far _ _ _ _ (by simpa using hne), World.cell?_setCell_far _ _ _ _ (by simpa using hne)]
  exact hc
theorem heldT_set12 {w0 w1 : World} {h : Nat} {u v : Value} (hS : w1.cell? ⟨h, 0, none⟩ = some u ∧ w1.cell? ⟨h, 1, none⟩ = some v ∧ Hid (Below w0.heap.size w0 w1)) {b : Nat} (hne : b ≠ h) (hb : w0.heap.size ≤ b) (u0 u1 u2 u3 u4 u5 u6 u7 u8 u9 u10 u11 : Value) : ((((((((((((w1.setCell ⟨b, 0, none⟩ u0).setCell ⟨b, 1, none⟩ u1).setCell ⟨b, 2, none⟩ u2).setCell ⟨b, 3, none⟩ u3).setCell ⟨b, 4, none⟩ u4).setCell ⟨b, 5, none⟩ u5).setCell ⟨b, 6, none⟩ u6).setCell ⟨b, 7, none⟩ u7).setCell ⟨b, 8, none⟩ u8).setCell ⟨b, 9, none⟩ u9).setCell ⟨b, 10, none⟩ u10).setCell ⟨b, 11, none⟩ u11).cell? ⟨h, 0, none⟩ = some u ∧ ((((((((((((w1.setCell ⟨b, 0, none⟩ u0).setCell ⟨b, 1, none⟩ u1).setCell ⟨b, 2, none⟩ u2).setCell ⟨b, 3, none⟩ u3).setCell ⟨b, 4, none⟩ u4).setCell ⟨b, 5, none⟩ u5).setCell ⟨b, 6, none⟩ u6).setCell ⟨b, 7, none⟩ u7).setCell ⟨b, 8, none⟩ u8).setCell ⟨b, 9, none⟩ u9).setCell ⟨b, 10, none⟩ u10).setCell ⟨b, 11, none⟩ u11).cell? ⟨h, 1, none⟩ = some v ∧ Hid (Below w0.heap.size w0 ((((((((((((w1.setCell ⟨b, 0, none⟩ u0).setCell ⟨b, 1, none⟩ u1).setCell ⟨b, 2, none⟩ u2).setCell ⟨b, 3, none⟩ u3).setCell ⟨b, 4, none⟩ u4).setCell ⟨b, 5, none⟩ u5).setCell ⟨b, 6, none⟩ u6).setCell ⟨b, 7, none⟩ u7).setCell ⟨b, 8, none⟩ u8).setCell ⟨b, 9, none⟩ u9).setCell ⟨b, 10, none⟩ u10).setCell ⟨b, 11, none⟩ u11)) :=
  ⟨far12T hne hS.1 u0 u1 u2 u3 u4 u5 u6 u7 u8 u9 u10 u11, far12T hne hS.2.1 u0 u1 u2 u3 u4 u5 u6 u7 u8 u9 u10 u11, Lib.hid ((((((((((((hS.2.2.out.setCell (p := ⟨b, 0, none⟩) hb u0).setCell (p := ⟨b, 1, none⟩) hb u1).setCell (p := ⟨b, 2, none⟩) hb u2).setCell (p := ⟨b, 3, none⟩) hb u3).setCell (p := ⟨b, 4, none⟩) hb u4).setCell (p := ⟨b, 5, none⟩) hb u5).setCell (p := ⟨b, 6, none⟩) hb u6).setCell (p := ⟨b, 7, none⟩) hb u7).setCell (p := ⟨b, 8, none⟩) hb u8).setCell (p := ⟨b, 9, none⟩) hb u9).setCell (p := ⟨b, 10, none⟩) hb u10).setCell (p := ⟨b, 11, none⟩) hb u11)⟩
theorem blkZ_after {W w8 : World} (hb : Below (W.alloc (.cells #[.int .i64 0, .int .i64 0, .int .i64 0, .slice none 0 0, .int .i64 0, .int .i64 0, .int .i64 0, .int .i64 0, .int .i64 0, .string ⟨#[]⟩, .int .i64 0, .int .i64 0] 27)).drew.heap.size (W.alloc (.cells #[.int .i64 0, .int .i64 0, .int .i64 0, .slice none 0 0, .int .i64 0, .int .i64 0, .int .i64 0, .int .i64 0, .int .i64 0, .string ⟨#[]⟩, .int .i64 0, .int .i64 0] 27)).drew w8) : Blk w8 W.heap.size (zR.cells 0 (.slice none 0 0)) := (blk_new W).drew.next hb
theorem tkO_le {bs : List Int} (hb : IsB bs) : (tkO bs).2.2.1 ≤ bs.length := by
  by_cases h : (tkO bs).2.2.2 = 0
  · exact (tkO_back hb h).2.1
  · by_cases h0 : (runR bs 6).2.2 = 0
    · cases h2 : (runR bs 6).1.ok (seqR (runR bs 6).1)
      · rw [tkO_no h0 h2]; exact Nat.zero_le _
      · rw [tkO_yes h0 h2] at h; exact absurd rfl h
    · rw [tkO_err h0]; exact Nat.zero_le _
/-- what the loop over the operations keeps -/
structure LoopI (w W : World) (g h f : Nat) (a : Option Addr) (n cap : Nat) (y1 y2 y3 : Int) (bs bd : List Int) (a3 cn i at_ : Nat) (x : Int) (ov : Value) : Prop where
  pq : PQ w W g h f a n cap (at_ : Int) x y1 y2 y3 (.slice none 0 0) ov
  bad : x ≠ 0 → prsF bs = (zF, 1)
  good : x = 0 → ∃ a0 os kk dl, GoodO bd a3 cn a0 i os kk ∧ at_ = a3 + kk ∧ OwnO W (f + 1) ov os dl ∧ DepsO W (f + 1) os dl ∧ i ≤ cn
  le : at_ ≤ bd.length
  sl : ∃ oa on oc, ov = .slice oa on oc
theorem fr_build3 (y1 y2 y3 : Int) (w : World) : (Instr.build 40 #[(0, .int .i64 y1), (1, .int .i64 y2), (2, .int .i64 y3)]).run Tryd.prog w = .ok (.agg #[.int .i64 y1, .int .i64 y2, .int .i64 y3, .slice none 0 0, .slice none 0 0]) w := run_build w 40 _ _ (by kernel_rfl)
def RefT (X : FrD × Int) (w : World) (e : Ending) (w' : World) : Prop := ∃ ha hn hc oa on oc, e = .returned (.tuple #[.agg #[.int .i64 X.1.fr, .int .i64 X.1.tu, .int .i64 X.1.k, .slice ha hn hc, .slice oa on oc], .int .i64 X.2]) ∧ FrR w' ha X.1.hs hn oa X.1.os on ∧ Below w.heap.size w w'
theorem refT_of {bs : List Int} {X : FrD × Int} (h : prsF bs = X) {w w' : World} {e : Ending} (k : RefT X w e w') : RefT (prsF bs) w e w' := by rw [h]; exact k
theorem refT_zero {x : Int} {w w' : World} (h : Below w.heap.size w w') : RefT (zF, x) w (.returned (.tuple #[.agg #[.int .i64 0, .int .i64 0, .int .i64 0, .slice none 0 0, .slice none 0 0], .int .i64 x])) w' := ⟨_, _, _, _, _, _, rfl, ⟨RowK.nil _ _ _, rfl, by simp [zF], RowO.nil _ _, rfl, by simp [zF]⟩, h⟩
theorem take4_ne {bs : List Int} {S : Nat} (h4 : 4 ≤ bs.length) : bs.take 4 = be4 S ↔ (bs.getD 0 0 = ((S / 16777216 : Nat) : Int) ∧ bs.getD 1 0 = ((S / 65536 % 256 : Nat) : Int) ∧ bs.getD 2 0 = ((S / 256 % 256 : Nat) : Int) ∧ bs.getD 3 0 = ((S % 256 : Nat) : Int)) := by
  match bs, h4 with
  | a :: b :: c :: d :: r, _ => simp [be4]

set_option maxHeartbeats 40000000 in
set_option maxRecDepth 100000 in
theorem refParse_any (a : Option Addr) (bs : List Int) (n cap : Nat) (w : World) (hn : n = bs.length) (hr : RowK .u8 w a bs) (hb : IsB bs) (hcap : bs.length ≤ cap) (hlen : bs.length ≤ 140737488355328) : Calls Tryd.prog 26 #[.slice a n cap] w (RefT (prsF bs) w) := by
  have mixed : Tryd.prog.follows .mixedOrders = true := by kernel_rfl
  have HN := Lib.hid hn
  have HR := Lib.hid hr
  have HB := Lib.hid hb
  have HCAP := Lib.hid hcap
  have HLEN := Lib.hid hlen
  obtain ⟨g, hg⟩ : ∃ g, w.heap.size = g := ⟨_, rfl⟩
  have HG : Hid (w.heap.size = g) := hg
  have HB0 : Hid (Blk (w.alloc (.cells #[.int .i64 0, .int .i64 0, .int .i64 0, .slice none 0 0, .slice none 0 0] 40)) g (zF.cells (.slice none 0 0) (.slice none 0 0))) := hg ▸ fblk_new w
  have HL0 := Lib.hid (box_bel w (.cells #[.int .i64 0, .int .i64 0, .int .i64 0, .slice none 0 0, .slice none 0 0] 40))
  have HS0 : Hid ((w.alloc (.cells #[.int .i64 0, .int .i64 0, .int .i64 0, .slice none 0 0, .slice none 0 0] 40)).heap.size = g + 1) := by show _ = _; rw [World.size_alloc, hg]
  clear hn hr hb hcap hlen
  by_cases h4 : bs.length < 4
  · -- MA
    have hd : (n : Int) < 4 := by have := HN.out; omega
    have hd' : decide ((n : Int) < 4) = true := decide_eq_true hd
    have HE := Lib.hid (prsF_7 h4)
    clear h4
    go_enter Tryd.func26, Tryd.ntmps26
    go_wp2_with fail
    generalize w.alloc (.cells #[.int .i64 0, .int .i64 0, .int .i64 0, .slice none 0 0, .slice none 0 0] 40) = WX at *
    clear hg
    have e0 := HB0.out.cell 0 _ rfl
    have f0 := HB0.out.free 0 _ rfl
    have e1 := HB0.out.cell 1 _ rfl
    have f1 := HB0.out.free 1 _ rfl
    have e2 := HB0.out.cell 2 _ rfl
    have f2 := HB0.out.free 2 _ rfl
    have e3 := HB0.out.cell 3 _ rfl
    have f3 := HB0.out.free 3 _ rfl
    have e4 := HB0.out.cell 4 _ rfl
    have f4 := HB0.out.free 4 _ rfl
    go_wp2
    refine bodyPost_ret (v := .tuple #[.agg #[.int .i64 0, .int .i64 0, .int .i64 0, .slice none 0 0, .slice none 0 0], .int .i64 7]) (by simp [results, Tryd.results26, go_sem, zF, e0, e1, e2, e3, e4]) rfl ?_
    exact refT_of HE.out (refT_zero HL0.out)
  · have hd : ¬ (n : Int) < 4 := by have := HN.out; omega
    have hd' : decide ((n : Int) < 4) = false := decide_eq_false hd
    have hn4 : 4 ≤ n := by have := HN.out; omega
    have H4 := Lib.hid h4
    have HROW := Lib.hid (HR.out.alloc (.cells #[.int .i64 0, .int .i64 0, .int .i64 0, .slice none 0 0, .slice none 0 0] 40))
    have hsl : ∀ W, (Instr.slice 33 (.slice a n cap) (some (.int .i64 4)) none none).run Tryd.prog W = .ok (.slice (partA a 4 cap) (n - 4) (cap - 4)) W := fun W => slice_l W a n cap 4 4 rfl (by have := HN.out; omega)
    clear h4
    go_enter Tryd.func26, Tryd.ntmps26
    go_wp2_with fail
    generalize w.alloc (.cells #[.int .i64 0, .int .i64 0, .int .i64 0, .slice none 0 0, .slice none 0 0] 40) = WX at *
    clear hg
    obtain ⟨bd, hbd⟩ : ∃ l, bs.drop 4 = l := ⟨_, rfl⟩
    have HBD := Lib.hid hbd
    have HRB : Hid (∀ W, Below WX.heap.size WX W → RowK .u8 W (partA a 4 cap) bd) := fun W h => by rw [← hbd]; exact (HROW.out.below h (Nat.le_refl _)).rest 4 cap HCAP.out
    have HNB : Hid (n - 4 = bd.length) := by show _ = _; rw [← hbd, List.length_drop, HN.out]
    have HBB : Hid (IsB bd) := by show IsB bd; rw [← hbd]; exact HB.out.drop 4
    have HLB : Hid (bd.length ≤ 140737488355328) := by have := HLEN.out; show _ ≤ _; rw [← hbd, List.length_drop]; omega
    have HCB : Hid (bd.length ≤ cap - 4) := by have h1 := HNB.out; have h2 := HCAP.out; have h3 := HN.out; show _ ≤ _; omega
    have C42 := Lib.hid (refSum_any (partA a 4 cap) bd (n - 4) (cap - 4) WX HNB.out (HRB.out WX (Below.refl _ _)) HBB.out HLB.out)
    unfold SumPost at C42
    have HSL := Lib.hid (crc_lt HBB.out)
    obtain ⟨S, hS⟩ : ∃ S, crc bd = S := ⟨_, rfl⟩
    have HSS := Lib.hid hS
    rw [hS] at C42 HSL
    clear hbd hS
    refine (C42.out).mono ?_
    rintro e w' ⟨rfl, rfl⟩
    obtain ⟨b0, o0, rfl, q0'⟩ := HROW.out 0 (by have := HN.out; omega)
    have q0 : WX.cell? ⟨b0, o0, none⟩ = some (.int .u8 (bs.getD 0 0)) := q0'
    have qq : ∀ i, i < bs.length → WX.cell? ⟨b0, o0 + i, none⟩ = some (.int .u8 (bs.getD i 0)) := fun i hi => by
      obtain ⟨b1, o1, e1, q1⟩ := HROW.out i hi
      simp only [Option.some.injEq, Addr.mk.injEq, and_true] at e1
      obtain ⟨rfl, rfl⟩ := e1
      exact q1
    have q1 := qq 1 (by have := HN.out; omega)
    have q2 := qq 2 (by have := HN.out; omega)
    have q3 := qq 3 (by have := HN.out; omega)
    obtain ⟨z0, hz0⟩ : ∃ z, bs.getD 0 0 = z := ⟨_, rfl⟩
    rw [hz0] at q0
    have HZ0 := Lib.hid hz0
    obtain ⟨z1, hz1⟩ : ∃ z, bs.getD 1 0 = z := ⟨_, rfl⟩
    rw [hz1] at q1
    have HZ1 := Lib.hid hz1
    obtain ⟨z2, hz2⟩ : ∃ z, bs.getD 2 0 = z := ⟨_, rfl⟩
    rw [hz2] at q2
    have HZ2 := Lib.hid hz2
    obtain ⟨z3, hz3⟩ : ∃ z, bs.getD 3 0 = z := ⟨_, rfl⟩
    rw [hz3] at q3
    have HZ3 := Lib.hid hz3
    clear qq q0' hz0 hz1 hz2 hz3 C42
    by_cases m0 : z0 = (S : Int) / 16777216 % 256
    · by_cases m1 : z1 = (S : Int) / 65536 % 256
      · by_cases m2 : z2 = (S : Int) / 256 % 256
        · by_cases m3 : z3 = (S : Int) % 256
          · -- MF
            have m0z : (z0 == (S : Int) / 16777216 % 256) = true := by simpa using m0
            have m0y : (z0 != (S : Int) / 16777216 % 256) = false := by simpa using m0
            have m1z : (z1 == (S : Int) / 65536 % 256) = true := by simpa using m1
            have m1y : (z1 != (S : Int) / 65536 % 256) = false := by simpa using m1
            have m2z : (z2 == (S : Int) / 256 % 256) = true := by simpa using m2
            have m2y : (z2 != (S : Int) / 256 % 256) = false := by simpa using m2
            have m3z : (z3 == (S : Int) % 256) = true := by simpa using m3
            have m3y : (z3 != (S : Int) % 256) = false := by simpa using m3
            have HQ : Hid (bs.take 4 = be4 (crc (bs.drop 4))) := by show _ = _; rw [HBD.out, HSS.out, take4_ne (by have := H4.out; omega), HZ0.out, HZ1.out, HZ2.out, HZ3.out]; have := HSL.out; omega
            clear m0 m1 m2 m3
            have hbt := tk_build
            have HRW : Hid (∀ W, Below w.heap.size w W → RowK .u8 W (partA (some ⟨b0, o0, none⟩) 4 cap) bd) := fun W h => by rw [← HBD.out]; exact (HR.out.below h (Nat.le_refl _)).rest 4 cap HCAP.out
            have HPZ0 : Hid (PZ w (WX.alloc (.cells #[.slice (partA (some ⟨b0, o0, none⟩) 4 cap) (n - 4) (cap - 4), .int .i64 0, .int .i64 0] 85)) g WX.heap.size (partA (some ⟨b0, o0, none⟩) 4 cap) (n - 4) (cap - 4) 0 0) := ⟨HB0.out.next (box_bel _ _), blk3_new WX _ _ _, HL0.out.trans ((box_bel WX _).mono HL0.out.size), HG.out, by have := HS0.out; omega⟩
            obtain ⟨⟨y1, a1, x1⟩, hs1⟩ : ∃ Z, stepT bd 0 0 = Z := ⟨_, rfl⟩
            obtain ⟨⟨y2, a2, x2⟩, hs2⟩ : ∃ Z, stepT bd a1 x1 = Z := ⟨_, rfl⟩
            obtain ⟨⟨y3, a3, x3⟩, hs3⟩ : ∃ Z, stepT bd a2 x2 = Z := ⟨_, rfl⟩
            have HR3 : Hid ((x3 = 0 → runB bd 3 = (⟨y1, y2, y3, [], []⟩, a3, 0)) ∧ (x3 ≠ 0 → (runB bd 4).2.2 ≠ 0)) := run3 hs1 hs2 hs3
            have ha1 := (stepT_le HBB.out (Nat.zero_le _) hs1).1
            have ha2 := (stepT_le HBB.out ha1 hs2).1
            have ha3 := (stepT_le HBB.out ha2 hs3).1
            have HA3 := Lib.hid ha3
            have hbf := fr_build3
            go_wp2_with fail
            clear hsl m0z m1z m2z m3z m0y m1y m2y m3y q0 q1 q2 q3 hd hd'
            generalize hW1 : WX.alloc (.cells #[.slice (partA (some ⟨b0, o0, none⟩) 4 cap) (n - 4) (cap - 4), .int .i64 0, .int .i64 0] 85) = W1 at *
            generalize hh0 : WX.heap.size = h at *
            generalize partA (some ⟨b0, o0, none⟩) 4 cap = aa at *
            generalize hnn : n - 4 = nn at *
            generalize hcc : cap - 4 = cc at *
            clear hW1 hh0 HB0 HL0 HROW hbt
            refine (tnum_any h aa bd nn cc 0 0 W1 HPZ0.out.t HNB.out (HRW.out W1 HPZ0.out.bel) HBB.out HCB.out HLB.out (Nat.zero_le _) hs1).mono ?_
            rintro e W2 ⟨rfl, ht2, hg2⟩
            have HPZ1 := Lib.hid (HPZ0.out.grown hg2 ht2)
            clear ht2 hg2 HPZ0
            go_wp2_with fail
            refine (tnum_any h aa bd nn cc a1 x1 W2 HPZ1.out.t HNB.out (HRW.out W2 HPZ1.out.bel) HBB.out HCB.out HLB.out ha1 hs2).mono ?_
            rintro e W3 ⟨rfl, ht3, hg3⟩
            have HPZ2 := Lib.hid (HPZ1.out.grown hg3 ht3)
            clear ht3 hg3 HPZ1
            go_wp2_with fail
            refine (tnum_any h aa bd nn cc a2 x2 W3 HPZ2.out.t HNB.out (HRW.out W3 HPZ2.out.bel) HBB.out HCB.out HLB.out ha2 hs3).mono ?_
            rintro e W4 ⟨rfl, ht4, hg4⟩
            have HPZ3 := Lib.hid (HPZ2.out.grown hg4 ht4)
            clear ht4 hg4 HPZ2 hs1 hs2 hs3 ha1 ha2 ha3
            have HP := Lib.hid (HPZ3.out.open y1 y2 y3)
            clear HPZ3
            have t2 := HP.out.t.cell 2 _ rfl
            have o2 := HP.out.o.cell 2 _ rfl
            by_cases hV : x3 = 0 ∧ y3 = 1
            · obtain ⟨hx3, hy3⟩ := hV
              subst hx3 hy3
              have HRUN : Hid (runB (bs.drop 4) 3 = (⟨y1, y2, 1, [], []⟩, a3, 0)) := by have h9 := HR3.out.1 rfl; show _ = _; rw [HBD.out]; first | exact h9 | rfl
              go_wp2_with fail
              generalize W4.alloc (.cells #[.int .i64 y1, .int .i64 y2, .int .i64 1, .slice none 0 0, .slice none 0 0] 40) = W5 at *
              generalize W4.heap.size = f at *
              obtain ⟨⟨ls, k, x⟩, hv⟩ : ∃ Z, Hv.tkV (bd.drop a3) = Z := ⟨_, rfl⟩
              have HPV := Lib.hid (page_vec (ls := ls) (k := k) (x := x) H4.out HQ.out HRUN.out (by rw [HBD.out]; exact hv))
              have HLL : Hid (ls.length ≤ 16) := by have := tkV_len (bd.drop a3); rw [hv] at this; exact this
              have HKB : Hid (x = 0 → a3 + k ≤ bd.length) := fun h0 => by
                have := (tkV_back (HBB.out.drop a3) (by rw [hv]; exact h0)).2.1
                rw [hv, List.length_drop] at this
                have := HA3.out
                simp only at *
                omega
              have HK0 : Hid (x ≠ 0 → k = 0) := fun h0 => by
                have h1 := hv
                unfold Hv.tkV at h1
                split at h1
                · simp only [Prod.mk.injEq] at h1; exact h1.2.1.symm
                · split at h1
                  · simp only [Prod.mk.injEq] at h1; exact absurd h1.2.2.symm h0
                  · simp only [Prod.mk.injEq] at h1; exact h1.2.1.symm
              have HKN : Hid (a3 + k ≤ 140737488355328) := by
                have h1 := HLB.out
                have h2 := HA3.out
                by_cases h0 : x = 0
                · have := HKB.out h0; show _ ≤ _; omega
                · have := HK0.out h0; show _ ≤ _; omega
              have hsl := fun W => slice_l W aa nn cc a3 (a3 : Int) rfl (by rw [HNB.out]; exact HA3.out)
              have C53 := Lib.hid (fun (W : World) (hS : W.cell? ⟨h, 0, none⟩ = some (.slice aa nn cc) ∧ W.cell? ⟨h, 1, none⟩ = some (.int .i64 (a3 : Int)) ∧ Hid (Below W5.heap.size W5 W)) => Hv.refTake_is (partA aa a3 cc) (bd.drop a3) (nn - a3) (cc - a3) W (by rw [List.length_drop, HNB.out]) ((HRW.out W (HP.out.bel.trans (hS.2.2.out.mono HP.out.bel.size))).rest a3 cc HCB.out) (HBB.out.drop a3) (by rw [List.length_drop]; have := HCB.out; omega) (by rw [List.length_drop]; have := HLB.out; omega) hv)
              have hS0 : W5.drew.cell? ⟨h, 0, none⟩ = some (.slice aa nn cc) ∧ W5.drew.cell? ⟨h, 1, none⟩ = some (.int .i64 (a3 : Int)) ∧ Hid (Below W5.heap.size W5 W5.drew) := ⟨HP.out.t.cell 0 _ rfl, HP.out.t.cell 1 _ rfl, (Below.refl _ W5).drew⟩
              clear hv t2 o2
              go_region_held3 (fun w' => w'.cell? ⟨h, 0, none⟩ = some (.slice aa nn cc) ∧ w'.cell? ⟨h, 1, none⟩ = some (.int .i64 (a3 : Int)) ∧ Hid (Below W5.heap.size W5 w')) (with_reducible assumption) (first
                | (go_at_call 53
                   (with_reducible refine (C53.out _ (by with_reducible assumption)).mono ?_)
                   rintro e w8 ⟨v8, rfl, ho8, hb8⟩
                   have hS8 := heldT_next (w0 := W5) (by with_reducible assumption) hb8
                   obtain ⟨a8, n8, c8, rfl, hn8, hr8, hc8⟩ := ho8.form'
                   have HO8 := Lib.hid (ho8.mono (show f + 1 ≤ W5.drew.heap.size from HP.out.o.lt))
                   have HP8 := Lib.hid (HP.out.drew.next hb8)
                   clear ho8 hb8 hn8 hr8 hc8))
              clear hS0 hS8 hsl C53
              have HP9 := Lib.hid (HP8.out.setH (.slice a8 n8 c8))
              have HPA := Lib.hid (HP9.out.setT ((a3 : Int) + (k : Int)) x)
              have HOA : Hid (OwnK .i64 3 (((w8.setCell ⟨f, 3, none⟩ (.slice a8 n8 c8)).setCell ⟨h, 1, none⟩ (.int .i64 ((a3 : Int) + (k : Int)))).setCell ⟨h, 2, none⟩ (.int .i64 x)) (f + 1) (.slice a8 n8 c8) ls) := ((HO8.out.far (Nat.lt_succ_self f) 3 _).far (by have := HP8.out.hb; omega) 1 _).far (by have := HP8.out.hb; omega) 2 _
              have p3 := HP8.out.o.cell 3 _ rfl
              have r3 := HP8.out.o.free 3 _ rfl
              have p1 := HP9.out.t.cell 1 _ rfl
              have p2 := HP9.out.t.cell 2 _ rfl
              have r1 := HP9.out.t.free 1 _ rfl
              have r2 := HP9.out.t.free 2 _ rfl
              have hkn : (a3 : Int) + (k : Int) ≤ 140737488355328 := by have := HKN.out; omega
              go_wp2_with fail
              generalize ((w8.setCell ⟨f, 3, none⟩ (.slice a8 n8 c8)).setCell ⟨h, 1, none⟩ (.int .i64 ((a3 : Int) + (k : Int)))).setCell ⟨h, 2, none⟩ (.int .i64 x) = WT at *
              clear p3 r3 p1 p2 r1 r2 HP8 HP9 HO8
              obtain ⟨a8', n8', c8', e8, hn8, hr8, hc8⟩ := HOA.out.form'
              cases e8
              have HRA := Lib.hid hr8
              have HN8 := Lib.hid hn8
              clear hn8 hr8 hc8
              by_cases hx0 : x = 0
              · subst hx0
                have HR4 := Lib.hid (HPV.out.2 rfl)
                have HPE0 := Lib.hid (page_end HB.out H4.out HQ.out HR4.out)
                by_cases hat : a3 + k = nn
                · have hatz : ((a3 : Int) + (k : Int) == (nn : Int)) = true := by simp; omega
                  have haty : ((a3 : Int) + (k : Int) != (nn : Int)) = false := by simp; omega
                  have hatx : (a3 : Int) + (k : Int) = (nn : Int) := by omega
                  cases hf : frB y1 y2 1 ls [] with
                  | true =>
                    -- MI
                    have HF := Lib.hid hf
                    have HE : Hid (prsF bs = (⟨y1, y2, 1, ls, []⟩, 0)) := HPE0.out.2.2 (by rw [HBD.out, ← HNB.out]; exact hat) hf
                    clear hf hat
                    have u0 := cell_regrown (HPA.out.t.cell 0 _ rfl)
                    have u1 := cell_regrown (HPA.out.t.cell 1 _ rfl)
                    have u2 := cell_regrown (HPA.out.t.cell 2 _ rfl)
                    have v0 := cell_regrown (HPA.out.o.cell 0 _ rfl)
                    have v1 := cell_regrown (HPA.out.o.cell 1 _ rfl)
                    have v2 := cell_regrown (HPA.out.o.cell 2 _ rfl)
                    have v3 := cell_regrown (HPA.out.o.cell 3 _ rfl)
                    have v4 := cell_regrown (HPA.out.o.cell 4 _ rfl)
                    have k14 : St.RegrownTo WT 14 #[.agg #[.int .i64 y1, .int .i64 y2, .int .i64 1, .slice a8 n8 c8, .slice none 0 0]] (.bool true) := regrown_at fun W hb => refFrame_is y1 y2 1 a8 ls n8 c8 none [] 0 0 W ⟨HRA.out.below hb (Nat.le_refl _), HN8.out, by have := HLL.out; omega, RowO.nil _ _, rfl, by simp⟩ true HF.out
                    refine wp_region_quiet_below (by assumption) (by kernel_rfl) ?_
                    repeat (go_big_quiet_step (first | (go_at_call 14; with_reducible exact k14 _ _)))
                    refine wpQuiet_nil ?_
                    intro _ hw'
                    obtain ⟨⟨dq, osq⟩, hw''⟩ := hw'
                    subst hw''
                    have HPE := Lib.hid (HPA.out.next (below_regrown WT dq osq))
                    have HRE := Lib.hid (HOA.out.below (below_regrown WT dq osq))
                    clear u0 u1 u2 v0 v1 v2 v3 v4 k14
                    generalize Go.Sort.grow (redrawn WT dq) osq = WE at *
                    have e0 := HPE.out.rz.cell 0 _ rfl
                    have f0 := HPE.out.rz.free 0 _ rfl
                    have e1 := HPE.out.rz.cell 1 _ rfl
                    have f1 := HPE.out.rz.free 1 _ rfl
                    have e2 := HPE.out.rz.cell 2 _ rfl
                    have f2 := HPE.out.rz.free 2 _ rfl
                    have e3 := HPE.out.rz.cell 3 _ rfl
                    have f3 := HPE.out.rz.free 3 _ rfl
                    have e4 := HPE.out.rz.cell 4 _ rfl
                    have f4 := HPE.out.rz.free 4 _ rfl
                    have x0 := HPE.out.o.cell 0 _ rfl
                    have x1 := HPE.out.o.cell 1 _ rfl
                    have x2 := HPE.out.o.cell 2 _ rfl
                    have x3 := HPE.out.o.cell 3 _ rfl
                    have x4 := HPE.out.o.cell 4 _ rfl
                    have hne : ¬ g = f := by have h1 := HPE.out.hh; have h2 := HPE.out.hb; omega
                    have hne' : ¬ f = g := by have h1 := HPE.out.hh; have h2 := HPE.out.hb; omega
                    go_wp2
                    have HZ := (((((HPE.out.rz.set 0 ((.int .i64 y1))).set 1 ((.int .i64 y2))).set 2 ((.int .i64 1))).set 3 ((.slice a8 n8 c8))).set 4 ((.slice none 0 0)))
                    have z0 := HZ.cell 0 _ rfl
                    have z1 := HZ.cell 1 _ rfl
                    have z2 := HZ.cell 2 _ rfl
                    have z3 := HZ.cell 3 _ rfl
                    have z4 := HZ.cell 4 _ rfl
                    clear HZ e0 f0 e1 f1 e2 f2 e3 f3 e4 f4
                    refine bodyPost_ret (v := .tuple #[.agg #[.int .i64 y1, .int .i64 y2, .int .i64 1, .slice a8 n8 c8, .slice none 0 0], .int .i64 0]) (by simp [results, Tryd.results26, go_sem, z0, z1, z2, z3, z4]) rfl ?_
                    have hgf : g < f + 1 := by have h1 := HPE.out.hh; have h2 := HPE.out.hb; omega
                    have hO := (((((HRE.out.far hgf 0 (.int .i64 y1)).far hgf 1 (.int .i64 y2)).far hgf 2 (.int .i64 1)).far hgf 3 (.slice a8 n8 c8)).far hgf 4 (.slice none 0 0))
                    obtain ⟨a7, n7, c7, e7, hn7, hr7, -⟩ := hO.form'
                    cases e7
                    exact refT_of HE.out ⟨_, _, _, _, _, _, rfl, ⟨hr7, hn7, by have := HLL.out; show ls.length ≤ _; omega, RowO.nil _ _, rfl, by simp⟩, (((((HPE.out.bel.setCell (p := ⟨g, 0, none⟩) (Nat.le_of_eq HG.out) _).setCell (p := ⟨g, 1, none⟩) (Nat.le_of_eq HG.out) _).setCell (p := ⟨g, 2, none⟩) (Nat.le_of_eq HG.out) _).setCell (p := ⟨g, 3, none⟩) (Nat.le_of_eq HG.out) _).setCell (p := ⟨g, 4, none⟩) (Nat.le_of_eq HG.out) _)⟩
                  | false =>
                    -- MJ
                    have HF := Lib.hid hf
                    have HE : Hid (prsF bs = (zF, 1)) := HPE0.out.2.1 hf
                    clear hf hat
                    have u0 := cell_regrown (HPA.out.t.cell 0 _ rfl)
                    have u1 := cell_regrown (HPA.out.t.cell 1 _ rfl)
                    have u2 := cell_regrown (HPA.out.t.cell 2 _ rfl)
                    have v0 := cell_regrown (HPA.out.o.cell 0 _ rfl)
                    have v1 := cell_regrown (HPA.out.o.cell 1 _ rfl)
                    have v2 := cell_regrown (HPA.out.o.cell 2 _ rfl)
                    have v3 := cell_regrown (HPA.out.o.cell 3 _ rfl)
                    have v4 := cell_regrown (HPA.out.o.cell 4 _ rfl)
                    have k14 : St.RegrownTo WT 14 #[.agg #[.int .i64 y1, .int .i64 y2, .int .i64 1, .slice a8 n8 c8, .slice none 0 0]] (.bool false) := regrown_at fun W hb => refFrame_is y1 y2 1 a8 ls n8 c8 none [] 0 0 W ⟨HRA.out.below hb (Nat.le_refl _), HN8.out, by have := HLL.out; omega, RowO.nil _ _, rfl, by simp⟩ false HF.out
                    refine wp_region_quiet_below (by assumption) (by kernel_rfl) ?_
                    repeat (go_big_quiet_step (first | (go_at_call 14; with_reducible exact k14 _ _)))
                    refine wpQuiet_nil ?_
                    intro _ hw'
                    obtain ⟨⟨dq, osq⟩, hw''⟩ := hw'
                    subst hw''
                    have HPE := Lib.hid (HPA.out.next (below_regrown WT dq osq))
                    clear u0 u1 u2 v0 v1 v2 v3 v4 k14
                    generalize Go.Sort.grow (redrawn WT dq) osq = WE at *
                    have e0 := HPE.out.rz.cell 0 _ rfl
                    have f0 := HPE.out.rz.free 0 _ rfl
                    have e1 := HPE.out.rz.cell 1 _ rfl
                    have f1 := HPE.out.rz.free 1 _ rfl
                    have e2 := HPE.out.rz.cell 2 _ rfl
                    have f2 := HPE.out.rz.free 2 _ rfl
                    have e3 := HPE.out.rz.cell 3 _ rfl
                    have f3 := HPE.out.rz.free 3 _ rfl
                    have e4 := HPE.out.rz.cell 4 _ rfl
                    have f4 := HPE.out.rz.free 4 _ rfl
                    have hb0 := fr_build0
                    go_wp2
                    have HZ := (((((HPE.out.rz.set 0 (.int .i64 0)).set 1 (.int .i64 0)).set 2 (.int .i64 0)).set 3 (.slice none 0 0)).set 4 (.slice none 0 0))
                    have z0 := HZ.cell 0 _ rfl
                    have z1 := HZ.cell 1 _ rfl
                    have z2 := HZ.cell 2 _ rfl
                    have z3 := HZ.cell 3 _ rfl
                    have z4 := HZ.cell 4 _ rfl
                    clear HZ e0 f0 e1 f1 e2 f2 e3 f3 e4 f4
                    refine bodyPost_ret (v := .tuple #[.agg #[.int .i64 0, .int .i64 0, .int .i64 0, .slice none 0 0, .slice none 0 0], .int .i64 1]) (by simp [results, Tryd.results26, go_sem, z0, z1, z2, z3, z4]) rfl ?_
                    exact refT_of HE.out (refT_zero (((((HPE.out.bel.setCell (p := ⟨g, 0, none⟩) (Nat.le_of_eq HG.out) _).setCell (p := ⟨g, 1, none⟩) (Nat.le_of_eq HG.out) _).setCell (p := ⟨g, 2, none⟩) (Nat.le_of_eq HG.out) _).setCell (p := ⟨g, 3, none⟩) (Nat.le_of_eq HG.out) _).setCell (p := ⟨g, 4, none⟩) (Nat.le_of_eq HG.out) _))
                · -- MK
                  have hatz : ((a3 : Int) + (k : Int) == (nn : Int)) = false := by simp; omega
                  have haty : ((a3 : Int) + (k : Int) != (nn : Int)) = true := by simp; omega
                  have HE : Hid (prsF bs = (zF, 1)) := HPE0.out.1 (by rw [HBD.out, ← HNB.out]; exact hat)
                  clear hat
                  have u0 := cell_regrown (HPA.out.t.cell 0 _ rfl)
                  have u1 := cell_regrown (HPA.out.t.cell 1 _ rfl)
                  have u2 := cell_regrown (HPA.out.t.cell 2 _ rfl)
                  have v0 := cell_regrown (HPA.out.o.cell 0 _ rfl)
                  have v1 := cell_regrown (HPA.out.o.cell 1 _ rfl)
                  have v2 := cell_regrown (HPA.out.o.cell 2 _ rfl)
                  have v3 := cell_regrown (HPA.out.o.cell 3 _ rfl)
                  have v4 := cell_regrown (HPA.out.o.cell 4 _ rfl)
                  refine wp_region_quiet_below (by assumption) (by kernel_rfl) ?_
                  repeat (go_big_quiet_step (fail))
                  refine wpQuiet_nil ?_
                  intro _ hw'
                  obtain ⟨⟨dq, osq⟩, hw''⟩ := hw'
                  subst hw''
                  have HPE := Lib.hid (HPA.out.next (below_regrown WT dq osq))
                  clear u0 u1 u2 v0 v1 v2 v3 v4 
                  generalize Go.Sort.grow (redrawn WT dq) osq = WE at *
                  have e0 := HPE.out.rz.cell 0 _ rfl
                  have f0 := HPE.out.rz.free 0 _ rfl
                  have e1 := HPE.out.rz.cell 1 _ rfl
                  have f1 := HPE.out.rz.free 1 _ rfl
                  have e2 := HPE.out.rz.cell 2 _ rfl
                  have f2 := HPE.out.rz.free 2 _ rfl
                  have e3 := HPE.out.rz.cell 3 _ rfl
                  have f3 := HPE.out.rz.free 3 _ rfl
                  have e4 := HPE.out.rz.cell 4 _ rfl
                  have f4 := HPE.out.rz.free 4 _ rfl
                  have hb0 := fr_build0
                  go_wp2
                  have HZ := (((((HPE.out.rz.set 0 (.int .i64 0)).set 1 (.int .i64 0)).set 2 (.int .i64 0)).set 3 (.slice none 0 0)).set 4 (.slice none 0 0))
                  have z0 := HZ.cell 0 _ rfl
                  have z1 := HZ.cell 1 _ rfl
                  have z2 := HZ.cell 2 _ rfl
                  have z3 := HZ.cell 3 _ rfl
                  have z4 := HZ.cell 4 _ rfl
                  clear HZ e0 f0 e1 f1 e2 f2 e3 f3 e4 f4
                  refine bodyPost_ret (v := .tuple #[.agg #[.int .i64 0, .int .i64 0, .int .i64 0, .slice none 0 0, .slice none 0 0], .int .i64 1]) (by simp [results, Tryd.results26, go_sem, z0, z1, z2, z3, z4]) rfl ?_
                  exact refT_of HE.out (refT_zero (((((HPE.out.bel.setCell (p := ⟨g, 0, none⟩) (Nat.le_of_eq HG.out) _).setCell (p := ⟨g, 1, none⟩) (Nat.le_of_eq HG.out) _).setCell (p := ⟨g, 2, none⟩) (Nat.le_of_eq HG.out) _).setCell (p := ⟨g, 3, none⟩) (Nat.le_of_eq HG.out) _).setCell (p := ⟨g, 4, none⟩) (Nat.le_of_eq HG.out) _))
              · -- ML
                have hxz : (x == 0) = false := by simpa using hx0
                have hxy : (x != 0) = true := by simpa using hx0
                have HE : Hid (prsF bs = (zF, 1)) := HPV.out.1 hx0
                clear hx0
                have u0 := cell_regrown (HPA.out.t.cell 0 _ rfl)
                have u1 := cell_regrown (HPA.out.t.cell 1 _ rfl)
                have u2 := cell_regrown (HPA.out.t.cell 2 _ rfl)
                have v0 := cell_regrown (HPA.out.o.cell 0 _ rfl)
                have v1 := cell_regrown (HPA.out.o.cell 1 _ rfl)
                have v2 := cell_regrown (HPA.out.o.cell 2 _ rfl)
                have v3 := cell_regrown (HPA.out.o.cell 3 _ rfl)
                have v4 := cell_regrown (HPA.out.o.cell 4 _ rfl)
                refine wp_region_quiet_below (by assumption) (by kernel_rfl) ?_
                repeat (go_big_quiet_step (fail))
                refine wpQuiet_nil ?_
                intro _ hw'
                obtain ⟨⟨dq, osq⟩, hw''⟩ := hw'
                subst hw''
                have HPE := Lib.hid (HPA.out.next (below_regrown WT dq osq))
                clear u0 u1 u2 v0 v1 v2 v3 v4 
                generalize Go.Sort.grow (redrawn WT dq) osq = WE at *
                have e0 := HPE.out.rz.cell 0 _ rfl
                have f0 := HPE.out.rz.free 0 _ rfl
                have e1 := HPE.out.rz.cell 1 _ rfl
                have f1 := HPE.out.rz.free 1 _ rfl
                have e2 := HPE.out.rz.cell 2 _ rfl
                have f2 := HPE.out.rz.free 2 _ rfl
                have e3 := HPE.out.rz.cell 3 _ rfl
                have f3 := HPE.out.rz.free 3 _ rfl
                have e4 := HPE.out.rz.cell 4 _ rfl
                have f4 := HPE.out.rz.free 4 _ rfl
                have hb0 := fr_build0
                go_wp2
                have HZ := (((((HPE.out.rz.set 0 (.int .i64 0)).set 1 (.int .i64 0)).set 2 (.int .i64 0)).set 3 (.slice none 0 0)).set 4 (.slice none 0 0))
                have z0 := HZ.cell 0 _ rfl
                have z1 := HZ.cell 1 _ rfl
                have z2 := HZ.cell 2 _ rfl
                have z3 := HZ.cell 3 _ rfl
                have z4 := HZ.cell 4 _ rfl
                clear HZ e0 f0 e1 f1 e2 f2 e3 f3 e4 f4
                refine bodyPost_ret (v := .tuple #[.agg #[.int .i64 0, .int .i64 0, .int .i64 0, .slice none 0 0, .slice none 0 0], .int .i64 1]) (by simp [results, Tryd.results26, go_sem, z0, z1, z2, z3, z4]) rfl ?_
                exact refT_of HE.out (refT_zero (((((HPE.out.bel.setCell (p := ⟨g, 0, none⟩) (Nat.le_of_eq HG.out) _).setCell (p := ⟨g, 1, none⟩) (Nat.le_of_eq HG.out) _).setCell (p := ⟨g, 2, none⟩) (Nat.le_of_eq HG.out) _).setCell (p := ⟨g, 3, none⟩) (Nat.le_of_eq HG.out) _).setCell (p := ⟨g, 4, none⟩) (Nat.le_of_eq HG.out) _))
            · by_cases hx3 : x3 = 0
              · have hy3 : y3 ≠ 1 := fun h => hV ⟨hx3, h⟩
                subst hx3
                have hyz : (y3 == 1) = false := by simpa using hy3
                have HY3 := Lib.hid hy3
                have HRUN : Hid (runB (bs.drop 4) 3 = (⟨y1, y2, y3, [], []⟩, a3, 0)) := by have h9 := HR3.out.1 rfl; show _ = _; rw [HBD.out]; first | exact h9 | rfl
                clear hV hy3
                go_wp2_with fail
                generalize W4.alloc (.cells #[.int .i64 y1, .int .i64 y2, .int .i64 y3, .slice none 0 0, .slice none 0 0] 40) = W5 at *
                generalize W4.heap.size = f at *
                clear t2 o2
                obtain ⟨⟨c, a4, x4⟩, hs4⟩ : ∃ Z, stepT bd a3 0 = Z := ⟨_, rfl⟩
                obtain ⟨ha4, hc0, hc1⟩ := stepT_le HBB.out HA3.out hs4
                obtain ⟨cn, rfl⟩ : ∃ m : Nat, c = m := ⟨c.toNat, by omega⟩
                refine (tnum_any h aa bd nn cc a3 0 W5 HP.out.t HNB.out (HRW.out W5 HP.out.bel) HBB.out HCB.out HLB.out HA3.out hs4).mono ?_
                rintro e W6 ⟨rfl, ht6, hg6⟩
                have HLI0 : Hid (LoopI w W6 g h f aa nn cc y1 y2 y3 bs bd a3 cn 0 a4 x4 (.slice none 0 0)) := by
                  rw [stepT_on] at hs4
                  simp only [Prod.mk.injEq] at hs4
                  obtain ⟨e1, e2, e3⟩ := hs4
                  refine ⟨HP.out.grown hg6 ht6, fun hx => ?_, fun hx => ?_, ha4, ⟨_, _, _, rfl⟩⟩
                  · refine page_opsE H4.out HQ.out HRUN.out HY3.out fun _ => ?_
                    rw [HBD.out]
                    unfold tkOps
                    rw [if_pos (by rw [e3]; exact hx)]
                    simp only
                    rw [e3]; exact hx
                  · refine ⟨(tkN (bd.drop a3)).2.1, [], (tkN (bd.drop a3)).2.1, [], ⟨?_, rfl, rfl⟩, e2.symm, OwnO.nil _ _, DepsO.nil _ _, Nat.zero_le _⟩
                    rw [← e1, ← hx, ← e3]
                clear ht6 hg6 hs4 HP
                go_wp2
                go_loopg [11] 9 (fun g1 v wr => ∃ (i at_ : Nat) (x : Int) (ov : Value), v = .int .i64 i ∧ i ≤ 9 ∧ 9 - i ≤ g1 ∧ Hid (LoopI w wr g h f aa nn cc y1 y2 y3 bs bd a3 cn i at_ x ov))
                case atStart => exact ⟨0, a4, x4, _, rfl, by omega, by omega, HLI0⟩
                case round =>
                  clear HLI0
                  obtain ⟨i, at_, x, ov, rfl, hi9, hg1, HI⟩ := hrel
                  obtain ⟨oa, on, oc, rfl⟩ : ∃ oa on oc, ov = .slice oa on oc := HI.out.sl
                  have t2 := HI.out.pq.t.cell 2 _ rfl
                  by_cases hx0 : x = 0
                  · subst hx0
                    obtain ⟨a0, os, kk, dl, hgo, hat, hown, hdep, hic⟩ := HI.out.good rfl
                    have HGO := Lib.hid hgo
                    have HAT := Lib.hid hat
                    have HOW := Lib.hid hown
                    have HDE := Lib.hid hdep
                    have HIC := Lib.hid hic
                    clear hgo hat hown hdep hic
                    by_cases hgo : i < cn ∧ i ≤ 8
                    · -- MN
                      have hcz : decide ((i : Int) < (cn : Int)) = true := decide_eq_true (by omega)
                      have hcy : (i : Int) < (cn : Int) := by omega
                      have h8z : decide ((i : Int) ≤ 8) = true := decide_eq_true (by omega)
                      have h8y : (i : Int) ≤ 8 := by omega
                      obtain ⟨⟨⟨t, r, ds, kd, nt, nr, pt, pr, s, p, v⟩, q, k', x'⟩, htk⟩ : ∃ Z, tkO (bd.drop at_) = Z := ⟨_, rfl⟩
                      have HTK := Lib.hid htk
                      have HDL : Hid (ds.length ≤ 65536) := by have := tkO_ds (HBB.out.drop at_); rw [htk] at this; show ds.length ≤ 65536; simp only at this; omega
                      have HLE : Hid (at_ + k' ≤ bd.length) := by have h1 := tkO_le (HBB.out.drop at_); rw [htk, List.length_drop] at h1; have h2 := HI.out.le; show _ ≤ _; simp only at h1; omega
                      have HIN : Hid (i < cn) := hgo.1
                      have HIL : Hid (i ≤ 8) := hgo.2
                      have hsl := fun W => slice_l W aa nn cc at_ (at_ : Int) rfl (by rw [HNB.out]; exact HI.out.le)
                      have C54 := Lib.hid (fun (W : World) (hS : W.cell? ⟨h, 0, none⟩ = some (.slice aa nn cc) ∧ W.cell? ⟨h, 1, none⟩ = some (.int .i64 (at_ : Int)) ∧ Hid (Below wr.heap.size wr W)) => refTakeOp_any (partA aa at_ cc) (bd.drop at_) (nn - at_) (cc - at_) W (by rw [List.length_drop, HNB.out]) ((HRW.out W (HI.out.pq.bel.trans (hS.2.2.out.mono HI.out.pq.bel.size))).rest at_ cc HCB.out) (HBB.out.drop at_) (by rw [List.length_drop]; have := HCB.out; omega) (by rw [List.length_drop]; have := HLB.out; omega))
                      rw [htk] at C54
                      unfold TakeO TakeOp at C54
                      simp only at C54
                      have hS0 : wr.drew.cell? ⟨h, 0, none⟩ = some (.slice aa nn cc) ∧ wr.drew.cell? ⟨h, 1, none⟩ = some (.int .i64 (at_ : Int)) ∧ Hid (Below wr.heap.size wr wr.drew) := ⟨HI.out.pq.t.cell 0 _ rfl, HI.out.pq.t.cell 1 _ rfl, (Below.refl _ wr).drew⟩
                      have hS1 : (wr.alloc (.cells #[.int .i64 0, .int .i64 0, .int .i64 0, .slice none 0 0, .int .i64 0, .int .i64 0, .int .i64 0, .int .i64 0, .int .i64 0, .string ⟨#[]⟩, .int .i64 0, .int .i64 0] 27)).drew.cell? ⟨h, 0, none⟩ = some (.slice aa nn cc) ∧ (wr.alloc (.cells #[.int .i64 0, .int .i64 0, .int .i64 0, .slice none 0 0, .int .i64 0, .int .i64 0, .int .i64 0, .int .i64 0, .int .i64 0, .string ⟨#[]⟩, .int .i64 0, .int .i64 0] 27)).drew.cell? ⟨h, 1, none⟩ = some (.int .i64 (at_ : Int)) ∧ Hid (Below wr.heap.size wr (wr.alloc (.cells #[.int .i64 0, .int .i64 0, .int .i64 0, .slice none 0 0, .int .i64 0, .int .i64 0, .int .i64 0, .int .i64 0, .int .i64 0, .string ⟨#[]⟩, .int .i64 0, .int .i64 0] 27)).drew) := heldT_next (w0 := wr) (w1 := wr) ⟨HI.out.pq.t.cell 0 _ rfl, HI.out.pq.t.cell 1 _ rfl, Lib.hid (Below.refl _ _)⟩ (box_bel wr _).drew
                      have hlh := HI.out.pq.t.lt
                      have hlf := HI.out.pq.o.lt
                      clear htk hgo
                      go_wp2_with fail
                      clear t2
                      go_region_held3 (fun w' => w'.cell? ⟨h, 0, none⟩ = some (.slice aa nn cc) ∧ w'.cell? ⟨h, 1, none⟩ = some (.int .i64 (at_ : Int)) ∧ Hid (Below wr.heap.size wr w')) (first | with_reducible assumption | with_reducible exact heldT_alloc (by with_reducible assumption) _ | with_reducible exact heldT_set12 (by with_reducible assumption) (by omega) (by omega) _ _ _ _ _ _ _ _ _ _ _ _) (first
                        | (go_at_call 54
                           (with_reducible refine (C54.out _ (by with_reducible assumption)).mono ?_)
                           rintro e w8 ⟨da, dn, dc, rfl, ho8, hb8⟩
                           have hS8 := heldT_next (w0 := wr) (by with_reducible assumption) hb8
                           have hsz8 := hS8.2.2.out.size
                           first
                             | (with_reducible have q8 := blkZ_after (W := wr) hb8
                                have HQ8 := Lib.hid q8
                                have HO8 : Hid (OwnK .i64 3 w8 (wr.heap.size + 1) (.slice da dn dc) ds) := ho8.mono (by show _ ≤ (wr.alloc _).heap.size; rw [World.size_alloc]; exact Nat.le_refl _)
                                have qc0 := q8.cell 0 _ rfl
                                have qf0 := q8.free 0 _ rfl
                                have qc1 := q8.cell 1 _ rfl
                                have qf1 := q8.free 1 _ rfl
                                have qc2 := q8.cell 2 _ rfl
                                have qf2 := q8.free 2 _ rfl
                                have qc3 := q8.cell 3 _ rfl
                                have qf3 := q8.free 3 _ rfl
                                have qc4 := q8.cell 4 _ rfl
                                have qf4 := q8.free 4 _ rfl
                                have qc5 := q8.cell 5 _ rfl
                                have qf5 := q8.free 5 _ rfl
                                have qc6 := q8.cell 6 _ rfl
                                have qf6 := q8.free 6 _ rfl
                                have qc7 := q8.cell 7 _ rfl
                                have qf7 := q8.free 7 _ rfl
                                have qc8 := q8.cell 8 _ rfl
                                have qf8 := q8.free 8 _ rfl
                                have qc9 := q8.cell 9 _ rfl
                                have qf9 := q8.free 9 _ rfl
                                have qc10 := q8.cell 10 _ rfl
                                have qf10 := q8.free 10 _ rfl
                                have qc11 := q8.cell 11 _ rfl
                                have qf11 := q8.free 11 _ rfl
                                clear q8)
                             | (have HO8 : Hid (OwnK .i64 3 w8 wr.heap.size (.slice da dn dc) ds) := ho8.mono (Nat.le_refl _))
                           clear ho8 hb8))
                      · -- MP
                        have HB9 : Hid (Below wr.heap.size wr (w8.alloc (.cells #[.int .i64 t, .int .i64 r, .int .i64 q, .slice da dn dc, .int .i64 kd, .int .i64 nt, .int .i64 nr, .int .i64 pt, .int .i64 pr, .string s, .int .i64 p, .int .i64 v] 27))) := hS8.2.2.out.trans ((box_bel w8 _).mono hsz8)
                        have HBK : Hid (Blk (w8.alloc (.cells #[.int .i64 t, .int .i64 r, .int .i64 q, .slice da dn dc, .int .i64 kd, .int .i64 nt, .int .i64 nr, .int .i64 pt, .int .i64 pr, .string s, .int .i64 p, .int .i64 v] 27)) w8.heap.size ((⟨t, r, ds, kd, nt, nr, pt, pr, s, p, v⟩ : OpR).cells q (.slice da dn dc))) := blkO_new w8 t r q (.slice da dn dc) kd nt nr pt pr s p v ds
                        have HOD : Hid (OwnK .i64 3 (w8.alloc (.cells #[.int .i64 t, .int .i64 r, .int .i64 q, .slice da dn dc, .int .i64 kd, .int .i64 nt, .int .i64 nr, .int .i64 pt, .int .i64 pr, .string s, .int .i64 p, .int .i64 v] 27)) (f + 1) (.slice da dn dc) ds) := (HO8.out.alloc _).mono hlf
                        have HNW : Hid (∀ gg, (Value.slice da dn dc).ownBlock = some gg → wr.heap.size ≤ gg) := fun gg hgg => (HO8.out.lt hgg).1
                        have HP9 := Lib.hid (HI.out.pq.next HB9.out)
                        generalize w8.alloc (.cells #[.int .i64 t, .int .i64 r, .int .i64 q, .slice da dn dc, .int .i64 kd, .int .i64 nt, .int .i64 nr, .int .i64 pt, .int .i64 pr, .string s, .int .i64 p, .int .i64 v] 27) = W9 at *
                        generalize w8.heap.size = b at *
                        clear hS0 hS1 hS8 hsl C54 HO8
                        have hkk : (at_ : Int) + (k' : Int) ≤ 140737488355328 := by have h1 := HLE.out; have h2 := HLB.out; omega
                        have o4 := HP9.out.o.cell 4 _ rfl
                        have b0 := HBK.out.cell 0 _ rfl
                        have b1 := HBK.out.cell 1 _ rfl
                        have b2 := HBK.out.cell 2 _ rfl
                        have b3 := HBK.out.cell 3 _ rfl
                        have b4 := HBK.out.cell 4 _ rfl
                        have b5 := HBK.out.cell 5 _ rfl
                        have b6 := HBK.out.cell 6 _ rfl
                        have b7 := HBK.out.cell 7 _ rfl
                        have b8 := HBK.out.cell 8 _ rfl
                        have b9 := HBK.out.cell 9 _ rfl
                        have b10 := HBK.out.cell 10 _ rfl
                        have b11 := HBK.out.cell 11 _ rfl
                        go_wp2_with (first
                          | (at_builtin
                             refine wpO_one rfl _ _ rfl (f + 1) W9 (.slice oa on oc) os dl t r q da ds dn dc kd nt nr pt pr s p v rfl (HOW.out.below HB9.out) _ rfl rfl (by have h1 := HGO.out.len; have h2 := HIL.out; omega) HP9.out.o.lt ?_
                             intro v6 w6 hp6
                             have HOX := Lib.hid (hp6.deps (HDE.out.below HB9.out))
                             have HOY := Lib.hid (hp6.row HOD.out)
                             have HOZ := Lib.hid hp6.own
                             have HPX := Lib.hid (HP9.out.grownO hp6.gr (fun k hk => by have := (hp6.old.lt hk).1; omega))
                             obtain ⟨a6, n6, c6, rfl, -, -, -⟩ := hp6.own.form
                             clear hp6
                             have HPY := Lib.hid (HPX.out.setO (.slice a6 n6 c6))
                             have x4 := HPX.out.o.cell 4 _ rfl
                             have f4 := HPX.out.o.free 4 _ rfl
                             have p1 := HPY.out.t.cell 1 _ rfl
                             have p2 := HPY.out.t.cell 2 _ rfl
                             have r1 := HPY.out.t.free 1 _ rfl
                             have r2 := HPY.out.t.free 2 _ rfl)
                          | fail)
                        have HPW := Lib.hid (HPY.out.setT ((at_ : Int) + (k' : Int)) x')
                        have hzz : ((at_ + k' : Nat) : Int) = (at_ : Int) + (k' : Int) := by omega
                        have HLI : Hid (LoopI w (((w6.setCell ⟨f, 4, none⟩ (.slice a6 n6 c6)).setCell ⟨h, 1, none⟩ (.int .i64 ((at_ : Int) + (k' : Int)))).setCell ⟨h, 2, none⟩ (.int .i64 x')) g h f aa nn cc y1 y2 y3 bs bd a3 cn (i + 1) (at_ + k') x' (.slice a6 n6 c6)) := by
                          have hdr : (bd.drop a3).drop kk = bd.drop at_ := by rw [List.drop_drop, HAT.out]
                          refine ⟨by rw [hzz]; exact HPW.out, fun hx => ?_, fun hx => ?_, HLE.out, ⟨_, _, _, rfl⟩⟩
                          · refine page_opsE H4.out HQ.out HRUN.out HY3.out fun _ => ?_
                            rw [HBD.out]
                            exact tkOps_stop HGO.out.num HGO.out.run (by rw [hdr]; exact HTK.out) hx HIN.out
                          · refine ⟨a0, os ++ [(⟨t, r, ds, kd, nt, nr, pt, pr, s, p, v⟩, q)], kk + k', dl ++ [.slice da dn dc], ⟨HGO.out.num, ?_, by rw [List.length_append, HGO.out.len]; rfl⟩, by rw [HAT.out, Nat.add_assoc], ?_, ?_, HIN.out⟩
                            · refine tkOs_next HGO.out.run ?_
                              rw [hdr, HTK.out, hx]
                            · exact ((HOZ.out.far (Nat.lt_succ_self f) 4 _).far (by have := HPY.out.hb; omega) 1 _).far (by have := HPY.out.hb; omega) 2 _
                            · have hD := DepsO.push HDE.out HOW.out.len HOX.out (x := (⟨t, r, ds, kd, nt, nr, pt, pr, s, p, v⟩, q)) HOY.out (by have := HDL.out; show ds.length ≤ _; omega) HNW.out
                              exact ((hD.far (Nat.lt_succ_self f) 4 _).far (by have := HPY.out.hb; omega) 1 _).far (by have := HPY.out.hb; omega) 2 _
                        go_wp2_with fail
                        go_roundg (9 - (i + 1))
                        case measure => omega
                        case rel => exact ⟨i + 1, at_ + k', x', _, by go_num, by omega, by omega, HLI⟩
                      · -- MQ
                        have HB9 : Hid (Below wr.heap.size wr ((((((((((((w8.setCell ⟨wr.heap.size, 0, none⟩ (.int .i64 t)).setCell ⟨wr.heap.size, 1, none⟩ (.int .i64 r)).setCell ⟨wr.heap.size, 2, none⟩ (.int .i64 q)).setCell ⟨wr.heap.size, 3, none⟩ (.slice da dn dc)).setCell ⟨wr.heap.size, 4, none⟩ (.int .i64 kd)).setCell ⟨wr.heap.size, 5, none⟩ (.int .i64 nt)).setCell ⟨wr.heap.size, 6, none⟩ (.int .i64 nr)).setCell ⟨wr.heap.size, 7, none⟩ (.int .i64 pt)).setCell ⟨wr.heap.size, 8, none⟩ (.int .i64 pr)).setCell ⟨wr.heap.size, 9, none⟩ (.string s)).setCell ⟨wr.heap.size, 10, none⟩ (.int .i64 p)).setCell ⟨wr.heap.size, 11, none⟩ (.int .i64 v))) := (heldT_set12 hS8 (b := wr.heap.size) (by omega) (Nat.le_refl _) _ _ _ _ _ _ _ _ _ _ _ _).2.2.out
                        have HBK : Hid (Blk ((((((((((((w8.setCell ⟨wr.heap.size, 0, none⟩ (.int .i64 t)).setCell ⟨wr.heap.size, 1, none⟩ (.int .i64 r)).setCell ⟨wr.heap.size, 2, none⟩ (.int .i64 q)).setCell ⟨wr.heap.size, 3, none⟩ (.slice da dn dc)).setCell ⟨wr.heap.size, 4, none⟩ (.int .i64 kd)).setCell ⟨wr.heap.size, 5, none⟩ (.int .i64 nt)).setCell ⟨wr.heap.size, 6, none⟩ (.int .i64 nr)).setCell ⟨wr.heap.size, 7, none⟩ (.int .i64 pt)).setCell ⟨wr.heap.size, 8, none⟩ (.int .i64 pr)).setCell ⟨wr.heap.size, 9, none⟩ (.string s)).setCell ⟨wr.heap.size, 10, none⟩ (.int .i64 p)).setCell ⟨wr.heap.size, 11, none⟩ (.int .i64 v)) wr.heap.size ((⟨t, r, ds, kd, nt, nr, pt, pr, s, p, v⟩ : OpR).cells q (.slice da dn dc))) := HQ8.out |>.set 0 (.int .i64 t) |>.set 1 (.int .i64 r) |>.set 2 (.int .i64 q) |>.set 3 (.slice da dn dc) |>.set 4 (.int .i64 kd) |>.set 5 (.int .i64 nt) |>.set 6 (.int .i64 nr) |>.set 7 (.int .i64 pt) |>.set 8 (.int .i64 pr) |>.set 9 (.string s) |>.set 10 (.int .i64 p) |>.set 11 (.int .i64 v)
                        have HOD : Hid (OwnK .i64 3 ((((((((((((w8.setCell ⟨wr.heap.size, 0, none⟩ (.int .i64 t)).setCell ⟨wr.heap.size, 1, none⟩ (.int .i64 r)).setCell ⟨wr.heap.size, 2, none⟩ (.int .i64 q)).setCell ⟨wr.heap.size, 3, none⟩ (.slice da dn dc)).setCell ⟨wr.heap.size, 4, none⟩ (.int .i64 kd)).setCell ⟨wr.heap.size, 5, none⟩ (.int .i64 nt)).setCell ⟨wr.heap.size, 6, none⟩ (.int .i64 nr)).setCell ⟨wr.heap.size, 7, none⟩ (.int .i64 pt)).setCell ⟨wr.heap.size, 8, none⟩ (.int .i64 pr)).setCell ⟨wr.heap.size, 9, none⟩ (.string s)).setCell ⟨wr.heap.size, 10, none⟩ (.int .i64 p)).setCell ⟨wr.heap.size, 11, none⟩ (.int .i64 v)) (f + 1) (.slice da dn dc) ds) := (((((((((((((HO8.out.far (Nat.lt_succ_self _) 0 _).far (Nat.lt_succ_self _) 1 _).far (Nat.lt_succ_self _) 2 _).far (Nat.lt_succ_self _) 3 _).far (Nat.lt_succ_self _) 4 _).far (Nat.lt_succ_self _) 5 _).far (Nat.lt_succ_self _) 6 _).far (Nat.lt_succ_self _) 7 _).far (Nat.lt_succ_self _) 8 _).far (Nat.lt_succ_self _) 9 _).far (Nat.lt_succ_self _) 10 _).far (Nat.lt_succ_self _) 11 _)).mono (by omega)
                        have HNW : Hid (∀ gg, (Value.slice da dn dc).ownBlock = some gg → wr.heap.size ≤ gg) := fun gg hgg => by have := (HO8.out.lt hgg).1; omega
                        have HP9 := Lib.hid (HI.out.pq.next HB9.out)
                        generalize ((((((((((((w8.setCell ⟨wr.heap.size, 0, none⟩ (.int .i64 t)).setCell ⟨wr.heap.size, 1, none⟩ (.int .i64 r)).setCell ⟨wr.heap.size, 2, none⟩ (.int .i64 q)).setCell ⟨wr.heap.size, 3, none⟩ (.slice da dn dc)).setCell ⟨wr.heap.size, 4, none⟩ (.int .i64 kd)).setCell ⟨wr.heap.size, 5, none⟩ (.int .i64 nt)).setCell ⟨wr.heap.size, 6, none⟩ (.int .i64 nr)).setCell ⟨wr.heap.size, 7, none⟩ (.int .i64 pt)).setCell ⟨wr.heap.size, 8, none⟩ (.int .i64 pr)).setCell ⟨wr.heap.size, 9, none⟩ (.string s)).setCell ⟨wr.heap.size, 10, none⟩ (.int .i64 p)).setCell ⟨wr.heap.size, 11, none⟩ (.int .i64 v)) = W9 at *
                        clear qc0 qf0 qc1 qf1 qc2 qf2 qc3 qf3 qc4 qf4 qc5 qf5 qc6 qf6 qc7 qf7 qc8 qf8 qc9 qf9 qc10 qf10 qc11 qf11 HQ8 HO8 hS0 hS1 hS8 hsl C54
                        have hkk : (at_ : Int) + (k' : Int) ≤ 140737488355328 := by have h1 := HLE.out; have h2 := HLB.out; omega
                        have o4 := HP9.out.o.cell 4 _ rfl
                        have b0 := HBK.out.cell 0 _ rfl
                        have b1 := HBK.out.cell 1 _ rfl
                        have b2 := HBK.out.cell 2 _ rfl
                        have b3 := HBK.out.cell 3 _ rfl
                        have b4 := HBK.out.cell 4 _ rfl
                        have b5 := HBK.out.cell 5 _ rfl
                        have b6 := HBK.out.cell 6 _ rfl
                        have b7 := HBK.out.cell 7 _ rfl
                        have b8 := HBK.out.cell 8 _ rfl
                        have b9 := HBK.out.cell 9 _ rfl
                        have b10 := HBK.out.cell 10 _ rfl
                        have b11 := HBK.out.cell 11 _ rfl
                        go_wp2_with (first
                          | (at_builtin
                             refine wpO_one rfl _ _ rfl (f + 1) W9 (.slice oa on oc) os dl t r q da ds dn dc kd nt nr pt pr s p v rfl (HOW.out.below HB9.out) _ rfl rfl (by have h1 := HGO.out.len; have h2 := HIL.out; omega) HP9.out.o.lt ?_
                             intro v6 w6 hp6
                             have HOX := Lib.hid (hp6.deps (HDE.out.below HB9.out))
                             have HOY := Lib.hid (hp6.row HOD.out)
                             have HOZ := Lib.hid hp6.own
                             have HPX := Lib.hid (HP9.out.grownO hp6.gr (fun k hk => by have := (hp6.old.lt hk).1; omega))
                             obtain ⟨a6, n6, c6, rfl, -, -, -⟩ := hp6.own.form
                             clear hp6
                             have HPY := Lib.hid (HPX.out.setO (.slice a6 n6 c6))
                             have x4 := HPX.out.o.cell 4 _ rfl
                             have f4 := HPX.out.o.free 4 _ rfl
                             have p1 := HPY.out.t.cell 1 _ rfl
                             have p2 := HPY.out.t.cell 2 _ rfl
                             have r1 := HPY.out.t.free 1 _ rfl
                             have r2 := HPY.out.t.free 2 _ rfl)
                          | fail)
                        have HPW := Lib.hid (HPY.out.setT ((at_ : Int) + (k' : Int)) x')
                        have hzz : ((at_ + k' : Nat) : Int) = (at_ : Int) + (k' : Int) := by omega
                        have HLI : Hid (LoopI w (((w6.setCell ⟨f, 4, none⟩ (.slice a6 n6 c6)).setCell ⟨h, 1, none⟩ (.int .i64 ((at_ : Int) + (k' : Int)))).setCell ⟨h, 2, none⟩ (.int .i64 x')) g h f aa nn cc y1 y2 y3 bs bd a3 cn (i + 1) (at_ + k') x' (.slice a6 n6 c6)) := by
                          have hdr : (bd.drop a3).drop kk = bd.drop at_ := by rw [List.drop_drop, HAT.out]
                          refine ⟨by rw [hzz]; exact HPW.out, fun hx => ?_, fun hx => ?_, HLE.out, ⟨_, _, _, rfl⟩⟩
                          · refine page_opsE H4.out HQ.out HRUN.out HY3.out fun _ => ?_
                            rw [HBD.out]
                            exact tkOps_stop HGO.out.num HGO.out.run (by rw [hdr]; exact HTK.out) hx HIN.out
                          · refine ⟨a0, os ++ [(⟨t, r, ds, kd, nt, nr, pt, pr, s, p, v⟩, q)], kk + k', dl ++ [.slice da dn dc], ⟨HGO.out.num, ?_, by rw [List.length_append, HGO.out.len]; rfl⟩, by rw [HAT.out, Nat.add_assoc], ?_, ?_, HIN.out⟩
                            · refine tkOs_next HGO.out.run ?_
                              rw [hdr, HTK.out, hx]
                            · exact ((HOZ.out.far (Nat.lt_succ_self f) 4 _).far (by have := HPY.out.hb; omega) 1 _).far (by have := HPY.out.hb; omega) 2 _
                            · have hD := DepsO.push HDE.out HOW.out.len HOX.out (x := (⟨t, r, ds, kd, nt, nr, pt, pr, s, p, v⟩, q)) HOY.out (by have := HDL.out; show ds.length ≤ _; omega) HNW.out
                              exact ((hD.far (Nat.lt_succ_self f) 4 _).far (by have := HPY.out.hb; omega) 1 _).far (by have := HPY.out.hb; omega) 2 _
                        go_wp2_with fail
                        go_roundg (9 - (i + 1))
                        case measure => omega
                        case rel => exact ⟨i + 1, at_ + k', x', _, by go_num, by omega, by omega, HLI⟩
                    · have HEND : Hid (i = cn ∨ 9 ≤ i) := by have := HIC.out; show _ ∨ _; omega
                      have HPO := Lib.hid (page_ops HB.out H4.out HQ.out HRUN.out HY3.out (HBD.out.symm ▸ HGO.out) HEND.out HIC.out)
                      have HPX : Hid (PQ w wr g h f aa nn cc (at_ : Int) 0 y1 y2 y3 (.slice none 0 0) (.slice oa on oc)) := HI.out.pq
                      obtain ⟨oa', on', oc', eo, hon, -, hro⟩ := HOW.out.row HDE.out.read
                      cases eo
                      have HRO := Lib.hid hro
                      have HON := Lib.hid hon
                      clear hro hon
                      by_cases hci : i < cn
                      · have hcz : decide ((i : Int) < (cn : Int)) = true := decide_eq_true (by omega)
                        have hcy : (i : Int) < (cn : Int) := by omega
                        have h8z : decide ((i : Int) ≤ 8) = false := decide_eq_false (by omega)
                        have h8y : ¬ (i : Int) ≤ 8 := by omega
                        go_wp2_with fail
                        clear t2
                        by_cases hat : at_ = nn
                        · have hatz : ((at_ : Int) == (nn : Int)) = true := by simp; omega
                          have haty : ((at_ : Int) != (nn : Int)) = false := by simp; omega
                          have hatx : (at_ : Int) = (nn : Int) := by omega
                          cases hf : frB y1 y2 y3 [] os with
                          | true =>
                            -- MR1
                            have HF := Lib.hid hf
                            have HB8 : Hid (os.length ≤ 8) := by
                              rcases fkB_parts (frB_parts hf).2.2.2 with ⟨e, _⟩ | ⟨e, hbt, _⟩
                              · exact absurd e HY3.out
                              · exact (batB_parts hbt).2.1
                            have HE : Hid (prsF bs = (⟨y1, y2, y3, [], os⟩, 0)) := HPO.out.2.2 (by rw [HBD.out, ← HNB.out, ← HAT.out]; exact hat) hf
                            clear hf hat
                            have u0 := cell_regrown (HPX.out.t.cell 0 _ rfl)
                            have u1 := cell_regrown (HPX.out.t.cell 1 _ rfl)
                            have u2 := cell_regrown (HPX.out.t.cell 2 _ rfl)
                            have v0 := cell_regrown (HPX.out.o.cell 0 _ rfl)
                            have v1 := cell_regrown (HPX.out.o.cell 1 _ rfl)
                            have v2 := cell_regrown (HPX.out.o.cell 2 _ rfl)
                            have v3 := cell_regrown (HPX.out.o.cell 3 _ rfl)
                            have v4 := cell_regrown (HPX.out.o.cell 4 _ rfl)
                            have k14 : St.RegrownTo wr 14 #[.agg #[.int .i64 y1, .int .i64 y2, .int .i64 y3, .slice none 0 0, .slice oa on oc]] (.bool true) := regrown_at fun W hb => refFrame_is y1 y2 y3 none [] 0 0 oa os on oc W ⟨RowK.nil _ _ _, rfl, by simp, HRO.out.below hb, HON.out, by have h1 := HGO.out.len; omega⟩ true HF.out
                            refine wp_region_quiet_below (by assumption) (by kernel_rfl) ?_
                            repeat (go_big_quiet_step (first | (go_at_call 14; with_reducible exact k14 _ _)))
                            refine wpQuiet_nil ?_
                            intro _ hw'
                            obtain ⟨⟨dq, osq⟩, hw''⟩ := hw'
                            subst hw''
                            have HPE := Lib.hid (HPX.out.next (below_regrown wr dq osq))
                            have HOWE := Lib.hid (HOW.out.below (below_regrown wr dq osq))
                            have HDEE := Lib.hid (HDE.out.below (below_regrown wr dq osq))
                            clear u0 u1 u2 v0 v1 v2 v3 v4 k14
                            generalize Go.Sort.grow (redrawn wr dq) osq = WE at *
                            have e0 := HPE.out.rz.cell 0 _ rfl
                            have f0 := HPE.out.rz.free 0 _ rfl
                            have e1 := HPE.out.rz.cell 1 _ rfl
                            have f1 := HPE.out.rz.free 1 _ rfl
                            have e2 := HPE.out.rz.cell 2 _ rfl
                            have f2 := HPE.out.rz.free 2 _ rfl
                            have e3 := HPE.out.rz.cell 3 _ rfl
                            have f3 := HPE.out.rz.free 3 _ rfl
                            have e4 := HPE.out.rz.cell 4 _ rfl
                            have f4 := HPE.out.rz.free 4 _ rfl
                            have x0 := HPE.out.o.cell 0 _ rfl
                            have x1 := HPE.out.o.cell 1 _ rfl
                            have x2 := HPE.out.o.cell 2 _ rfl
                            have x3 := HPE.out.o.cell 3 _ rfl
                            have x4 := HPE.out.o.cell 4 _ rfl
                            have hne : ¬ g = f := by have h1 := HPE.out.hh; have h2 := HPE.out.hb; omega
                            have hne' : ¬ f = g := by have h1 := HPE.out.hh; have h2 := HPE.out.hb; omega
                            go_wp2
                            have HZ := (((((HPE.out.rz.set 0 ((.int .i64 y1))).set 1 ((.int .i64 y2))).set 2 ((.int .i64 y3))).set 3 ((.slice none 0 0))).set 4 ((.slice oa on oc)))
                            have z0 := HZ.cell 0 _ rfl
                            have z1 := HZ.cell 1 _ rfl
                            have z2 := HZ.cell 2 _ rfl
                            have z3 := HZ.cell 3 _ rfl
                            have z4 := HZ.cell 4 _ rfl
                            clear HZ e0 f0 e1 f1 e2 f2 e3 f3 e4 f4
                            refine bodyPost_ret (v := .tuple #[.agg #[.int .i64 y1, .int .i64 y2, .int .i64 y3, .slice none 0 0, .slice oa on oc], .int .i64 0]) (by simp [results, Tryd.results26, go_sem, z0, z1, z2, z3, z4]) rfl ?_
                            have hgf : g < f + 1 := by have h1 := HPE.out.hh; have h2 := HPE.out.hb; omega
                            have hP := (((((HOWE.out.far hgf 0 (.int .i64 y1)).far hgf 1 (.int .i64 y2)).far hgf 2 (.int .i64 y3)).far hgf 3 (.slice none 0 0)).far hgf 4 (.slice oa on oc))
                            have hD := (((((HDEE.out.far hgf 0 (.int .i64 y1)).far hgf 1 (.int .i64 y2)).far hgf 2 (.int .i64 y3)).far hgf 3 (.slice none 0 0)).far hgf 4 (.slice oa on oc))
                            obtain ⟨a7, n7, c7, e7, hn7, -, hr7⟩ := hP.row hD.read
                            cases e7
                            exact refT_of HE.out ⟨_, _, _, _, _, _, rfl, ⟨RowK.nil _ _ _, rfl, by simp, hr7, hn7, by have := HB8.out; show os.length * 120 ≤ _; omega⟩, (((((HPE.out.bel.setCell (p := ⟨g, 0, none⟩) (Nat.le_of_eq HG.out) _).setCell (p := ⟨g, 1, none⟩) (Nat.le_of_eq HG.out) _).setCell (p := ⟨g, 2, none⟩) (Nat.le_of_eq HG.out) _).setCell (p := ⟨g, 3, none⟩) (Nat.le_of_eq HG.out) _).setCell (p := ⟨g, 4, none⟩) (Nat.le_of_eq HG.out) _)⟩
                          | false =>
                            -- MR2
                            have HF := Lib.hid hf
                            have HE : Hid (prsF bs = (zF, 1)) := HPO.out.2.1 hf
                            clear hf hat
                            have u0 := cell_regrown (HPX.out.t.cell 0 _ rfl)
                            have u1 := cell_regrown (HPX.out.t.cell 1 _ rfl)
                            have u2 := cell_regrown (HPX.out.t.cell 2 _ rfl)
                            have v0 := cell_regrown (HPX.out.o.cell 0 _ rfl)
                            have v1 := cell_regrown (HPX.out.o.cell 1 _ rfl)
                            have v2 := cell_regrown (HPX.out.o.cell 2 _ rfl)
                            have v3 := cell_regrown (HPX.out.o.cell 3 _ rfl)
                            have v4 := cell_regrown (HPX.out.o.cell 4 _ rfl)
                            have k14 : St.RegrownTo wr 14 #[.agg #[.int .i64 y1, .int .i64 y2, .int .i64 y3, .slice none 0 0, .slice oa on oc]] (.bool false) := regrown_at fun W hb => refFrame_is y1 y2 y3 none [] 0 0 oa os on oc W ⟨RowK.nil _ _ _, rfl, by simp, HRO.out.below hb, HON.out, by have h1 := HGO.out.len; omega⟩ false HF.out
                            refine wp_region_quiet_below (by assumption) (by kernel_rfl) ?_
                            repeat (go_big_quiet_step (first | (go_at_call 14; with_reducible exact k14 _ _)))
                            refine wpQuiet_nil ?_
                            intro _ hw'
                            obtain ⟨⟨dq, osq⟩, hw''⟩ := hw'
                            subst hw''
                            have HPE := Lib.hid (HPX.out.next (below_regrown wr dq osq))
                            clear u0 u1 u2 v0 v1 v2 v3 v4 k14
                            generalize Go.Sort.grow (redrawn wr dq) osq = WE at *
                            have e0 := HPE.out.rz.cell 0 _ rfl
                            have f0 := HPE.out.rz.free 0 _ rfl
                            have e1 := HPE.out.rz.cell 1 _ rfl
                            have f1 := HPE.out.rz.free 1 _ rfl
                            have e2 := HPE.out.rz.cell 2 _ rfl
                            have f2 := HPE.out.rz.free 2 _ rfl
                            have e3 := HPE.out.rz.cell 3 _ rfl
                            have f3 := HPE.out.rz.free 3 _ rfl
                            have e4 := HPE.out.rz.cell 4 _ rfl
                            have f4 := HPE.out.rz.free 4 _ rfl
                            have hb0 := fr_build0
                            go_wp2
                            have HZ := (((((HPE.out.rz.set 0 (.int .i64 0)).set 1 (.int .i64 0)).set 2 (.int .i64 0)).set 3 (.slice none 0 0)).set 4 (.slice none 0 0))
                            have z0 := HZ.cell 0 _ rfl
                            have z1 := HZ.cell 1 _ rfl
                            have z2 := HZ.cell 2 _ rfl
                            have z3 := HZ.cell 3 _ rfl
                            have z4 := HZ.cell 4 _ rfl
                            clear HZ e0 f0 e1 f1 e2 f2 e3 f3 e4 f4
                            refine bodyPost_ret (v := .tuple #[.agg #[.int .i64 0, .int .i64 0, .int .i64 0, .slice none 0 0, .slice none 0 0], .int .i64 1]) (by simp [results, Tryd.results26, go_sem, z0, z1, z2, z3, z4]) rfl ?_
                            exact refT_of HE.out (refT_zero (((((HPE.out.bel.setCell (p := ⟨g, 0, none⟩) (Nat.le_of_eq HG.out) _).setCell (p := ⟨g, 1, none⟩) (Nat.le_of_eq HG.out) _).setCell (p := ⟨g, 2, none⟩) (Nat.le_of_eq HG.out) _).setCell (p := ⟨g, 3, none⟩) (Nat.le_of_eq HG.out) _).setCell (p := ⟨g, 4, none⟩) (Nat.le_of_eq HG.out) _))
                        · -- MR3
                          have hatz : ((at_ : Int) == (nn : Int)) = false := by simp; omega
                          have haty : ((at_ : Int) != (nn : Int)) = true := by simp; omega
                          have HE : Hid (prsF bs = (zF, 1)) := HPO.out.1 (by rw [HBD.out, ← HNB.out, ← HAT.out]; exact hat)
                          clear hat
                          have u0 := cell_regrown (HPX.out.t.cell 0 _ rfl)
                          have u1 := cell_regrown (HPX.out.t.cell 1 _ rfl)
                          have u2 := cell_regrown (HPX.out.t.cell 2 _ rfl)
                          have v0 := cell_regrown (HPX.out.o.cell 0 _ rfl)
                          have v1 := cell_regrown (HPX.out.o.cell 1 _ rfl)
                          have v2 := cell_regrown (HPX.out.o.cell 2 _ rfl)
                          have v3 := cell_regrown (HPX.out.o.cell 3 _ rfl)
                          have v4 := cell_regrown (HPX.out.o.cell 4 _ rfl)
                          refine wp_region_quiet_below (by assumption) (by kernel_rfl) ?_
                          repeat (go_big_quiet_step (fail))
                          refine wpQuiet_nil ?_
                          intro _ hw'
                          obtain ⟨⟨dq, osq⟩, hw''⟩ := hw'
                          subst hw''
                          have HPE := Lib.hid (HPX.out.next (below_regrown wr dq osq))
                          clear u0 u1 u2 v0 v1 v2 v3 v4 
                          generalize Go.Sort.grow (redrawn wr dq) osq = WE at *
                          have e0 := HPE.out.rz.cell 0 _ rfl
                          have f0 := HPE.out.rz.free 0 _ rfl
                          have e1 := HPE.out.rz.cell 1 _ rfl
                          have f1 := HPE.out.rz.free 1 _ rfl
                          have e2 := HPE.out.rz.cell 2 _ rfl
                          have f2 := HPE.out.rz.free 2 _ rfl
                          have e3 := HPE.out.rz.cell 3 _ rfl
                          have f3 := HPE.out.rz.free 3 _ rfl
                          have e4 := HPE.out.rz.cell 4 _ rfl
                          have f4 := HPE.out.rz.free 4 _ rfl
                          have hb0 := fr_build0
                          go_wp2
                          have HZ := (((((HPE.out.rz.set 0 (.int .i64 0)).set 1 (.int .i64 0)).set 2 (.int .i64 0)).set 3 (.slice none 0 0)).set 4 (.slice none 0 0))
                          have z0 := HZ.cell 0 _ rfl
                          have z1 := HZ.cell 1 _ rfl
                          have z2 := HZ.cell 2 _ rfl
                          have z3 := HZ.cell 3 _ rfl
                          have z4 := HZ.cell 4 _ rfl
                          clear HZ e0 f0 e1 f1 e2 f2 e3 f3 e4 f4
                          refine bodyPost_ret (v := .tuple #[.agg #[.int .i64 0, .int .i64 0, .int .i64 0, .slice none 0 0, .slice none 0 0], .int .i64 1]) (by simp [results, Tryd.results26, go_sem, z0, z1, z2, z3, z4]) rfl ?_
                          exact refT_of HE.out (refT_zero (((((HPE.out.bel.setCell (p := ⟨g, 0, none⟩) (Nat.le_of_eq HG.out) _).setCell (p := ⟨g, 1, none⟩) (Nat.le_of_eq HG.out) _).setCell (p := ⟨g, 2, none⟩) (Nat.le_of_eq HG.out) _).setCell (p := ⟨g, 3, none⟩) (Nat.le_of_eq HG.out) _).setCell (p := ⟨g, 4, none⟩) (Nat.le_of_eq HG.out) _))
                      · have hcz : decide ((i : Int) < (cn : Int)) = false := decide_eq_false (by omega)
                        have hcy : ¬ (i : Int) < (cn : Int) := by omega
                        go_wp2_with fail
                        clear t2
                        by_cases hat : at_ = nn
                        · have hatz : ((at_ : Int) == (nn : Int)) = true := by simp; omega
                          have haty : ((at_ : Int) != (nn : Int)) = false := by simp; omega
                          have hatx : (at_ : Int) = (nn : Int) := by omega
                          cases hf : frB y1 y2 y3 [] os with
                          | true =>
                            -- MS1
                            have HF := Lib.hid hf
                            have HB8 : Hid (os.length ≤ 8) := by
                              rcases fkB_parts (frB_parts hf).2.2.2 with ⟨e, _⟩ | ⟨e, hbt, _⟩
                              · exact absurd e HY3.out
                              · exact (batB_parts hbt).2.1
                            have HE : Hid (prsF bs = (⟨y1, y2, y3, [], os⟩, 0)) := HPO.out.2.2 (by rw [HBD.out, ← HNB.out, ← HAT.out]; exact hat) hf
                            clear hf hat
                            have u0 := cell_regrown (HPX.out.t.cell 0 _ rfl)
                            have u1 := cell_regrown (HPX.out.t.cell 1 _ rfl)
                            have u2 := cell_regrown (HPX.out.t.cell 2 _ rfl)
                            have v0 := cell_regrown (HPX.out.o.cell 0 _ rfl)
                            have v1 := cell_regrown (HPX.out.o.cell 1 _ rfl)
                            have v2 := cell_regrown (HPX.out.o.cell 2 _ rfl)
                            have v3 := cell_regrown (HPX.out.o.cell 3 _ rfl)
                            have v4 := cell_regrown (HPX.out.o.cell 4 _ rfl)
                            have k14 : St.RegrownTo wr 14 #[.agg #[.int .i64 y1, .int .i64 y2, .int .i64 y3, .slice none 0 0, .slice oa on oc]] (.bool true) := regrown_at fun W hb => refFrame_is y1 y2 y3 none [] 0 0 oa os on oc W ⟨RowK.nil _ _ _, rfl, by simp, HRO.out.below hb, HON.out, by have h1 := HGO.out.len; omega⟩ true HF.out
                            refine wp_region_quiet_below (by assumption) (by kernel_rfl) ?_
                            repeat (go_big_quiet_step (first | (go_at_call 14; with_reducible exact k14 _ _)))
                            refine wpQuiet_nil ?_
                            intro _ hw'
                            obtain ⟨⟨dq, osq⟩, hw''⟩ := hw'
                            subst hw''
                            have HPE := Lib.hid (HPX.out.next (below_regrown wr dq osq))
                            have HOWE := Lib.hid (HOW.out.below (below_regrown wr dq osq))
                            have HDEE := Lib.hid (HDE.out.below (below_regrown wr dq osq))
                            clear u0 u1 u2 v0 v1 v2 v3 v4 k14
                            generalize Go.Sort.grow (redrawn wr dq) osq = WE at *
                            have e0 := HPE.out.rz.cell 0 _ rfl
                            have f0 := HPE.out.rz.free 0 _ rfl
                            have e1 := HPE.out.rz.cell 1 _ rfl
                            have f1 := HPE.out.rz.free 1 _ rfl
                            have e2 := HPE.out.rz.cell 2 _ rfl
                            have f2 := HPE.out.rz.free 2 _ rfl
                            have e3 := HPE.out.rz.cell 3 _ rfl
                            have f3 := HPE.out.rz.free 3 _ rfl
                            have e4 := HPE.out.rz.cell 4 _ rfl
                            have f4 := HPE.out.rz.free 4 _ rfl
                            have x0 := HPE.out.o.cell 0 _ rfl
                            have x1 := HPE.out.o.cell 1 _ rfl
                            have x2 := HPE.out.o.cell 2 _ rfl
                            have x3 := HPE.out.o.cell 3 _ rfl
                            have x4 := HPE.out.o.cell 4 _ rfl
                            have hne : ¬ g = f := by have h1 := HPE.out.hh; have h2 := HPE.out.hb; omega
                            have hne' : ¬ f = g := by have h1 := HPE.out.hh; have h2 := HPE.out.hb; omega
                            go_wp2
                            have HZ := (((((HPE.out.rz.set 0 ((.int .i64 y1))).set 1 ((.int .i64 y2))).set 2 ((.int .i64 y3))).set 3 ((.slice none 0 0))).set 4 ((.slice oa on oc)))
                            have z0 := HZ.cell 0 _ rfl
                            have z1 := HZ.cell 1 _ rfl
                            have z2 := HZ.cell 2 _ rfl
                            have z3 := HZ.cell 3 _ rfl
                            have z4 := HZ.cell 4 _ rfl
                            clear HZ e0 f0 e1 f1 e2 f2 e3 f3 e4 f4
                            refine bodyPost_ret (v := .tuple #[.agg #[.int .i64 y1, .int .i64 y2, .int .i64 y3, .slice none 0 0, .slice oa on oc], .int .i64 0]) (by simp [results, Tryd.results26, go_sem, z0, z1, z2, z3, z4]) rfl ?_
                            have hgf : g < f + 1 := by have h1 := HPE.out.hh; have h2 := HPE.out.hb; omega
                            have hP := (((((HOWE.out.far hgf 0 (.int .i64 y1)).far hgf 1 (.int .i64 y2)).far hgf 2 (.int .i64 y3)).far hgf 3 (.slice none 0 0)).far hgf 4 (.slice oa on oc))
                            have hD := (((((HDEE.out.far hgf 0 (.int .i64 y1)).far hgf 1 (.int .i64 y2)).far hgf 2 (.int .i64 y3)).far hgf 3 (.slice none 0 0)).far hgf 4 (.slice oa on oc))
                            obtain ⟨a7, n7, c7, e7, hn7, -, hr7⟩ := hP.row hD.read
                            cases e7
                            exact refT_of HE.out ⟨_, _, _, _, _, _, rfl, ⟨RowK.nil _ _ _, rfl, by simp, hr7, hn7, by have := HB8.out; show os.length * 120 ≤ _; omega⟩, (((((HPE.out.bel.setCell (p := ⟨g, 0, none⟩) (Nat.le_of_eq HG.out) _).setCell (p := ⟨g, 1, none⟩) (Nat.le_of_eq HG.out) _).setCell (p := ⟨g, 2, none⟩) (Nat.le_of_eq HG.out) _).setCell (p := ⟨g, 3, none⟩) (Nat.le_of_eq HG.out) _).setCell (p := ⟨g, 4, none⟩) (Nat.le_of_eq HG.out) _)⟩
                          | false =>
                            -- MS2
                            have HF := Lib.hid hf
                            have HE : Hid (prsF bs = (zF, 1)) := HPO.out.2.1 hf
                            clear hf hat
                            have u0 := cell_regrown (HPX.out.t.cell 0 _ rfl)
                            have u1 := cell_regrown (HPX.out.t.cell 1 _ rfl)
                            have u2 := cell_regrown (HPX.out.t.cell 2 _ rfl)
                            have v0 := cell_regrown (HPX.out.o.cell 0 _ rfl)
                            have v1 := cell_regrown (HPX.out.o.cell 1 _ rfl)
                            have v2 := cell_regrown (HPX.out.o.cell 2 _ rfl)
                            have v3 := cell_regrown (HPX.out.o.cell 3 _ rfl)
                            have v4 := cell_regrown (HPX.out.o.cell 4 _ rfl)
                            have k14 : St.RegrownTo wr 14 #[.agg #[.int .i64 y1, .int .i64 y2, .int .i64 y3, .slice none 0 0, .slice oa on oc]] (.bool false) := regrown_at fun W hb => refFrame_is y1 y2 y3 none [] 0 0 oa os on oc W ⟨RowK.nil _ _ _, rfl, by simp, HRO.out.below hb, HON.out, by have h1 := HGO.out.len; omega⟩ false HF.out
                            refine wp_region_quiet_below (by assumption) (by kernel_rfl) ?_
                            repeat (go_big_quiet_step (first | (go_at_call 14; with_reducible exact k14 _ _)))
                            refine wpQuiet_nil ?_
                            intro _ hw'
                            obtain ⟨⟨dq, osq⟩, hw''⟩ := hw'
                            subst hw''
                            have HPE := Lib.hid (HPX.out.next (below_regrown wr dq osq))
                            clear u0 u1 u2 v0 v1 v2 v3 v4 k14
                            generalize Go.Sort.grow (redrawn wr dq) osq = WE at *
                            have e0 := HPE.out.rz.cell 0 _ rfl
                            have f0 := HPE.out.rz.free 0 _ rfl
                            have e1 := HPE.out.rz.cell 1 _ rfl
                            have f1 := HPE.out.rz.free 1 _ rfl
                            have e2 := HPE.out.rz.cell 2 _ rfl
                            have f2 := HPE.out.rz.free 2 _ rfl
                            have e3 := HPE.out.rz.cell 3 _ rfl
                            have f3 := HPE.out.rz.free 3 _ rfl
                            have e4 := HPE.out.rz.cell 4 _ rfl
                            have f4 := HPE.out.rz.free 4 _ rfl
                            have hb0 := fr_build0
                            go_wp2
                            have HZ := (((((HPE.out.rz.set 0 (.int .i64 0)).set 1 (.int .i64 0)).set 2 (.int .i64 0)).set 3 (.slice none 0 0)).set 4 (.slice none 0 0))
                            have z0 := HZ.cell 0 _ rfl
                            have z1 := HZ.cell 1 _ rfl
                            have z2 := HZ.cell 2 _ rfl
                            have z3 := HZ.cell 3 _ rfl
                            have z4 := HZ.cell 4 _ rfl
                            clear HZ e0 f0 e1 f1 e2 f2 e3 f3 e4 f4
                            refine bodyPost_ret (v := .tuple #[.agg #[.int .i64 0, .int .i64 0, .int .i64 0, .slice none 0 0, .slice none 0 0], .int .i64 1]) (by simp [results, Tryd.results26, go_sem, z0, z1, z2, z3, z4]) rfl ?_
                            exact refT_of HE.out (refT_zero (((((HPE.out.bel.setCell (p := ⟨g, 0, none⟩) (Nat.le_of_eq HG.out) _).setCell (p := ⟨g, 1, none⟩) (Nat.le_of_eq HG.out) _).setCell (p := ⟨g, 2, none⟩) (Nat.le_of_eq HG.out) _).setCell (p := ⟨g, 3, none⟩) (Nat.le_of_eq HG.out) _).setCell (p := ⟨g, 4, none⟩) (Nat.le_of_eq HG.out) _))
                        · -- MS3
                          have hatz : ((at_ : Int) == (nn : Int)) = false := by simp; omega
                          have haty : ((at_ : Int) != (nn : Int)) = true := by simp; omega
                          have HE : Hid (prsF bs = (zF, 1)) := HPO.out.1 (by rw [HBD.out, ← HNB.out, ← HAT.out]; exact hat)
                          clear hat
                          have u0 := cell_regrown (HPX.out.t.cell 0 _ rfl)
                          have u1 := cell_regrown (HPX.out.t.cell 1 _ rfl)
                          have u2 := cell_regrown (HPX.out.t.cell 2 _ rfl)
                          have v0 := cell_regrown (HPX.out.o.cell 0 _ rfl)
                          have v1 := cell_regrown (HPX.out.o.cell 1 _ rfl)
                          have v2 := cell_regrown (HPX.out.o.cell 2 _ rfl)
                          have v3 := cell_regrown (HPX.out.o.cell 3 _ rfl)
                          have v4 := cell_regrown (HPX.out.o.cell 4 _ rfl)
                          refine wp_region_quiet_below (by assumption) (by kernel_rfl) ?_
                          repeat (go_big_quiet_step (fail))
                          refine wpQuiet_nil ?_
                          intro _ hw'
                          obtain ⟨⟨dq, osq⟩, hw''⟩ := hw'
                          subst hw''
                          have HPE := Lib.hid (HPX.out.next (below_regrown wr dq osq))
                          clear u0 u1 u2 v0 v1 v2 v3 v4 
                          generalize Go.Sort.grow (redrawn wr dq) osq = WE at *
                          have e0 := HPE.out.rz.cell 0 _ rfl
                          have f0 := HPE.out.rz.free 0 _ rfl
                          have e1 := HPE.out.rz.cell 1 _ rfl
                          have f1 := HPE.out.rz.free 1 _ rfl
                          have e2 := HPE.out.rz.cell 2 _ rfl
                          have f2 := HPE.out.rz.free 2 _ rfl
                          have e3 := HPE.out.rz.cell 3 _ rfl
                          have f3 := HPE.out.rz.free 3 _ rfl
                          have e4 := HPE.out.rz.cell 4 _ rfl
                          have f4 := HPE.out.rz.free 4 _ rfl
                          have hb0 := fr_build0
                          go_wp2
                          have HZ := (((((HPE.out.rz.set 0 (.int .i64 0)).set 1 (.int .i64 0)).set 2 (.int .i64 0)).set 3 (.slice none 0 0)).set 4 (.slice none 0 0))
                          have z0 := HZ.cell 0 _ rfl
                          have z1 := HZ.cell 1 _ rfl
                          have z2 := HZ.cell 2 _ rfl
                          have z3 := HZ.cell 3 _ rfl
                          have z4 := HZ.cell 4 _ rfl
                          clear HZ e0 f0 e1 f1 e2 f2 e3 f3 e4 f4
                          refine bodyPost_ret (v := .tuple #[.agg #[.int .i64 0, .int .i64 0, .int .i64 0, .slice none 0 0, .slice none 0 0], .int .i64 1]) (by simp [results, Tryd.results26, go_sem, z0, z1, z2, z3, z4]) rfl ?_
                          exact refT_of HE.out (refT_zero (((((HPE.out.bel.setCell (p := ⟨g, 0, none⟩) (Nat.le_of_eq HG.out) _).setCell (p := ⟨g, 1, none⟩) (Nat.le_of_eq HG.out) _).setCell (p := ⟨g, 2, none⟩) (Nat.le_of_eq HG.out) _).setCell (p := ⟨g, 3, none⟩) (Nat.le_of_eq HG.out) _).setCell (p := ⟨g, 4, none⟩) (Nat.le_of_eq HG.out) _))
                  · -- MO
                    have hxz : (x == 0) = false := by simpa using hx0
                    have hxy : (x != 0) = true := by simpa using hx0
                    have HE : Hid (prsF bs = (zF, 1)) := HI.out.bad hx0
                    have HPX : Hid (PQ w wr g h f aa nn cc (at_ : Int) x y1 y2 y3 (.slice none 0 0) (.slice oa on oc)) := HI.out.pq
                    clear hx0
                    by_cases hci : i < cn
                    · have hcz : decide ((i : Int) < (cn : Int)) = true := decide_eq_true (by omega)
                      have hcy : (i : Int) < (cn : Int) := by omega
                      by_cases h8 : i ≤ 8
                      · have h8z : decide ((i : Int) ≤ 8) = true := decide_eq_true (by omega)
                        have h8y : (i : Int) ≤ 8 := by omega
                        go_wp2_with fail
                        clear t2
                        have u0 := cell_regrown (HPX.out.t.cell 0 _ rfl)
                        have u1 := cell_regrown (HPX.out.t.cell 1 _ rfl)
                        have u2 := cell_regrown (HPX.out.t.cell 2 _ rfl)
                        have v0 := cell_regrown (HPX.out.o.cell 0 _ rfl)
                        have v1 := cell_regrown (HPX.out.o.cell 1 _ rfl)
                        have v2 := cell_regrown (HPX.out.o.cell 2 _ rfl)
                        have v3 := cell_regrown (HPX.out.o.cell 3 _ rfl)
                        have v4 := cell_regrown (HPX.out.o.cell 4 _ rfl)
                        refine wp_region_quiet_below (by assumption) (by kernel_rfl) ?_
                        repeat (go_big_quiet_step (fail))
                        refine wpQuiet_nil ?_
                        intro _ hw'
                        obtain ⟨⟨dq, osq⟩, hw''⟩ := hw'
                        subst hw''
                        have HPE := Lib.hid (HPX.out.next (below_regrown wr dq osq))
                        clear u0 u1 u2 v0 v1 v2 v3 v4 
                        generalize Go.Sort.grow (redrawn wr dq) osq = WE at *
                        have e0 := HPE.out.rz.cell 0 _ rfl
                        have f0 := HPE.out.rz.free 0 _ rfl
                        have e1 := HPE.out.rz.cell 1 _ rfl
                        have f1 := HPE.out.rz.free 1 _ rfl
                        have e2 := HPE.out.rz.cell 2 _ rfl
                        have f2 := HPE.out.rz.free 2 _ rfl
                        have e3 := HPE.out.rz.cell 3 _ rfl
                        have f3 := HPE.out.rz.free 3 _ rfl
                        have e4 := HPE.out.rz.cell 4 _ rfl
                        have f4 := HPE.out.rz.free 4 _ rfl
                        have hb0 := fr_build0
                        go_wp2
                        have HZ := (((((HPE.out.rz.set 0 (.int .i64 0)).set 1 (.int .i64 0)).set 2 (.int .i64 0)).set 3 (.slice none 0 0)).set 4 (.slice none 0 0))
                        have z0 := HZ.cell 0 _ rfl
                        have z1 := HZ.cell 1 _ rfl
                        have z2 := HZ.cell 2 _ rfl
                        have z3 := HZ.cell 3 _ rfl
                        have z4 := HZ.cell 4 _ rfl
                        clear HZ e0 f0 e1 f1 e2 f2 e3 f3 e4 f4
                        refine bodyPost_ret (v := .tuple #[.agg #[.int .i64 0, .int .i64 0, .int .i64 0, .slice none 0 0, .slice none 0 0], .int .i64 1]) (by simp [results, Tryd.results26, go_sem, z0, z1, z2, z3, z4]) rfl ?_
                        exact refT_of HE.out (refT_zero (((((HPE.out.bel.setCell (p := ⟨g, 0, none⟩) (Nat.le_of_eq HG.out) _).setCell (p := ⟨g, 1, none⟩) (Nat.le_of_eq HG.out) _).setCell (p := ⟨g, 2, none⟩) (Nat.le_of_eq HG.out) _).setCell (p := ⟨g, 3, none⟩) (Nat.le_of_eq HG.out) _).setCell (p := ⟨g, 4, none⟩) (Nat.le_of_eq HG.out) _))
                      · have h8z : decide ((i : Int) ≤ 8) = false := decide_eq_false (by omega)
                        have h8y : ¬ (i : Int) ≤ 8 := by omega
                        go_wp2_with fail
                        clear t2
                        have u0 := cell_regrown (HPX.out.t.cell 0 _ rfl)
                        have u1 := cell_regrown (HPX.out.t.cell 1 _ rfl)
                        have u2 := cell_regrown (HPX.out.t.cell 2 _ rfl)
                        have v0 := cell_regrown (HPX.out.o.cell 0 _ rfl)
                        have v1 := cell_regrown (HPX.out.o.cell 1 _ rfl)
                        have v2 := cell_regrown (HPX.out.o.cell 2 _ rfl)
                        have v3 := cell_regrown (HPX.out.o.cell 3 _ rfl)
                        have v4 := cell_regrown (HPX.out.o.cell 4 _ rfl)
                        refine wp_region_quiet_below (by assumption) (by kernel_rfl) ?_
                        repeat (go_big_quiet_step (fail))
                        refine wpQuiet_nil ?_
                        intro _ hw'
                        obtain ⟨⟨dq, osq⟩, hw''⟩ := hw'
                        subst hw''
                        have HPE := Lib.hid (HPX.out.next (below_regrown wr dq osq))
                        clear u0 u1 u2 v0 v1 v2 v3 v4 
                        generalize Go.Sort.grow (redrawn wr dq) osq = WE at *
                        have e0 := HPE.out.rz.cell 0 _ rfl
                        have f0 := HPE.out.rz.free 0 _ rfl
                        have e1 := HPE.out.rz.cell 1 _ rfl
                        have f1 := HPE.out.rz.free 1 _ rfl
                        have e2 := HPE.out.rz.cell 2 _ rfl
                        have f2 := HPE.out.rz.free 2 _ rfl
                        have e3 := HPE.out.rz.cell 3 _ rfl
                        have f3 := HPE.out.rz.free 3 _ rfl
                        have e4 := HPE.out.rz.cell 4 _ rfl
                        have f4 := HPE.out.rz.free 4 _ rfl
                        have hb0 := fr_build0
                        go_wp2
                        have HZ := (((((HPE.out.rz.set 0 (.int .i64 0)).set 1 (.int .i64 0)).set 2 (.int .i64 0)).set 3 (.slice none 0 0)).set 4 (.slice none 0 0))
                        have z0 := HZ.cell 0 _ rfl
                        have z1 := HZ.cell 1 _ rfl
                        have z2 := HZ.cell 2 _ rfl
                        have z3 := HZ.cell 3 _ rfl
                        have z4 := HZ.cell 4 _ rfl
                        clear HZ e0 f0 e1 f1 e2 f2 e3 f3 e4 f4
                        refine bodyPost_ret (v := .tuple #[.agg #[.int .i64 0, .int .i64 0, .int .i64 0, .slice none 0 0, .slice none 0 0], .int .i64 1]) (by simp [results, Tryd.results26, go_sem, z0, z1, z2, z3, z4]) rfl ?_
                        exact refT_of HE.out (refT_zero (((((HPE.out.bel.setCell (p := ⟨g, 0, none⟩) (Nat.le_of_eq HG.out) _).setCell (p := ⟨g, 1, none⟩) (Nat.le_of_eq HG.out) _).setCell (p := ⟨g, 2, none⟩) (Nat.le_of_eq HG.out) _).setCell (p := ⟨g, 3, none⟩) (Nat.le_of_eq HG.out) _).setCell (p := ⟨g, 4, none⟩) (Nat.le_of_eq HG.out) _))
                    · have hcz : decide ((i : Int) < (cn : Int)) = false := decide_eq_false (by omega)
                      have hcy : ¬ (i : Int) < (cn : Int) := by omega
                      go_wp2_with fail
                      clear t2
                      have u0 := cell_regrown (HPX.out.t.cell 0 _ rfl)
                      have u1 := cell_regrown (HPX.out.t.cell 1 _ rfl)
                      have u2 := cell_regrown (HPX.out.t.cell 2 _ rfl)
                      have v0 := cell_regrown (HPX.out.o.cell 0 _ rfl)
                      have v1 := cell_regrown (HPX.out.o.cell 1 _ rfl)
                      have v2 := cell_regrown (HPX.out.o.cell 2 _ rfl)
                      have v3 := cell_regrown (HPX.out.o.cell 3 _ rfl)
                      have v4 := cell_regrown (HPX.out.o.cell 4 _ rfl)
                      refine wp_region_quiet_below (by assumption) (by kernel_rfl) ?_
                      repeat (go_big_quiet_step (fail))
                      refine wpQuiet_nil ?_
                      intro _ hw'
                      obtain ⟨⟨dq, osq⟩, hw''⟩ := hw'
                      subst hw''
                      have HPE := Lib.hid (HPX.out.next (below_regrown wr dq osq))
                      clear u0 u1 u2 v0 v1 v2 v3 v4 
                      generalize Go.Sort.grow (redrawn wr dq) osq = WE at *
                      have e0 := HPE.out.rz.cell 0 _ rfl
                      have f0 := HPE.out.rz.free 0 _ rfl
                      have e1 := HPE.out.rz.cell 1 _ rfl
                      have f1 := HPE.out.rz.free 1 _ rfl
                      have e2 := HPE.out.rz.cell 2 _ rfl
                      have f2 := HPE.out.rz.free 2 _ rfl
                      have e3 := HPE.out.rz.cell 3 _ rfl
                      have f3 := HPE.out.rz.free 3 _ rfl
                      have e4 := HPE.out.rz.cell 4 _ rfl
                      have f4 := HPE.out.rz.free 4 _ rfl
                      have hb0 := fr_build0
                      go_wp2
                      have HZ := (((((HPE.out.rz.set 0 (.int .i64 0)).set 1 (.int .i64 0)).set 2 (.int .i64 0)).set 3 (.slice none 0 0)).set 4 (.slice none 0 0))
                      have z0 := HZ.cell 0 _ rfl
                      have z1 := HZ.cell 1 _ rfl
                      have z2 := HZ.cell 2 _ rfl
                      have z3 := HZ.cell 3 _ rfl
                      have z4 := HZ.cell 4 _ rfl
                      clear HZ e0 f0 e1 f1 e2 f2 e3 f3 e4 f4
                      refine bodyPost_ret (v := .tuple #[.agg #[.int .i64 0, .int .i64 0, .int .i64 0, .slice none 0 0, .slice none 0 0], .int .i64 1]) (by simp [results, Tryd.results26, go_sem, z0, z1, z2, z3, z4]) rfl ?_
                      exact refT_of HE.out (refT_zero (((((HPE.out.bel.setCell (p := ⟨g, 0, none⟩) (Nat.le_of_eq HG.out) _).setCell (p := ⟨g, 1, none⟩) (Nat.le_of_eq HG.out) _).setCell (p := ⟨g, 2, none⟩) (Nat.le_of_eq HG.out) _).setCell (p := ⟨g, 3, none⟩) (Nat.le_of_eq HG.out) _).setCell (p := ⟨g, 4, none⟩) (Nat.le_of_eq HG.out) _))
              · -- MG
                have hxz : (x3 == 0) = false := by simpa using hx3
                have hxy : (x3 != 0) = true := by simpa using hx3
                have HE : Hid (prsF bs = (zF, 1)) := prs_bad H4.out HQ.out (by rw [HBD.out]; exact HR3.out.2 hx3)
                have HX3 := Lib.hid hx3
                clear hV
                go_wp2_with fail
                generalize W4.alloc (.cells #[.int .i64 y1, .int .i64 y2, .int .i64 y3, .slice none 0 0, .slice none 0 0] 40) = W5 at *
                generalize W4.heap.size = f at *
                clear t2 o2
                refine (tnum_off h aa nn cc (a3 : Int) x3 W5 HP.out.t HX3.out).mono ?_
                rintro e W6 ⟨rfl, ht6, hg6⟩
                have HPX := Lib.hid (HP.out.grown hg6 ht6)
                clear ht6 hg6 HP hx3
                go_wp2
                refine wp_loop_rounds 1 ?_
                rw [rounds_succ]
                go_wp2_with fail
                have u0 := cell_regrown (HPX.out.t.cell 0 _ rfl)
                have u1 := cell_regrown (HPX.out.t.cell 1 _ rfl)
                have u2 := cell_regrown (HPX.out.t.cell 2 _ rfl)
                have v0 := cell_regrown (HPX.out.o.cell 0 _ rfl)
                have v1 := cell_regrown (HPX.out.o.cell 1 _ rfl)
                have v2 := cell_regrown (HPX.out.o.cell 2 _ rfl)
                have v3 := cell_regrown (HPX.out.o.cell 3 _ rfl)
                have v4 := cell_regrown (HPX.out.o.cell 4 _ rfl)
                refine wp_region_quiet_below (by assumption) (by kernel_rfl) ?_
                repeat (go_big_quiet_step (fail))
                refine wpQuiet_nil ?_
                intro _ hw'
                obtain ⟨⟨dq, osq⟩, hw''⟩ := hw'
                subst hw''
                have HPE := Lib.hid (HPX.out.next (below_regrown W6 dq osq))
                clear u0 u1 u2 v0 v1 v2 v3 v4 
                generalize Go.Sort.grow (redrawn W6 dq) osq = WE at *
                have e0 := HPE.out.rz.cell 0 _ rfl
                have f0 := HPE.out.rz.free 0 _ rfl
                have e1 := HPE.out.rz.cell 1 _ rfl
                have f1 := HPE.out.rz.free 1 _ rfl
                have e2 := HPE.out.rz.cell 2 _ rfl
                have f2 := HPE.out.rz.free 2 _ rfl
                have e3 := HPE.out.rz.cell 3 _ rfl
                have f3 := HPE.out.rz.free 3 _ rfl
                have e4 := HPE.out.rz.cell 4 _ rfl
                have f4 := HPE.out.rz.free 4 _ rfl
                have hb0 := fr_build0
                go_wp2
                have HZ := (((((HPE.out.rz.set 0 (.int .i64 0)).set 1 (.int .i64 0)).set 2 (.int .i64 0)).set 3 (.slice none 0 0)).set 4 (.slice none 0 0))
                have z0 := HZ.cell 0 _ rfl
                have z1 := HZ.cell 1 _ rfl
                have z2 := HZ.cell 2 _ rfl
                have z3 := HZ.cell 3 _ rfl
                have z4 := HZ.cell 4 _ rfl
                clear HZ e0 f0 e1 f1 e2 f2 e3 f3 e4 f4
                refine bodyPost_ret (v := .tuple #[.agg #[.int .i64 0, .int .i64 0, .int .i64 0, .slice none 0 0, .slice none 0 0], .int .i64 1]) (by simp [results, Tryd.results26, go_sem, z0, z1, z2, z3, z4]) rfl ?_
                exact refT_of HE.out (refT_zero (((((HPE.out.bel.setCell (p := ⟨g, 0, none⟩) (Nat.le_of_eq HG.out) _).setCell (p := ⟨g, 1, none⟩) (Nat.le_of_eq HG.out) _).setCell (p := ⟨g, 2, none⟩) (Nat.le_of_eq HG.out) _).setCell (p := ⟨g, 3, none⟩) (Nat.le_of_eq HG.out) _).setCell (p := ⟨g, 4, none⟩) (Nat.le_of_eq HG.out) _))
          · -- ME
            have m0y : (z0 != (S : Int) / 16777216 % 256) = false := by simpa using m0
            have m0z : (z0 == (S : Int) / 16777216 % 256) = true := by simpa using m0
            have m1y : (z1 != (S : Int) / 65536 % 256) = false := by simpa using m1
            have m1z : (z1 == (S : Int) / 65536 % 256) = true := by simpa using m1
            have m2y : (z2 != (S : Int) / 256 % 256) = false := by simpa using m2
            have m2z : (z2 == (S : Int) / 256 % 256) = true := by simpa using m2
            have m3z : (z3 == (S : Int) % 256) = false := by simpa using m3
            have m3y : (z3 != (S : Int) % 256) = true := by simpa using m3
            have HE : Hid (prsF bs = (zF, 8)) := prsF_8 H4.out (by rw [HBD.out, HSS.out, take4_ne (by have := H4.out; omega), HZ0.out, HZ1.out, HZ2.out, HZ3.out]; have := HSL.out; omega)
            clear m0 m1 m2 m3
            have e0 := HB0.out.cell 0 _ rfl
            have f0 := HB0.out.free 0 _ rfl
            have e1 := HB0.out.cell 1 _ rfl
            have f1 := HB0.out.free 1 _ rfl
            have e2 := HB0.out.cell 2 _ rfl
            have f2 := HB0.out.free 2 _ rfl
            have e3 := HB0.out.cell 3 _ rfl
            have f3 := HB0.out.free 3 _ rfl
            have e4 := HB0.out.cell 4 _ rfl
            have f4 := HB0.out.free 4 _ rfl
            have hb0 := fr_build0
            go_wp2
            have HZ := (((((HB0.out.set 0 (.int .i64 0)).set 1 (.int .i64 0)).set 2 (.int .i64 0)).set 3 (.slice none 0 0)).set 4 (.slice none 0 0))
            have z0 := HZ.cell 0 _ rfl
            have z1 := HZ.cell 1 _ rfl
            have z2 := HZ.cell 2 _ rfl
            have z3 := HZ.cell 3 _ rfl
            have z4 := HZ.cell 4 _ rfl
            clear HZ e0 f0 e1 f1 e2 f2 e3 f3 e4 f4
            refine bodyPost_ret (v := .tuple #[.agg #[.int .i64 0, .int .i64 0, .int .i64 0, .slice none 0 0, .slice none 0 0], .int .i64 8]) (by simp [results, Tryd.results26, go_sem, z0, z1, z2, z3, z4]) rfl ?_
            exact refT_of HE.out (refT_zero (((((HL0.out.setCell (p := ⟨g, 0, none⟩) (Nat.le_of_eq HG.out) _).setCell (p := ⟨g, 1, none⟩) (Nat.le_of_eq HG.out) _).setCell (p := ⟨g, 2, none⟩) (Nat.le_of_eq HG.out) _).setCell (p := ⟨g, 3, none⟩) (Nat.le_of_eq HG.out) _).setCell (p := ⟨g, 4, none⟩) (Nat.le_of_eq HG.out) _))
        · -- MD
          have m0y : (z0 != (S : Int) / 16777216 % 256) = false := by simpa using m0
          have m0z : (z0 == (S : Int) / 16777216 % 256) = true := by simpa using m0
          have m1y : (z1 != (S : Int) / 65536 % 256) = false := by simpa using m1
          have m1z : (z1 == (S : Int) / 65536 % 256) = true := by simpa using m1
          have m2z : (z2 == (S : Int) / 256 % 256) = false := by simpa using m2
          have m2y : (z2 != (S : Int) / 256 % 256) = true := by simpa using m2
          have HE : Hid (prsF bs = (zF, 8)) := prsF_8 H4.out (by rw [HBD.out, HSS.out, take4_ne (by have := H4.out; omega), HZ0.out, HZ1.out, HZ2.out, HZ3.out]; have := HSL.out; omega)
          clear m0 m1 m2
          have e0 := HB0.out.cell 0 _ rfl
          have f0 := HB0.out.free 0 _ rfl
          have e1 := HB0.out.cell 1 _ rfl
          have f1 := HB0.out.free 1 _ rfl
          have e2 := HB0.out.cell 2 _ rfl
          have f2 := HB0.out.free 2 _ rfl
          have e3 := HB0.out.cell 3 _ rfl
          have f3 := HB0.out.free 3 _ rfl
          have e4 := HB0.out.cell 4 _ rfl
          have f4 := HB0.out.free 4 _ rfl
          have hb0 := fr_build0
          go_wp2
          have HZ := (((((HB0.out.set 0 (.int .i64 0)).set 1 (.int .i64 0)).set 2 (.int .i64 0)).set 3 (.slice none 0 0)).set 4 (.slice none 0 0))
          have z0 := HZ.cell 0 _ rfl
          have z1 := HZ.cell 1 _ rfl
          have z2 := HZ.cell 2 _ rfl
          have z3 := HZ.cell 3 _ rfl
          have z4 := HZ.cell 4 _ rfl
          clear HZ e0 f0 e1 f1 e2 f2 e3 f3 e4 f4
          refine bodyPost_ret (v := .tuple #[.agg #[.int .i64 0, .int .i64 0, .int .i64 0, .slice none 0 0, .slice none 0 0], .int .i64 8]) (by simp [results, Tryd.results26, go_sem, z0, z1, z2, z3, z4]) rfl ?_
          exact refT_of HE.out (refT_zero (((((HL0.out.setCell (p := ⟨g, 0, none⟩) (Nat.le_of_eq HG.out) _).setCell (p := ⟨g, 1, none⟩) (Nat.le_of_eq HG.out) _).setCell (p := ⟨g, 2, none⟩) (Nat.le_of_eq HG.out) _).setCell (p := ⟨g, 3, none⟩) (Nat.le_of_eq HG.out) _).setCell (p := ⟨g, 4, none⟩) (Nat.le_of_eq HG.out) _))
      · -- MC
        have m0y : (z0 != (S : Int) / 16777216 % 256) = false := by simpa using m0
        have m0z : (z0 == (S : Int) / 16777216 % 256) = true := by simpa using m0
        have m1z : (z1 == (S : Int) / 65536 % 256) = false := by simpa using m1
        have m1y : (z1 != (S : Int) / 65536 % 256) = true := by simpa using m1
        have HE : Hid (prsF bs = (zF, 8)) := prsF_8 H4.out (by rw [HBD.out, HSS.out, take4_ne (by have := H4.out; omega), HZ0.out, HZ1.out, HZ2.out, HZ3.out]; have := HSL.out; omega)
        clear m0 m1
        have e0 := HB0.out.cell 0 _ rfl
        have f0 := HB0.out.free 0 _ rfl
        have e1 := HB0.out.cell 1 _ rfl
        have f1 := HB0.out.free 1 _ rfl
        have e2 := HB0.out.cell 2 _ rfl
        have f2 := HB0.out.free 2 _ rfl
        have e3 := HB0.out.cell 3 _ rfl
        have f3 := HB0.out.free 3 _ rfl
        have e4 := HB0.out.cell 4 _ rfl
        have f4 := HB0.out.free 4 _ rfl
        have hb0 := fr_build0
        go_wp2
        have HZ := (((((HB0.out.set 0 (.int .i64 0)).set 1 (.int .i64 0)).set 2 (.int .i64 0)).set 3 (.slice none 0 0)).set 4 (.slice none 0 0))
        have z0 := HZ.cell 0 _ rfl
        have z1 := HZ.cell 1 _ rfl
        have z2 := HZ.cell 2 _ rfl
        have z3 := HZ.cell 3 _ rfl
        have z4 := HZ.cell 4 _ rfl
        clear HZ e0 f0 e1 f1 e2 f2 e3 f3 e4 f4
        refine bodyPost_ret (v := .tuple #[.agg #[.int .i64 0, .int .i64 0, .int .i64 0, .slice none 0 0, .slice none 0 0], .int .i64 8]) (by simp [results, Tryd.results26, go_sem, z0, z1, z2, z3, z4]) rfl ?_
        exact refT_of HE.out (refT_zero (((((HL0.out.setCell (p := ⟨g, 0, none⟩) (Nat.le_of_eq HG.out) _).setCell (p := ⟨g, 1, none⟩) (Nat.le_of_eq HG.out) _).setCell (p := ⟨g, 2, none⟩) (Nat.le_of_eq HG.out) _).setCell (p := ⟨g, 3, none⟩) (Nat.le_of_eq HG.out) _).setCell (p := ⟨g, 4, none⟩) (Nat.le_of_eq HG.out) _))
    · -- MB
      have m0z : (z0 == (S : Int) / 16777216 % 256) = false := by simpa using m0
      have m0y : (z0 != (S : Int) / 16777216 % 256) = true := by simpa using m0
      have HE : Hid (prsF bs = (zF, 8)) := prsF_8 H4.out (by rw [HBD.out, HSS.out, take4_ne (by have := H4.out; omega), HZ0.out, HZ1.out, HZ2.out, HZ3.out]; have := HSL.out; omega)
      clear m0
      have e0 := HB0.out.cell 0 _ rfl
      have f0 := HB0.out.free 0 _ rfl
      have e1 := HB0.out.cell 1 _ rfl
      have f1 := HB0.out.free 1 _ rfl
      have e2 := HB0.out.cell 2 _ rfl
      have f2 := HB0.out.free 2 _ rfl
      have e3 := HB0.out.cell 3 _ rfl
      have f3 := HB0.out.free 3 _ rfl
      have e4 := HB0.out.cell 4 _ rfl
      have f4 := HB0.out.free 4 _ rfl
      have hb0 := fr_build0
      go_wp2
      have HZ := (((((HB0.out.set 0 (.int .i64 0)).set 1 (.int .i64 0)).set 2 (.int .i64 0)).set 3 (.slice none 0 0)).set 4 (.slice none 0 0))
      have z0 := HZ.cell 0 _ rfl
      have z1 := HZ.cell 1 _ rfl
      have z2 := HZ.cell 2 _ rfl
      have z3 := HZ.cell 3 _ rfl
      have z4 := HZ.cell 4 _ rfl
      clear HZ e0 f0 e1 f1 e2 f2 e3 f3 e4 f4
      refine bodyPost_ret (v := .tuple #[.agg #[.int .i64 0, .int .i64 0, .int .i64 0, .slice none 0 0, .slice none 0 0], .int .i64 8]) (by simp [results, Tryd.results26, go_sem, z0, z1, z2, z3, z4]) rfl ?_
      exact refT_of HE.out (refT_zero (((((HL0.out.setCell (p := ⟨g, 0, none⟩) (Nat.le_of_eq HG.out) _).setCell (p := ⟨g, 1, none⟩) (Nat.le_of_eq HG.out) _).setCell (p := ⟨g, 2, none⟩) (Nat.le_of_eq HG.out) _).setCell (p := ⟨g, 3, none⟩) (Nat.le_of_eq HG.out) _).setCell (p := ⟨g, 4, none⟩) (Nat.le_of_eq HG.out) _))
end Go.Proofs.YtfhppfbmnnkikaaDoor
