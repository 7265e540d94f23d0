/- OpWrongs: two operations copied in one statement, in whatever order. -/
import Derived.Test.YtabbbpmhmlapgaaDoorO18
import Derived.Test.YtabbbpmhmlapgaaDoorR1
namespace Go.Proofs.YtabbbpmhmlapgaaDoor
open Go.RowKit Go.Lib
set_option linter.unusedVariables false

/-- the region of that number -/
def regionOf (n : Nat) : Code → Option Code
  | .region i ops b => if i = n then some (.region i ops b) else none
  | .loop c => regionOf n c
  | .seq a b => match regionOf n a with
    | some c => some c
    | none => regionOf n b
  | .block _ c => regionOf n c
  | .scope c => regionOf n c
  | .cond _ a b => match regionOf n a with
    | some c => some c
    | none => regionOf n b
  | _ => none
noncomputable def reg8 : Code := (Tryd.f3.body.bind (regionOf 8)).getD .skip

/-- a block's type -/
def Ty (w : World) (g : Nat) (ty : TypeId) : Prop := ∃ cs, w.heap[g]? = some (.cells cs ty (0, 0))
theorem Ty.lt {w : World} {g : Nat} {ty : TypeId} (h : Ty w g ty) : g < w.heap.size := by
  obtain ⟨cs, h⟩ := h
  exact (Array.getElem?_eq_some_iff.1 h).1
theorem Ty.next {w w' : World} {g : Nat} {ty : TypeId} (h : Ty w g ty) (hb : Below w.heap.size w w') : Ty w' g ty := by
  obtain ⟨cs, h'⟩ := h
  exact ⟨cs, (hb.block g (Ty.lt ⟨cs, h'⟩)).trans h'⟩
theorem Ty.new (w : World) (cs : Array Value) (ty : TypeId) : Ty (w.alloc (.cells cs ty)) w.heap.size ty := ⟨cs, (Array.getElem?_push_size : (w.heap.push (.cells cs ty))[w.heap.size]? = _)⟩
theorem Ty.set {w : World} {g : Nat} {ty : TypeId} (h : Ty w g ty) (b i : Nat) (u : Value) : Ty (w.setCell ⟨b, i, none⟩ u) g ty := by
  obtain ⟨cs, h'⟩ := h
  by_cases e : b = g
  · subst e
    exact ⟨_, by simp only [World.setCell, Array.getElem?_modify, h', if_true, Option.map_some]; rfl⟩
  · exact ⟨cs, by simp only [World.setCell, Array.getElem?_modify, if_neg e, h']⟩
theorem Ty.apart {w : World} {g base : Nat} {d : Value} {zs : List Int} (h : Ty w g 27) (k : OwnK .i64 3 w base d zs) : d.ownBlock = none ∨ d.ownBlock ≠ some g := by
  rcases k.2 with ⟨rfl, _⟩ | ⟨g', cap, cur, rfl, _, hh, _⟩
  · exact .inl rfl
  · right
    intro e
    simp only [Value.ownBlock, Option.some.injEq] at e
    subst e
    obtain ⟨cs, h'⟩ := h
    rw [hh] at h'
    injection h' with h'
    injection h' with _ h2
    exact absurd h2 (by decide)

/-- the world with twelve cells written -/
def set12 (w : World) (g : Nat) (u0 u1 u2 u3 u4 u5 u6 u7 u8 u9 u10 u11 : Value) : World := ((((((((((((w.setCell ⟨g, 0, none⟩ (u0)).setCell ⟨g, 1, none⟩ (u1)).setCell ⟨g, 2, none⟩ (u2)).setCell ⟨g, 3, none⟩ (u3)).setCell ⟨g, 4, none⟩ (u4)).setCell ⟨g, 5, none⟩ (u5)).setCell ⟨g, 6, none⟩ (u6)).setCell ⟨g, 7, none⟩ (u7)).setCell ⟨g, 8, none⟩ (u8)).setCell ⟨g, 9, none⟩ (u9)).setCell ⟨g, 10, none⟩ (u10)).setCell ⟨g, 11, none⟩ (u11))
theorem grown_set {w w' : World} {g : Nat} (h : w.grownBy w' (some g)) (i : Nat) (u : Value) : w.grownBy (w'.setCell ⟨g, i, none⟩ u) (some g) := h.trans (grown_setCell w' ⟨g, i, none⟩ u)
theorem set12_grown (w : World) (g : Nat) (u0 u1 u2 u3 u4 u5 u6 u7 u8 u9 u10 u11 : Value) : w.grownBy (set12 w g u0 u1 u2 u3 u4 u5 u6 u7 u8 u9 u10 u11) (some g) := by
  unfold set12
  exact (grown_set (grown_set (grown_set (grown_set (grown_set (grown_set (grown_set (grown_set (grown_set (grown_set (grown_set (grown_set (World.grownBy.refl w _) 0 u0) 1 u1) 2 u2) 3 u3) 4 u4) 5 u5) 6 u6) 7 u7) 8 u8) 9 u9) 10 u10) 11 u11)
theorem set12_ty {w : World} {b : Nat} {ty : TypeId} (h : Ty w b ty) (g : Nat) (u0 u1 u2 u3 u4 u5 u6 u7 u8 u9 u10 u11 : Value) : Ty (set12 w g u0 u1 u2 u3 u4 u5 u6 u7 u8 u9 u10 u11) b ty := h |>.set _ _ _ |>.set _ _ _ |>.set _ _ _ |>.set _ _ _ |>.set _ _ _ |>.set _ _ _ |>.set _ _ _ |>.set _ _ _ |>.set _ _ _ |>.set _ _ _ |>.set _ _ _ |>.set _ _ _
theorem set12_blk {w : World} {g : Nat} {x0 x1 x2 x3 x4 x5 x6 x7 x8 x9 x10 x11 : Value} (h : Blk w g [x0, x1, x2, x3, x4, x5, x6, x7, x8, x9, x10, x11]) (u0 u1 u2 u3 u4 u5 u6 u7 u8 u9 u10 u11 : Value) : Blk (set12 w g u0 u1 u2 u3 u4 u5 u6 u7 u8 u9 u10 u11) g [u0, u1, u2, u3, u4, u5, u6, u7, u8, u9, u10, u11] := h |>.set 0 _ |>.set 1 _ |>.set 2 _ |>.set 3 _ |>.set 4 _ |>.set 5 _ |>.set 6 _ |>.set 7 _ |>.set 8 _ |>.set 9 _ |>.set 10 _ |>.set 11 _
theorem set12_other {w : World} {g b : Nat} {vs : List Value} (h : Blk w b vs) (hne : g ≠ b) (u0 u1 u2 u3 u4 u5 u6 u7 u8 u9 u10 u11 : Value) : Blk (set12 w g u0 u1 u2 u3 u4 u5 u6 u7 u8 u9 u10 u11) b vs := h |>.other hne _ _ |>.other hne _ _ |>.other hne _ _ |>.other hne _ _ |>.other hne _ _ |>.other hne _ _ |>.other hne _ _ |>.other hne _ _ |>.other hne _ _ |>.other hne _ _ |>.other hne _ _ |>.other hne _ _

/-- the operation that moves, the one that sets a property, with that row -/
def AM (d : Value) : Value := .agg #[.int .i64 1, .int .i64 0, .int .i64 1, d, .int .i64 1, .int .i64 1, .int .i64 0, .int .i64 0, .int .i64 0, .string ⟨#[107]⟩, .int .i64 0, .int .i64 0]
def AS (d : Value) : Value := .agg #[.int .i64 3, .int .i64 1, .int .i64 3, d, .int .i64 2, .int .i64 2, .int .i64 0, .int .i64 0, .int .i64 0, .string ⟨#[]⟩, .int .i64 3, .int .i64 (-1)]
def LM (d : Value) : List Value := [.int .i64 1, .int .i64 0, .int .i64 1, d, .int .i64 1, .int .i64 1, .int .i64 0, .int .i64 0, .int .i64 0, .string ⟨#[107]⟩, .int .i64 0, .int .i64 0]
def LS (d : Value) : List Value := [.int .i64 3, .int .i64 1, .int .i64 3, d, .int .i64 2, .int .i64 2, .int .i64 0, .int .i64 0, .int .i64 0, .string ⟨#[]⟩, .int .i64 3, .int .i64 (-1)]
def LZ : List Value := [.int .i64 0, .int .i64 0, .int .i64 0, .slice none 0 0, .int .i64 0, .int .i64 0, .int .i64 0, .int .i64 0, .int .i64 0, .string ⟨#[]⟩, .int .i64 0, .int .i64 0]

/-- what is held after any of the statement's operations -/
structure I8 (w0 : World) (a1 : Option Addr) (gr : Nat) (D : Nat → Bool) (v : Nat → Value) (w : World) : Prop where
  bel : Below w0.heap.size w0 w
  m0 : D 0 = true → v 0 = AM (.slice a1 1 1)
  m1 : D 1 = true → ∃ d, v 1 = AM d ∧ OwnK .i64 3 w w0.heap.size d [0]
  s2 : D 2 = true → v 2 = AS (.slice (some ⟨gr, 0, none⟩) 2 2)
  s3 : D 3 = true → ∃ d, v 3 = AS d ∧ OwnK .i64 3 w w0.heap.size d [7, 2]
  p4 : D 4 = true → ∃ g, v 4 = .pointer (some ⟨g, 0, none⟩) ∧ w0.heap.size ≤ g ∧ Ty w g 27 ∧ (D 6 = false → Blk w g LZ) ∧ (D 6 = true → ∀ d, v 1 = AM d → Blk w g (LM d))
  p5 : D 5 = true → ∃ g, v 5 = .pointer (some ⟨g, 0, none⟩) ∧ w0.heap.size ≤ g ∧ Ty w g 27 ∧ (D 7 = false → Blk w g LZ) ∧ (D 7 = true → ∀ d, v 3 = AS d → Blk w g (LS d))
  ne : D 4 = true → D 5 = true → v 4 ≠ v 5
theorem I8.next {w0 : World} {a1 : Option Addr} {gr : Nat} {D : Nat → Bool} {v : Nat → Value} {w w' : World} (h : I8 w0 a1 gr D v w) (hb : Below w.heap.size w w') : I8 w0 a1 gr D v w' where
  bel := h.bel.trans (hb.mono h.bel.size)
  m0 := h.m0
  m1 := fun hd => by obtain ⟨d, e, ho⟩ := h.m1 hd; exact ⟨d, e, ho.below hb⟩
  s2 := h.s2
  s3 := fun hd => by obtain ⟨d, e, ho⟩ := h.s3 hd; exact ⟨d, e, ho.below hb⟩
  p4 := fun hd => by obtain ⟨g, e, hg, ht, h0, h1⟩ := h.p4 hd; exact ⟨g, e, hg, ht.next hb, fun hx => (h0 hx).next hb, fun hx d hd => (h1 hx d hd).next hb⟩
  p5 := fun hd => by obtain ⟨g, e, hg, ht, h0, h1⟩ := h.p5 hd; exact ⟨g, e, hg, ht.next hb, fun hx => (h0 hx).next hb, fun hx d hd => (h1 hx d hd).next hb⟩
  ne := h.ne
def upd (v : Nat → Value) (i : Nat) (x : Value) : Nat → Value := fun j => if j = i then x else v j
def don (D : Nat → Bool) (i : Nat) : Nat → Bool := fun j => if j = i then true else D j
theorem I8.put0 {w0 : World} {a1 : Option Addr} {gr : Nat} {D : Nat → Bool} {v : Nat → Value} {w : World} (h : I8 w0 a1 gr D v w) : I8 w0 a1 gr (don D 0) (upd v 0 (AM (.slice a1 1 1))) w :=
  ⟨h.bel, fun _ => rfl, h.m1, h.s2, h.s3, h.p4, h.p5, h.ne⟩
theorem I8.put2 {w0 : World} {a1 : Option Addr} {gr : Nat} {D : Nat → Bool} {v : Nat → Value} {w : World} (h : I8 w0 a1 gr D v w) : I8 w0 a1 gr (don D 2) (upd v 2 (AS (.slice (some ⟨gr, 0, none⟩) 2 2))) w :=
  ⟨h.bel, h.m0, h.m1, fun _ => rfl, h.s3, h.p4, h.p5, h.ne⟩
theorem I8.put1 {w0 : World} {a1 : Option Addr} {gr : Nat} {D : Nat → Bool} {v : Nat → Value} {w : World} (h : I8 w0 a1 gr D v w) (h6 : D 6 = false) {d : Value} {b : Nat} (ho : OwnK .i64 3 w b d [0]) (hb : w0.heap.size ≤ b) : I8 w0 a1 gr (don D 1) (upd v 1 (AM d)) w :=
  ⟨h.bel, h.m0, fun _ => ⟨d, rfl, ho.mono hb⟩, h.s2, h.s3, fun hd => by
    obtain ⟨g, e, hg, ht, h0, h1⟩ := h.p4 hd
    exact ⟨g, e, hg, ht, h0, fun hx => absurd (show D 6 = true from hx) (by simp [h6])⟩, h.p5, h.ne⟩
theorem I8.put3 {w0 : World} {a1 : Option Addr} {gr : Nat} {D : Nat → Bool} {v : Nat → Value} {w : World} (h : I8 w0 a1 gr D v w) (h7 : D 7 = false) {d : Value} {b : Nat} (ho : OwnK .i64 3 w b d [7, 2]) (hb : w0.heap.size ≤ b) : I8 w0 a1 gr (don D 3) (upd v 3 (AS d)) w :=
  ⟨h.bel, h.m0, h.m1, h.s2, fun _ => ⟨d, rfl, ho.mono hb⟩, h.p4, fun hd => by
    obtain ⟨g, e, hg, ht, h0, h1⟩ := h.p5 hd
    exact ⟨g, e, hg, ht, h0, fun hx => absurd (show D 7 = true from hx) (by simp [h7])⟩, h.ne⟩
theorem ptr_ne {g g' : Nat} (h : g ≠ g') : Value.pointer (some ⟨g, 0, none⟩) ≠ .pointer (some ⟨g', 0, none⟩) := fun e => by
  injection e with e; injection e with e; injection e with e
  exact h e
theorem I8.put4 {w0 : World} {a1 : Option Addr} {gr : Nat} {D : Nat → Bool} {v : Nat → Value} {w : World} (h : I8 w0 a1 gr D v w) (h6 : D 6 = false) : I8 w0 a1 gr (don D 4) (upd v 4 (.pointer (some ⟨w.heap.size, 0, none⟩))) (w.alloc (.cells #[.int .i64 0, .int .i64 0, .int .i64 0, .slice none 0 0, .int .i64 0, .int .i64 0, .int .i64 0, .int .i64 0, .int .i64 0, .string ⟨#[]⟩, .int .i64 0, .int .i64 0] 27)) := by
  have k := h.next (box_bel w (.cells #[.int .i64 0, .int .i64 0, .int .i64 0, .slice none 0 0, .int .i64 0, .int .i64 0, .int .i64 0, .int .i64 0, .int .i64 0, .string ⟨#[]⟩, .int .i64 0, .int .i64 0] 27))
  refine ⟨k.bel, k.m0, k.m1, k.s2, k.s3, fun _ => ⟨_, rfl, h.bel.size, Ty.new _ _ _, fun _ => blk_new w, fun hx => absurd (show D 6 = true from hx) (by simp [h6])⟩, k.p5, fun _ hd => ?_⟩
  obtain ⟨g, e, hg, ht, _⟩ := h.p5 hd
  have hlt := ht.lt
  show Value.pointer (some ⟨w.heap.size, 0, none⟩) ≠ v 5
  rw [e]
  exact ptr_ne (by omega)
theorem I8.put5 {w0 : World} {a1 : Option Addr} {gr : Nat} {D : Nat → Bool} {v : Nat → Value} {w : World} (h : I8 w0 a1 gr D v w) (h7 : D 7 = false) : I8 w0 a1 gr (don D 5) (upd v 5 (.pointer (some ⟨w.heap.size, 0, none⟩))) (w.alloc (.cells #[.int .i64 0, .int .i64 0, .int .i64 0, .slice none 0 0, .int .i64 0, .int .i64 0, .int .i64 0, .int .i64 0, .int .i64 0, .string ⟨#[]⟩, .int .i64 0, .int .i64 0] 27)) := by
  have k := h.next (box_bel w (.cells #[.int .i64 0, .int .i64 0, .int .i64 0, .slice none 0 0, .int .i64 0, .int .i64 0, .int .i64 0, .int .i64 0, .int .i64 0, .string ⟨#[]⟩, .int .i64 0, .int .i64 0] 27))
  refine ⟨k.bel, k.m0, k.m1, k.s2, k.s3, k.p4, fun _ => ⟨_, rfl, h.bel.size, Ty.new _ _ _, fun _ => blk_new w, fun hx => absurd (show D 7 = true from hx) (by simp [h7])⟩, fun hd _ => ?_⟩
  obtain ⟨g, e, hg, ht, _⟩ := h.p4 hd
  have hlt := ht.lt
  show v 4 ≠ Value.pointer (some ⟨w.heap.size, 0, none⟩)
  rw [e]
  exact ptr_ne (by omega)
theorem AM_inj {d d' : Value} (h : AM d = AM d') : d = d' := by
  simp only [AM, Value.agg.injEq, Array.mk.injEq, List.cons.injEq] at h
  exact h.2.2.2.1
theorem AS_inj {d d' : Value} (h : AS d = AS d') : d = d' := by
  simp only [AS, Value.agg.injEq, Array.mk.injEq, List.cons.injEq] at h
  exact h.2.2.2.1
theorem own_set12 {w : World} {g base : Nat} {d : Value} {zs : List Int} (ho : OwnK .i64 3 w base d zs) (ht : Ty w g 27) (u0 u1 u2 u3 u4 u5 u6 u7 u8 u9 u10 u11 : Value) : OwnK .i64 3 (set12 w g u0 u1 u2 u3 u4 u5 u6 u7 u8 u9 u10 u11) base d zs := ho.grown (set12_grown w g u0 u1 u2 u3 u4 u5 u6 u7 u8 u9 u10 u11) (ht.apart ho)
theorem bel_set12 {w0 w : World} {B g : Nat} (hb : Below B w0 w) (hg : B ≤ g) (u0 u1 u2 u3 u4 u5 u6 u7 u8 u9 u10 u11 : Value) : Below B w0 (set12 w g u0 u1 u2 u3 u4 u5 u6 u7 u8 u9 u10 u11) := hb |>.setCell (p := ⟨g, 0, none⟩) hg u0 |>.setCell (p := ⟨g, 1, none⟩) hg u1 |>.setCell (p := ⟨g, 2, none⟩) hg u2 |>.setCell (p := ⟨g, 3, none⟩) hg u3 |>.setCell (p := ⟨g, 4, none⟩) hg u4 |>.setCell (p := ⟨g, 5, none⟩) hg u5 |>.setCell (p := ⟨g, 6, none⟩) hg u6 |>.setCell (p := ⟨g, 7, none⟩) hg u7 |>.setCell (p := ⟨g, 8, none⟩) hg u8 |>.setCell (p := ⟨g, 9, none⟩) hg u9 |>.setCell (p := ⟨g, 10, none⟩) hg u10 |>.setCell (p := ⟨g, 11, none⟩) hg u11
theorem I8.put6 {w0 : World} {a1 : Option Addr} {gr g : Nat} {D : Nat → Bool} {v : Nat → Value} {w : World} (h : I8 w0 a1 gr D v w) (h4 : D 4 = true) (h6 : D 6 = false) (e4 : v 4 = .pointer (some ⟨g, 0, none⟩)) {d : Value} (e1 : v 1 = AM d) : I8 w0 a1 gr (don D 6) v (set12 w g (.int .i64 1) (.int .i64 0) (.int .i64 1) (d) (.int .i64 1) (.int .i64 1) (.int .i64 0) (.int .i64 0) (.int .i64 0) (.string ⟨#[107]⟩) (.int .i64 0) (.int .i64 0)) := by
  obtain ⟨g', e, hg, ht, h0, h1⟩ := h.p4 h4
  obtain rfl : g' = g := by
    rw [e] at e4; injection e4 with e4; injection e4 with e4; injection e4 with e4
  refine ⟨bel_set12 h.bel hg _ _ _ _ _ _ _ _ _ _ _ _, h.m0, fun hd => ?_, h.s2, fun hd => ?_, fun _ => ⟨_, e, hg, set12_ty ht _ _ _ _ _ _ _ _ _ _ _ _ _, fun hx => absurd (show false = true from hx ▸ rfl) (by simp), fun _ d' hd' => ?_⟩, fun hd => ?_, h.ne⟩
  · obtain ⟨d, e, ho⟩ := h.m1 hd
    exact ⟨d, e, own_set12 ho ht _ _ _ _ _ _ _ _ _ _ _ _⟩
  · obtain ⟨d, e, ho⟩ := h.s3 hd
    exact ⟨d, e, own_set12 ho ht _ _ _ _ _ _ _ _ _ _ _ _⟩
  · obtain rfl := AM_inj (e1.symm.trans hd')
    exact set12_blk (h0 h6) _ _ _ _ _ _ _ _ _ _ _ _
  · obtain ⟨g5, e5, hg5, ht5, h05, h15⟩ := h.p5 hd
    have hne : g' ≠ g5 := fun x => h.ne h4 hd (by rw [e, e5, x])
    exact ⟨g5, e5, hg5, set12_ty ht5 _ _ _ _ _ _ _ _ _ _ _ _ _, fun hx => set12_other (h05 hx) hne _ _ _ _ _ _ _ _ _ _ _ _, fun hx d' hd' => set12_other (h15 hx d' hd') hne _ _ _ _ _ _ _ _ _ _ _ _⟩
theorem I8.put7 {w0 : World} {a1 : Option Addr} {gr g : Nat} {D : Nat → Bool} {v : Nat → Value} {w : World} (h : I8 w0 a1 gr D v w) (h5 : D 5 = true) (h7 : D 7 = false) (e5 : v 5 = .pointer (some ⟨g, 0, none⟩)) {d : Value} (e3 : v 3 = AS d) : I8 w0 a1 gr (don D 7) v (set12 w g (.int .i64 3) (.int .i64 1) (.int .i64 3) (d) (.int .i64 2) (.int .i64 2) (.int .i64 0) (.int .i64 0) (.int .i64 0) (.string ⟨#[]⟩) (.int .i64 3) (.int .i64 (-1))) := by
  obtain ⟨g', e, hg, ht, h0, h1⟩ := h.p5 h5
  obtain rfl : g' = g := by
    rw [e] at e5; injection e5 with e5; injection e5 with e5; injection e5 with e5
  refine ⟨bel_set12 h.bel hg _ _ _ _ _ _ _ _ _ _ _ _, h.m0, fun hd => ?_, h.s2, fun hd => ?_, fun hd => ?_, fun _ => ⟨_, e, hg, set12_ty ht _ _ _ _ _ _ _ _ _ _ _ _ _, fun hx => absurd (show false = true from hx ▸ rfl) (by simp), fun _ d' hd' => ?_⟩, h.ne⟩
  · obtain ⟨d, e, ho⟩ := h.m1 hd
    exact ⟨d, e, own_set12 ho ht _ _ _ _ _ _ _ _ _ _ _ _⟩
  · obtain ⟨d, e, ho⟩ := h.s3 hd
    exact ⟨d, e, own_set12 ho ht _ _ _ _ _ _ _ _ _ _ _ _⟩
  · obtain ⟨g4, e4, hg4, ht4, h04, h14⟩ := h.p4 hd
    have hne : g' ≠ g4 := fun x => h.ne hd h5 (by rw [e, e4, x])
    exact ⟨g4, e4, hg4, set12_ty ht4 _ _ _ _ _ _ _ _ _ _ _ _ _, fun hx => set12_other (h04 hx) hne _ _ _ _ _ _ _ _ _ _ _ _, fun hx d' hd' => set12_other (h14 hx d' hd') hne _ _ _ _ _ _ _ _ _ _ _ _⟩
  · obtain rfl := AS_inj (e3.symm.trans hd')
    exact set12_blk (h0 h7) _ _ _ _ _ _ _ _ _ _ _ _
end Go.Proofs.YtabbbpmhmlapgaaDoor
