/- Joined: R1 N1 F1. -/
import Derived.Orders
import Derived.Deep.Draws
import Derived.Test.YtabbbpmhmlapgaaDoorO18
import Derived.Test.YtabbbpmhmlapgaaDoorZM
import Derived.Deep.OwnRows

/- A law for a drawn region in which many operations make memory and stand in no order: what is held after any set of operations that have come up (Inv), each operation keeps it. -/

namespace Go.Proofs.YtabbbpmhmlapgaaDoor
open Go
set_option autoImplicit false

/-- Every operation waits for earlier ones alone. -/
def backB (ops : Array Oper) : Bool := (List.range ops.size).all fun i => ((ops[i]?).map (·.after.all fun e => decide (e.on < i))).getD true

theorem backB_spec {ops : Array Oper} (h : backB ops = true) {i : Nat} {o : Oper} (ho : ops[i]? = some o) : ∀ e ∈ o.after, e.on < i := fun e he => by
  have hlt : i < ops.size := (Array.getElem?_eq_some_iff.1 ho).1
  have := List.all_eq_true.1 h i (List.mem_range.2 hlt)
  simp only [ho, Option.map_some, Option.getD_some, Array.all_eq_true_iff_forall_mem, decide_eq_true_eq] at this
  exact this e he

/-- Where nothing may come up any more, all have. -/
theorem ready_nil_all {ops : Array Oper} {md : Region.Mode} {listed : Array Bool} (hb : backB ops = true) (hs : listed.size = ops.size)
    (h : Region.ready md ops listed = []) : ∀ i, i < ops.size → listed.getD i false = true := fun i => by
  induction i using Nat.strongRecOn with
  | _ i ih =>
    intro hi
    cases hc : listed.getD i false with
    | true => rfl
    | false =>
      exfalso
      have hi' : i < listed.size := by omega
      have hm : i ∈ Region.ready md ops listed := mem_ready.2 ⟨by simpa [Array.getD, hi'] using hc, ops[i], Array.getElem?_eq_some_iff.2 ⟨hi, rfl⟩, fun e he _ => by
        have hl := backB_spec hb (Array.getElem?_eq_some_iff.2 ⟨hi, rfl⟩) e he
        exact ih e.on hl (by omega)⟩
      rw [h] at hm
      simp at hm

theorem count_set {listed : Array Bool} {i : Nat} (h : listed.getD i true = false) : (listed.setIfInBounds i true).toList.count false + 1 = listed.toList.count false := by
  have hi : i < listed.size := by
    by_cases hi : i < listed.size
    · exact hi
    · simp [Array.getD, hi] at h
  have hv : listed.toList[i]'(by simpa using hi) = false := by simpa [Array.getD, hi] using h
  rw [Array.toList_setIfInBounds, List.count_set (by simpa using hi), hv]
  have : 0 < listed.toList.count false := List.count_pos_iff.2 (hv ▸ List.getElem_mem _)
  rw [if_pos (by decide), if_neg (by decide)]
  omega

theorem wpAny_inv {P : Program} {ops : Array Oper} {Q : Exit → Act → World → Prop} {md : Region.Mode} (hb : backB ops = true)
    (Inv : (Nat → Bool) → Act → World → Prop)
    (hst : ∀ i o, ops[i]? = some o → ∀ D a w, Inv D a w → D i = false → (∀ e ∈ o.after, Region.binds md e = true → D e.on = true) →
      wpOp P ops Q i (Inv fun j => if j = i then true else D j) a w)
    (hend : ∀ D a w, Inv D a w → (∀ i, i < ops.size → D i = true) → Q .normal a w) :
    ∀ (fuel : Nat) (listed : Array Bool) (a : Act) (w : World), listed.size = ops.size → listed.toList.count false ≤ fuel →
      Inv (fun j => listed.getD j false) a w → wpAny P md ops Q fuel listed a w
  | 0, listed, a, w, hs, hf, h => by
    have hr : Region.ready md ops listed = [] := by
      apply List.eq_nil_iff_forall_not_mem.2
      intro i hi
      have := count_set (mem_ready.1 hi).1
      omega
    exact ⟨hr, hend _ a w h (ready_nil_all hb hs hr)⟩
  | fuel + 1, listed, a, w, hs, hf, h => by
    refine ⟨fun hr => hend _ a w h (ready_nil_all hb hs hr), fun i hi => ?_⟩
    obtain ⟨hl, o, ho, ha⟩ := mem_ready.1 hi
    have hc := count_set hl
    have hlt : i < ops.size := (Array.getElem?_eq_some_iff.1 ho).1
    have hl' : listed.getD i false = false := by
      have : i < listed.size := by omega
      simpa [Array.getD, this] using hl
    refine wpOp_mono (fun a' w' h' => ?_) (hst i o ho _ a w h hl' ha)
    refine wpAny_inv hb Inv hst hend fuel _ a' w' (by simpa using hs) (by omega) ?_
    have : (fun j => (listed.setIfInBounds i true).getD j false) = fun j => if j = i then true else listed.getD j false := by
      funext j
      by_cases hj : j = i
      · subst hj
        have : j < listed.size := by omega
        simp [Array.getD, this]
      · rw [if_neg hj]; exact getD_set_ne false (fun e => hj e.symm)
    rw [this]
    exact h'

/-- The region's law. -/
theorem wp_region_inv {P : Program} {ops : Array Oper} {Q : Exit → Act → World → Prop} {id : Nat} {a : Act} {w : World}
    (hm : P.follows .mixedOrders = true) (hb : backB ops = true) (Inv : (Nat → Bool) → Act → World → Prop)
    (h0 : Inv (fun _ => false) a { w with drawn := w.drawn + 1 })
    (hst : ∀ i o, ops[i]? = some o → ∀ D a w, Inv D a w → D i = false → (∀ e ∈ o.after, Region.binds .any e = true → D e.on = true) →
      wpOp P ops Q i (Inv fun j => if j = i then true else D j) a w)
    (hend : ∀ D a w, Inv D a w → (∀ i, i < ops.size → D i = true) → Q .normal a w) :
    (Code.region id ops true).wp P Q a w := by
  refine wp_region_any hm (wpAny_inv hb Inv hst hend _ _ a _ (by simp) ?_ ?_)
  · refine Nat.le_trans List.count_le_length ?_
    simp
  · have : (fun j => (Array.replicate ops.size false).getD j false) = fun _ => false := by
      funext j
      by_cases hj : j < ops.size <;> simp [Array.getD, hj]
    rw [this]
    exact h0

end Go.Proofs.YtabbbpmhmlapgaaDoor

/- OpWrongs: two operations copied in one statement, in whatever order. -/
namespace Go.Proofs.YtabbbpmhmlapgaaDoor
open Go.RowKit Go.Lib
set_option linter.unusedVariables false

/-- the region of that number -/
def regionOf (n : Nat) : Code → Option Code
  | .region i ops b => if i = n then some (.region i ops b) else none
  | .loop c => regionOf n c
  | .seq a b => match regionOf n a with
    | some c => some c
    | none => regionOf n b
  | .block _ c => regionOf n c
  | .scope c => regionOf n c
  | .cond _ a b => match regionOf n a with
    | some c => some c
    | none => regionOf n b
  | _ => none
noncomputable def reg8 : Code := (Tryd.f3.body.bind (regionOf 8)).getD .skip

/-- a block's type -/
def Ty (w : World) (g : Nat) (ty : TypeId) : Prop := ∃ cs, w.heap[g]? = some (.cells cs ty (0, 0))
theorem Ty.lt {w : World} {g : Nat} {ty : TypeId} (h : Ty w g ty) : g < w.heap.size := by
  obtain ⟨cs, h⟩ := h
  exact (Array.getElem?_eq_some_iff.1 h).1
theorem Ty.next {w w' : World} {g : Nat} {ty : TypeId} (h : Ty w g ty) (hb : Below w.heap.size w w') : Ty w' g ty := by
  obtain ⟨cs, h'⟩ := h
  exact ⟨cs, (hb.block g (Ty.lt ⟨cs, h'⟩)).trans h'⟩
theorem Ty.new (w : World) (cs : Array Value) (ty : TypeId) : Ty (w.alloc (.cells cs ty)) w.heap.size ty := ⟨cs, (Array.getElem?_push_size : (w.heap.push (.cells cs ty))[w.heap.size]? = _)⟩
theorem Ty.set {w : World} {g : Nat} {ty : TypeId} (h : Ty w g ty) (b i : Nat) (u : Value) : Ty (w.setCell ⟨b, i, none⟩ u) g ty := by
  obtain ⟨cs, h'⟩ := h
  by_cases e : b = g
  · subst e
    exact ⟨_, by simp only [World.setCell, Array.getElem?_modify, h', if_true, Option.map_some]; rfl⟩
  · exact ⟨cs, by simp only [World.setCell, Array.getElem?_modify, if_neg e, h']⟩
theorem Ty.apart {w : World} {g base : Nat} {d : Value} {zs : List Int} (h : Ty w g 27) (k : OwnK .i64 3 w base d zs) : d.ownBlock = none ∨ d.ownBlock ≠ some g := by
  rcases k.2 with ⟨rfl, _⟩ | ⟨g', cap, cur, rfl, _, hh, _⟩
  · exact .inl rfl
  · right
    intro e
    simp only [Value.ownBlock, Option.some.injEq] at e
    subst e
    obtain ⟨cs, h'⟩ := h
    rw [hh] at h'
    injection h' with h'
    injection h' with _ h2
    exact absurd h2 (by decide)

/-- the world with twelve cells written -/
def set12 (w : World) (g : Nat) (u0 u1 u2 u3 u4 u5 u6 u7 u8 u9 u10 u11 : Value) : World := ((((((((((((w.setCell ⟨g, 0, none⟩ (u0)).setCell ⟨g, 1, none⟩ (u1)).setCell ⟨g, 2, none⟩ (u2)).setCell ⟨g, 3, none⟩ (u3)).setCell ⟨g, 4, none⟩ (u4)).setCell ⟨g, 5, none⟩ (u5)).setCell ⟨g, 6, none⟩ (u6)).setCell ⟨g, 7, none⟩ (u7)).setCell ⟨g, 8, none⟩ (u8)).setCell ⟨g, 9, none⟩ (u9)).setCell ⟨g, 10, none⟩ (u10)).setCell ⟨g, 11, none⟩ (u11))
theorem grown_set {w w' : World} {g : Nat} (h : w.grownBy w' (some g)) (i : Nat) (u : Value) : w.grownBy (w'.setCell ⟨g, i, none⟩ u) (some g) := h.trans (grown_setCell w' ⟨g, i, none⟩ u)
theorem set12_grown (w : World) (g : Nat) (u0 u1 u2 u3 u4 u5 u6 u7 u8 u9 u10 u11 : Value) : w.grownBy (set12 w g u0 u1 u2 u3 u4 u5 u6 u7 u8 u9 u10 u11) (some g) := by
  unfold set12
  exact (grown_set (grown_set (grown_set (grown_set (grown_set (grown_set (grown_set (grown_set (grown_set (grown_set (grown_set (grown_set (World.grownBy.refl w _) 0 u0) 1 u1) 2 u2) 3 u3) 4 u4) 5 u5) 6 u6) 7 u7) 8 u8) 9 u9) 10 u10) 11 u11)
theorem set12_ty {w : World} {b : Nat} {ty : TypeId} (h : Ty w b ty) (g : Nat) (u0 u1 u2 u3 u4 u5 u6 u7 u8 u9 u10 u11 : Value) : Ty (set12 w g u0 u1 u2 u3 u4 u5 u6 u7 u8 u9 u10 u11) b ty := h |>.set _ _ _ |>.set _ _ _ |>.set _ _ _ |>.set _ _ _ |>.set _ _ _ |>.set _ _ _ |>.set _ _ _ |>.set _ _ _ |>.set _ _ _ |>.set _ _ _ |>.set _ _ _ |>.set _ _ _
theorem set12_blk {w : World} {g : Nat} {x0 x1 x2 x3 x4 x5 x6 x7 x8 x9 x10 x11 : Value} (h : Blk w g [x0, x1, x2, x3, x4, x5, x6, x7, x8, x9, x10, x11]) (u0 u1 u2 u3 u4 u5 u6 u7 u8 u9 u10 u11 : Value) : Blk (set12 w g u0 u1 u2 u3 u4 u5 u6 u7 u8 u9 u10 u11) g [u0, u1, u2, u3, u4, u5, u6, u7, u8, u9, u10, u11] := h |>.set 0 _ |>.set 1 _ |>.set 2 _ |>.set 3 _ |>.set 4 _ |>.set 5 _ |>.set 6 _ |>.set 7 _ |>.set 8 _ |>.set 9 _ |>.set 10 _ |>.set 11 _
theorem set12_other {w : World} {g b : Nat} {vs : List Value} (h : Blk w b vs) (hne : g ≠ b) (u0 u1 u2 u3 u4 u5 u6 u7 u8 u9 u10 u11 : Value) : Blk (set12 w g u0 u1 u2 u3 u4 u5 u6 u7 u8 u9 u10 u11) b vs := h |>.other hne _ _ |>.other hne _ _ |>.other hne _ _ |>.other hne _ _ |>.other hne _ _ |>.other hne _ _ |>.other hne _ _ |>.other hne _ _ |>.other hne _ _ |>.other hne _ _ |>.other hne _ _ |>.other hne _ _

/-- the operation that moves, the one that sets a property, with that row -/
def AM (d : Value) : Value := .agg #[.int .i64 1, .int .i64 0, .int .i64 1, d, .int .i64 1, .int .i64 1, .int .i64 0, .int .i64 0, .int .i64 0, .string ⟨#[107]⟩, .int .i64 0, .int .i64 0]
def AS (d : Value) : Value := .agg #[.int .i64 3, .int .i64 1, .int .i64 3, d, .int .i64 2, .int .i64 2, .int .i64 0, .int .i64 0, .int .i64 0, .string ⟨#[]⟩, .int .i64 3, .int .i64 (-1)]
def LM (d : Value) : List Value := [.int .i64 1, .int .i64 0, .int .i64 1, d, .int .i64 1, .int .i64 1, .int .i64 0, .int .i64 0, .int .i64 0, .string ⟨#[107]⟩, .int .i64 0, .int .i64 0]
def LS (d : Value) : List Value := [.int .i64 3, .int .i64 1, .int .i64 3, d, .int .i64 2, .int .i64 2, .int .i64 0, .int .i64 0, .int .i64 0, .string ⟨#[]⟩, .int .i64 3, .int .i64 (-1)]
def LZ : List Value := [.int .i64 0, .int .i64 0, .int .i64 0, .slice none 0 0, .int .i64 0, .int .i64 0, .int .i64 0, .int .i64 0, .int .i64 0, .string ⟨#[]⟩, .int .i64 0, .int .i64 0]

/-- what is held after any of the statement's operations -/
structure I8 (w0 : World) (a1 : Option Addr) (gr : Nat) (D : Nat → Bool) (v : Nat → Value) (w : World) : Prop where
  bel : Below w0.heap.size w0 w
  m0 : D 0 = true → v 0 = AM (.slice a1 1 1)
  m1 : D 1 = true → ∃ d, v 1 = AM d ∧ OwnK .i64 3 w w0.heap.size d [0]
  s2 : D 2 = true → v 2 = AS (.slice (some ⟨gr, 0, none⟩) 2 2)
  s3 : D 3 = true → ∃ d, v 3 = AS d ∧ OwnK .i64 3 w w0.heap.size d [7, 2]
  p4 : D 4 = true → ∃ g, v 4 = .pointer (some ⟨g, 0, none⟩) ∧ w0.heap.size ≤ g ∧ Ty w g 27 ∧ (D 6 = false → Blk w g LZ) ∧ (D 6 = true → ∀ d, v 1 = AM d → Blk w g (LM d))
  p5 : D 5 = true → ∃ g, v 5 = .pointer (some ⟨g, 0, none⟩) ∧ w0.heap.size ≤ g ∧ Ty w g 27 ∧ (D 7 = false → Blk w g LZ) ∧ (D 7 = true → ∀ d, v 3 = AS d → Blk w g (LS d))
  ne : D 4 = true → D 5 = true → v 4 ≠ v 5
theorem I8.next {w0 : World} {a1 : Option Addr} {gr : Nat} {D : Nat → Bool} {v : Nat → Value} {w w' : World} (h : I8 w0 a1 gr D v w) (hb : Below w.heap.size w w') : I8 w0 a1 gr D v w' where
  bel := h.bel.trans (hb.mono h.bel.size)
  m0 := h.m0
  m1 := fun hd => by obtain ⟨d, e, ho⟩ := h.m1 hd; exact ⟨d, e, ho.below hb⟩
  s2 := h.s2
  s3 := fun hd => by obtain ⟨d, e, ho⟩ := h.s3 hd; exact ⟨d, e, ho.below hb⟩
  p4 := fun hd => by obtain ⟨g, e, hg, ht, h0, h1⟩ := h.p4 hd; exact ⟨g, e, hg, ht.next hb, fun hx => (h0 hx).next hb, fun hx d hd => (h1 hx d hd).next hb⟩
  p5 := fun hd => by obtain ⟨g, e, hg, ht, h0, h1⟩ := h.p5 hd; exact ⟨g, e, hg, ht.next hb, fun hx => (h0 hx).next hb, fun hx d hd => (h1 hx d hd).next hb⟩
  ne := h.ne
def upd (v : Nat → Value) (i : Nat) (x : Value) : Nat → Value := fun j => if j = i then x else v j
def don (D : Nat → Bool) (i : Nat) : Nat → Bool := fun j => if j = i then true else D j
theorem I8.put0 {w0 : World} {a1 : Option Addr} {gr : Nat} {D : Nat → Bool} {v : Nat → Value} {w : World} (h : I8 w0 a1 gr D v w) : I8 w0 a1 gr (don D 0) (upd v 0 (AM (.slice a1 1 1))) w :=
  ⟨h.bel, fun _ => rfl, h.m1, h.s2, h.s3, h.p4, h.p5, h.ne⟩
theorem I8.put2 {w0 : World} {a1 : Option Addr} {gr : Nat} {D : Nat → Bool} {v : Nat → Value} {w : World} (h : I8 w0 a1 gr D v w) : I8 w0 a1 gr (don D 2) (upd v 2 (AS (.slice (some ⟨gr, 0, none⟩) 2 2))) w :=
  ⟨h.bel, h.m0, h.m1, fun _ => rfl, h.s3, h.p4, h.p5, h.ne⟩
theorem I8.put1 {w0 : World} {a1 : Option Addr} {gr : Nat} {D : Nat → Bool} {v : Nat → Value} {w : World} (h : I8 w0 a1 gr D v w) (h6 : D 6 = false) {d : Value} {b : Nat} (ho : OwnK .i64 3 w b d [0]) (hb : w0.heap.size ≤ b) : I8 w0 a1 gr (don D 1) (upd v 1 (AM d)) w :=
  ⟨h.bel, h.m0, fun _ => ⟨d, rfl, ho.mono hb⟩, h.s2, h.s3, fun hd => by
    obtain ⟨g, e, hg, ht, h0, h1⟩ := h.p4 hd
    exact ⟨g, e, hg, ht, h0, fun hx => absurd (show D 6 = true from hx) (by simp [h6])⟩, h.p5, h.ne⟩
theorem I8.put3 {w0 : World} {a1 : Option Addr} {gr : Nat} {D : Nat → Bool} {v : Nat → Value} {w : World} (h : I8 w0 a1 gr D v w) (h7 : D 7 = false) {d : Value} {b : Nat} (ho : OwnK .i64 3 w b d [7, 2]) (hb : w0.heap.size ≤ b) : I8 w0 a1 gr (don D 3) (upd v 3 (AS d)) w :=
  ⟨h.bel, h.m0, h.m1, h.s2, fun _ => ⟨d, rfl, ho.mono hb⟩, h.p4, fun hd => by
    obtain ⟨g, e, hg, ht, h0, h1⟩ := h.p5 hd
    exact ⟨g, e, hg, ht, h0, fun hx => absurd (show D 7 = true from hx) (by simp [h7])⟩, h.ne⟩
theorem ptr_ne {g g' : Nat} (h : g ≠ g') : Value.pointer (some ⟨g, 0, none⟩) ≠ .pointer (some ⟨g', 0, none⟩) := fun e => by
  injection e with e; injection e with e; injection e with e
  exact h e
theorem I8.put4 {w0 : World} {a1 : Option Addr} {gr : Nat} {D : Nat → Bool} {v : Nat → Value} {w : World} (h : I8 w0 a1 gr D v w) (h6 : D 6 = false) : I8 w0 a1 gr (don D 4) (upd v 4 (.pointer (some ⟨w.heap.size, 0, none⟩))) (w.alloc (.cells #[.int .i64 0, .int .i64 0, .int .i64 0, .slice none 0 0, .int .i64 0, .int .i64 0, .int .i64 0, .int .i64 0, .int .i64 0, .string ⟨#[]⟩, .int .i64 0, .int .i64 0] 27)) := by
  have k := h.next (box_bel w (.cells #[.int .i64 0, .int .i64 0, .int .i64 0, .slice none 0 0, .int .i64 0, .int .i64 0, .int .i64 0, .int .i64 0, .int .i64 0, .string ⟨#[]⟩, .int .i64 0, .int .i64 0] 27))
  refine ⟨k.bel, k.m0, k.m1, k.s2, k.s3, fun _ => ⟨_, rfl, h.bel.size, Ty.new _ _ _, fun _ => blk_new w, fun hx => absurd (show D 6 = true from hx) (by simp [h6])⟩, k.p5, fun _ hd => ?_⟩
  obtain ⟨g, e, hg, ht, _⟩ := h.p5 hd
  have hlt := ht.lt
  show Value.pointer (some ⟨w.heap.size, 0, none⟩) ≠ v 5
  rw [e]
  exact ptr_ne (by omega)
theorem I8.put5 {w0 : World} {a1 : Option Addr} {gr : Nat} {D : Nat → Bool} {v : Nat → Value} {w : World} (h : I8 w0 a1 gr D v w) (h7 : D 7 = false) : I8 w0 a1 gr (don D 5) (upd v 5 (.pointer (some ⟨w.heap.size, 0, none⟩))) (w.alloc (.cells #[.int .i64 0, .int .i64 0, .int .i64 0, .slice none 0 0, .int .i64 0, .int .i64 0, .int .i64 0, .int .i64 0, .int .i64 0, .string ⟨#[]⟩, .int .i64 0, .int .i64 0] 27)) := by
  have k := h.next (box_bel w (.cells #[.int .i64 0, .int .i64 0, .int .i64 0, .slice none 0 0, .int .i64 0, .int .i64 0, .int .i64 0, .int .i64 0, .int .i64 0, .string ⟨#[]⟩, .int .i64 0, .int .i64 0] 27))
  refine ⟨k.bel, k.m0, k.m1, k.s2, k.s3, k.p4, fun _ => ⟨_, rfl, h.bel.size, Ty.new _ _ _, fun _ => blk_new w, fun hx => absurd (show D 7 = true from hx) (by simp [h7])⟩, fun hd _ => ?_⟩
  obtain ⟨g, e, hg, ht, _⟩ := h.p4 hd
  have hlt := ht.lt
  show v 4 ≠ Value.pointer (some ⟨w.heap.size, 0, none⟩)
  rw [e]
  exact ptr_ne (by omega)
theorem AM_inj {d d' : Value} (h : AM d = AM d') : d = d' := by
  simp only [AM, Value.agg.injEq, Array.mk.injEq, List.cons.injEq] at h
  exact h.2.2.2.1
theorem AS_inj {d d' : Value} (h : AS d = AS d') : d = d' := by
  simp only [AS, Value.agg.injEq, Array.mk.injEq, List.cons.injEq] at h
  exact h.2.2.2.1
theorem own_set12 {w : World} {g base : Nat} {d : Value} {zs : List Int} (ho : OwnK .i64 3 w base d zs) (ht : Ty w g 27) (u0 u1 u2 u3 u4 u5 u6 u7 u8 u9 u10 u11 : Value) : OwnK .i64 3 (set12 w g u0 u1 u2 u3 u4 u5 u6 u7 u8 u9 u10 u11) base d zs := ho.grown (set12_grown w g u0 u1 u2 u3 u4 u5 u6 u7 u8 u9 u10 u11) (ht.apart ho)
theorem bel_set12 {w0 w : World} {B g : Nat} (hb : Below B w0 w) (hg : B ≤ g) (u0 u1 u2 u3 u4 u5 u6 u7 u8 u9 u10 u11 : Value) : Below B w0 (set12 w g u0 u1 u2 u3 u4 u5 u6 u7 u8 u9 u10 u11) := hb |>.setCell (p := ⟨g, 0, none⟩) hg u0 |>.setCell (p := ⟨g, 1, none⟩) hg u1 |>.setCell (p := ⟨g, 2, none⟩) hg u2 |>.setCell (p := ⟨g, 3, none⟩) hg u3 |>.setCell (p := ⟨g, 4, none⟩) hg u4 |>.setCell (p := ⟨g, 5, none⟩) hg u5 |>.setCell (p := ⟨g, 6, none⟩) hg u6 |>.setCell (p := ⟨g, 7, none⟩) hg u7 |>.setCell (p := ⟨g, 8, none⟩) hg u8 |>.setCell (p := ⟨g, 9, none⟩) hg u9 |>.setCell (p := ⟨g, 10, none⟩) hg u10 |>.setCell (p := ⟨g, 11, none⟩) hg u11
theorem I8.put6 {w0 : World} {a1 : Option Addr} {gr g : Nat} {D : Nat → Bool} {v : Nat → Value} {w : World} (h : I8 w0 a1 gr D v w) (h4 : D 4 = true) (h6 : D 6 = false) (e4 : v 4 = .pointer (some ⟨g, 0, none⟩)) {d : Value} (e1 : v 1 = AM d) : I8 w0 a1 gr (don D 6) v (set12 w g (.int .i64 1) (.int .i64 0) (.int .i64 1) (d) (.int .i64 1) (.int .i64 1) (.int .i64 0) (.int .i64 0) (.int .i64 0) (.string ⟨#[107]⟩) (.int .i64 0) (.int .i64 0)) := by
  obtain ⟨g', e, hg, ht, h0, h1⟩ := h.p4 h4
  obtain rfl : g' = g := by
    rw [e] at e4; injection e4 with e4; injection e4 with e4; injection e4 with e4
  refine ⟨bel_set12 h.bel hg _ _ _ _ _ _ _ _ _ _ _ _, h.m0, fun hd => ?_, h.s2, fun hd => ?_, fun _ => ⟨_, e, hg, set12_ty ht _ _ _ _ _ _ _ _ _ _ _ _ _, fun hx => absurd (show false = true from hx ▸ rfl) (by simp), fun _ d' hd' => ?_⟩, fun hd => ?_, h.ne⟩
  · obtain ⟨d, e, ho⟩ := h.m1 hd
    exact ⟨d, e, own_set12 ho ht _ _ _ _ _ _ _ _ _ _ _ _⟩
  · obtain ⟨d, e, ho⟩ := h.s3 hd
    exact ⟨d, e, own_set12 ho ht _ _ _ _ _ _ _ _ _ _ _ _⟩
  · obtain rfl := AM_inj (e1.symm.trans hd')
    exact set12_blk (h0 h6) _ _ _ _ _ _ _ _ _ _ _ _
  · obtain ⟨g5, e5, hg5, ht5, h05, h15⟩ := h.p5 hd
    have hne : g' ≠ g5 := fun x => h.ne h4 hd (by rw [e, e5, x])
    exact ⟨g5, e5, hg5, set12_ty ht5 _ _ _ _ _ _ _ _ _ _ _ _ _, fun hx => set12_other (h05 hx) hne _ _ _ _ _ _ _ _ _ _ _ _, fun hx d' hd' => set12_other (h15 hx d' hd') hne _ _ _ _ _ _ _ _ _ _ _ _⟩
theorem I8.put7 {w0 : World} {a1 : Option Addr} {gr g : Nat} {D : Nat → Bool} {v : Nat → Value} {w : World} (h : I8 w0 a1 gr D v w) (h5 : D 5 = true) (h7 : D 7 = false) (e5 : v 5 = .pointer (some ⟨g, 0, none⟩)) {d : Value} (e3 : v 3 = AS d) : I8 w0 a1 gr (don D 7) v (set12 w g (.int .i64 3) (.int .i64 1) (.int .i64 3) (d) (.int .i64 2) (.int .i64 2) (.int .i64 0) (.int .i64 0) (.int .i64 0) (.string ⟨#[]⟩) (.int .i64 3) (.int .i64 (-1))) := by
  obtain ⟨g', e, hg, ht, h0, h1⟩ := h.p5 h5
  obtain rfl : g' = g := by
    rw [e] at e5; injection e5 with e5; injection e5 with e5; injection e5 with e5
  refine ⟨bel_set12 h.bel hg _ _ _ _ _ _ _ _ _ _ _ _, h.m0, fun hd => ?_, h.s2, fun hd => ?_, fun hd => ?_, fun _ => ⟨_, e, hg, set12_ty ht _ _ _ _ _ _ _ _ _ _ _ _ _, fun hx => absurd (show false = true from hx ▸ rfl) (by simp), fun _ d' hd' => ?_⟩, h.ne⟩
  · obtain ⟨d, e, ho⟩ := h.m1 hd
    exact ⟨d, e, own_set12 ho ht _ _ _ _ _ _ _ _ _ _ _ _⟩
  · obtain ⟨d, e, ho⟩ := h.s3 hd
    exact ⟨d, e, own_set12 ho ht _ _ _ _ _ _ _ _ _ _ _ _⟩
  · obtain ⟨g4, e4, hg4, ht4, h04, h14⟩ := h.p4 hd
    have hne : g' ≠ g4 := fun x => h.ne hd h5 (by rw [e, e4, x])
    exact ⟨g4, e4, hg4, set12_ty ht4 _ _ _ _ _ _ _ _ _ _ _ _ _, fun hx => set12_other (h04 hx) hne _ _ _ _ _ _ _ _ _ _ _ _, fun hx d' hd' => set12_other (h14 hx d' hd') hne _ _ _ _ _ _ _ _ _ _ _ _⟩
  · obtain rfl := AS_inj (e3.symm.trans hd')
    exact set12_blk (h0 h7) _ _ _ _ _ _ _ _ _ _ _ _
end Go.Proofs.YtabbbpmhmlapgaaDoor

/- FrameWrongs: its list of thirteen frames, in whatever order it is made. -/
namespace Go.Proofs.YtabbbpmhmlapgaaDoor
open Go.RowKit Go.Lib
set_option linter.unusedVariables false
set_option linter.unusedSimpArgs false

noncomputable def reg7 : Code := (Tryd.f4.body.bind (regionOf 7)).getD .skip
def Z17F : Array Value := ((List.replicate 17 (0 : Int)).map (Value.int .i64)).toArray
theorem make17F (W : World) : (Instr.makeSlice 25 (.int .i64 17) (.int .i64 17)).run Tryd.prog W = .ok (.slice (some ⟨W.heap.size, 0, none⟩) 17 17) (W.alloc (.cells Z17F 3)) := by
  rw [show Z17F = madeCells #[.int .i64 0] 17 from by kernel_rfl]
  exact Go.run_make_row' 25 3 (.int .i64 0) 8 Tryd.underlying25 Tryd.info3 rfl .i64 .i64 17 (by decide) (by decide) W
theorem row17 (W : World) : RowK .i64 (W.alloc (.cells Z17F 3)) (some ⟨W.heap.size, 0, none⟩) (List.replicate 17 0) := by
  intro i hi
  rw [List.length_replicate] at hi
  refine ⟨W.heap.size, 0, rfl, ?_⟩
  have h : Z17F[0 + i]? = some (Value.int .i64 ((List.replicate 17 (0 : Int)).getD i 0)) := by
    rw [Nat.zero_add]
    simp only [Z17F, List.getElem?_toArray, List.getElem?_map, List.getD_eq_getElem?_getD]
    rw [List.getElem?_replicate, if_pos hi]
    rfl
  rw [World.cell?_alloc_new]
  exact h
theorem size27 (w : World) : (Go.sizeOf 27).run Tryd.prog w = .ok 12 w := by
  obtain ⟨i0, hi, hz0, hz1, hz2⟩ := info_parts Tryd.info27
  simp [Go.sizeOf, typeInfo, hi, hz1]
theorem slice37 (w : World) (g len cap h : Nat) (h1 : h ≤ cap) : (Instr.slice 37 (.slice (some ⟨g, 0, none⟩) len cap) none (some (.int .i64 (h : Int))) none).run Tryd.prog w = .ok (.slice (some ⟨g, 0, none⟩) h cap) w := by
  have ht' : Tryd.prog.underlying 37 = some (.slice (Tryd.prog.elem 37)) := by simp [Program.elem, Tryd.underlying37]
  have he : Tryd.prog.elem 37 = 27 := by simp [Program.elem, Tryd.underlying37]
  rw [run_slice_h w 37 _ _ _ ht' .i64 _ (by omega) (by omega), he, size27]
  simp [Result.andThen, sliced]
  intros
  rfl
def xZ : OpD := (⟨0, 0, [], 0, 0, 0, 0, 0, ⟨#[]⟩, 0, 0⟩, 0)
theorem rowO_z (w : World) : RowO (w.alloc (.cells #[.int .i64 0, .int .i64 0, .int .i64 0, .slice none 0 0, .int .i64 0, .int .i64 0, .int .i64 0, .int .i64 0, .int .i64 0, .string ⟨#[]⟩, .int .i64 0, .int .i64 0] 27)) (some ⟨w.heap.size, 0, none⟩) [xZ] := fun i x hi => by
  match i, hi with
  | 0, hi =>
    simp only [List.getElem?_cons_zero, Option.some.injEq] at hi
    subst hi
    exact ⟨w.heap.size, 0, rfl, none, 0, OpAt.new w 0 0 0 none [] 0 0 0 0 0 0 0 ⟨#[]⟩ 0 0, RowK.nil _ _ _, by decide⟩
  | i + 1, hi => simp at hi
theorem rowO_first {w : World} {a : Option Addr} {n : Nat} {x : OpD} (h : RowO w a (List.replicate (n + 1) x)) : RowO w a [x] := fun i y hi => by
  match i, hi with
  | 0, hi =>
    simp only [List.getElem?_cons_zero, Option.some.injEq] at hi
    subst hi
    exact h 0 _ (by simp [List.replicate_succ])
  | i + 1, hi => simp at hi

/-- a row of numbers; a row of one zero operation; a frame that may not be; thirteen of them -/
def RowI (x : Value) (w : World) (zs : List Int) (n : Nat) : Prop := ∃ a c, x = .slice a n c ∧ RowK .i64 w a zs
def RowZ (x : Value) (w : World) : Prop := ∃ a c, x = .slice a 1 c ∧ RowO w a [xZ]
def BadF (x : Value) (w : World) : Prop := ∃ (fr tu k : Int) (ha : Option Addr) (hs : List Int) (hn hc : Nat) (oa : Option Addr) (os : List OpD) (on oc : Nat), x = .agg #[.int .i64 fr, .int .i64 tu, .int .i64 k, .slice ha hn hc, .slice oa on oc] ∧ FrR w ha hs hn oa os on ∧ frB fr tu k hs os = false
def AllBad (x : Value) (w : World) : Prop := ∃ (g o c : Nat), x = .slice (some ⟨g, o, none⟩) 13 c ∧ ∀ j, j < 13 → ∃ (fr tu k : Int) (ha : Option Addr) (hs : List Int) (hn hc : Nat) (oa : Option Addr) (os : List OpD) (on oc : Nat), FrAt w g (o + j * 5) fr tu k ha hn hc oa on oc ∧ FrR w ha hs hn oa os on ∧ frB fr tu k hs os = false
def PF (gm mc i : Nat) (x : Value) (w : World) : Prop := match i with
  | 2 | 4 | 6 | 8 | 18 | 22 => RowI x w [1] 1
  | 11 => RowI x w (List.replicate 17 0) 17
  | 14 | 16 | 20 => x = .slice (some ⟨gm, 0, none⟩) 9 mc
  | 17 | 21 => x = .slice (some ⟨gm, 0, none⟩) 1 mc
  | 24 => x = .agg #[.int .i64 0, .int .i64 0, .int .i64 0, .slice none 0 0, .int .i64 0, .int .i64 0, .int .i64 0, .int .i64 0, .int .i64 0, .string ⟨#[]⟩, .int .i64 0, .int .i64 0]
  | 25 => RowZ x w
  | 27 | 28 => AllBad x w
  | _ => BadF x w
theorem RowI.next {x : Value} {w w' : World} {zs : List Int} {n : Nat} (h : RowI x w zs n) (hb : Below w.heap.size w w') : RowI x w' zs n := by
  obtain ⟨a, c, e, hr⟩ := h
  exact ⟨a, c, e, hr.below hb (Nat.le_refl _)⟩
theorem RowZ.next {x : Value} {w w' : World} (h : RowZ x w) (hb : Below w.heap.size w w') : RowZ x w' := by
  obtain ⟨a, c, e, hr⟩ := h
  exact ⟨a, c, e, hr.below hb⟩
theorem BadF.next {x : Value} {w w' : World} (h : BadF x w) (hb : Below w.heap.size w w') : BadF x w' := by
  obtain ⟨fr, tu, k, ha, hs, hn, hc, oa, os, on, oc, e, hr, hf⟩ := h
  exact ⟨fr, tu, k, ha, hs, hn, hc, oa, os, on, oc, e, hr.below hb, hf⟩
theorem AllBad.next {x : Value} {w w' : World} (h : AllBad x w) (hb : Below w.heap.size w w') : AllBad x w' := by
  obtain ⟨g, o, c, e, hp⟩ := h
  refine ⟨g, o, c, e, fun j hj => ?_⟩
  obtain ⟨fr, tu, k, ha, hs, hn, hc, oa, os, on, oc, e, hr, hf⟩ := hp j hj
  exact ⟨fr, tu, k, ha, hs, hn, hc, oa, os, on, oc, e.next hb, hr.below hb, hf⟩
theorem PF.next {gm mc i : Nat} {x : Value} {w w' : World} (h : PF gm mc i x w) (hb : Below w.heap.size w w') : PF gm mc i x w' := by
  unfold PF at h ⊢
  split at h
  all_goals first
    | exact h
    | exact RowI.next h hb
    | exact RowZ.next h hb
    | exact AllBad.next h hb
    | exact BadF.next h hb
structure KF (gm mc : Nat) (w0 : World) (D : Nat → Bool) (l : List Value) (w : World) : Prop where
  bel : Below w0.heap.size w0 w
  p : ∀ i x, l[i]? = some x → D i = true → PF gm mc i x w
theorem KF.put {gm mc : Nat} {w0 : World} {D : Nat → Bool} {l : List Value} {w w' : World} (h : KF gm mc w0 D l w) (i : Nat) {x : Value} (hb : Below w.heap.size w w') (hx : PF gm mc i x w') : KF gm mc w0 (don D i) (l.set i x) w' := by
  refine ⟨h.bel.trans (hb.mono h.bel.size), fun j y hy hd => ?_⟩
  rw [List.getElem?_set] at hy
  by_cases e : i = j
  · subst e
    rw [if_pos rfl] at hy
    split at hy
    · cases hy; exact hx
    · cases hy
  · rw [if_neg e] at hy
    refine (h.p j y hy ?_).next hb
    unfold don at hd
    rwa [if_neg (fun x => e x.symm)] at hd
theorem bad0 : frB 0 0 0 [] [] = false := by decide
theorem bad1 : frB 0 1 0 [] [] = false := by decide
theorem bad3 : frB 0 1 3 [1] [] = false := by decide
theorem bad5 : frB 0 0 1 [1] [] = false := by decide
theorem bad7 : frB 0 16 1 [1] [] = false := by decide
theorem bad9 : frB (-1) 0 1 [1] [] = false := by decide
theorem bad10 : frB 0 1 1 [] [] = false := by decide
theorem bad12 : frB 0 1 1 (List.replicate 17 0) [] = false := by decide
theorem bad13 : frB 0 1 2 [] [] = false := by decide
theorem bad15 : frB 0 1 2 [] (List.replicate 9 x0D) = false := by decide
theorem bad19 : frB 0 1 2 [1] [x0D] = false := by decide
theorem bad23 : frB 0 1 1 [1] [x0D] = false := by decide
theorem bad26 : frB 0 1 2 [] [xZ] = false := by decide

set_option maxHeartbeats 8000000 in
set_option maxRecDepth 100000 in
theorem reg7_law (gm mc : Nat) (W : World) (Q : Exit → Act → World → Prop) (s0 s1 s2 s3 s5 s6 s7 s8 s9 s10 s11 s12 s13 s14 s15 s16 s17 s18 s19 s20 s21 s22 s23 s24 s25 s26 s27 s28 s29 s30 s31 s32 s33 s34 s35 s36 s37 s38 s39 s40 s41 s42 s43 s44 s45 s46 s47 s48 s49 s50 s51 s52 s53 s54 s55 s56 s57 s58 s59 s60 s61 s62 s63 s64 s65 s66 s67 s68 s69 s70 s71 s72 s73 s74 s75 s76 s77 s78 s79 s80 s81 s82 s83 s84 s85 s86 s87 s88 s89 s90 s91 : Value)
    (hro : RowO W (some ⟨gm, 0, none⟩) (List.replicate 9 x0D)) (hmc : 9 ≤ mc)
    (hQ : ∀ (v0 v1 v2 v3 v4 v5 v6 v7 v8 v9 v10 v11 v12 v13 v14 v15 v16 v17 v18 v19 v20 v21 v22 v23 v24 v25 v26 v27 v28 : Value) (w : World), Below W.heap.size W w → AllBad v28 w → Q .normal ⟨#[s0, s1, s2, s3, .slice (some ⟨gm, 0, none⟩) 9 mc, s5, v28, s7, s8, s9, s10, s11, s12, s13, s14, s15, s16, s17, s18, v0, v1, v2, v3, v4, v5, v6, v7, v8, v9, v10, v11, v12, v13, v14, v15, v16, v17, v18, v19, v20, v21, v22, v23, v24, v25, v26, v27, s47, s48, s49, s50, s51, s52, s53, s54, s55, s56, s57, s58, s59, s60, s61, s62, s63, s64, s65, s66, s67, s68, s69, s70, s71, s72, s73, s74, s75, s76, s77, s78, s79, s80, s81, s82, s83, s84, s85, s86, s87, s88, s89, s90, s91], []⟩ w) :
    Code.wp Tryd.prog reg7 Q ⟨#[s0, s1, s2, s3, .slice (some ⟨gm, 0, none⟩) 9 mc, s5, s6, s7, s8, s9, s10, s11, s12, s13, s14, s15, s16, s17, s18, s19, s20, s21, s22, s23, s24, s25, s26, s27, s28, s29, s30, s31, s32, s33, s34, s35, s36, s37, s38, s39, s40, s41, s42, s43, s44, s45, s46, s47, s48, s49, s50, s51, s52, s53, s54, s55, s56, s57, s58, s59, s60, s61, s62, s63, s64, s65, s66, s67, s68, s69, s70, s71, s72, s73, s74, s75, s76, s77, s78, s79, s80, s81, s82, s83, s84, s85, s86, s87, s88, s89, s90, s91], []⟩ W := by
  have mixed : Tryd.prog.follows .mixedOrders = true := by kernel_rfl
  have HRO := Lib.hid hro
  have HQ := Lib.hid hQ
  have hmc1 : 1 ≤ mc := by omega
  have hmc2 : (1 : Int) ≤ (mc : Int) := by omega
  clear hro hQ hmc
  obtain ⟨J, HJ⟩ : ∃ J : (Nat → Bool) → Act → World → Prop, Hid ((∀ D v0 v1 v2 v3 v4 v5 v6 v7 v8 v9 v10 v11 v12 v13 v14 v15 v16 v17 v18 v19 v20 v21 v22 v23 v24 v25 v26 v27 v28 w, KF gm mc W.drew D [v0, v1, v2, v3, v4, v5, v6, v7, v8, v9, v10, v11, v12, v13, v14, v15, v16, v17, v18, v19, v20, v21, v22, v23, v24, v25, v26, v27, v28] w → J D ⟨#[s0, s1, s2, s3, .slice (some ⟨gm, 0, none⟩) 9 mc, s5, v28, s7, s8, s9, s10, s11, s12, s13, s14, s15, s16, s17, s18, v0, v1, v2, v3, v4, v5, v6, v7, v8, v9, v10, v11, v12, v13, v14, v15, v16, v17, v18, v19, v20, v21, v22, v23, v24, v25, v26, v27, s47, s48, s49, s50, s51, s52, s53, s54, s55, s56, s57, s58, s59, s60, s61, s62, s63, s64, s65, s66, s67, s68, s69, s70, s71, s72, s73, s74, s75, s76, s77, s78, s79, s80, s81, s82, s83, s84, s85, s86, s87, s88, s89, s90, s91], []⟩ w) ∧
      (∀ D act w, J D act w → ∃ v0 v1 v2 v3 v4 v5 v6 v7 v8 v9 v10 v11 v12 v13 v14 v15 v16 v17 v18 v19 v20 v21 v22 v23 v24 v25 v26 v27 v28 : Value, act = ⟨#[s0, s1, s2, s3, .slice (some ⟨gm, 0, none⟩) 9 mc, s5, v28, s7, s8, s9, s10, s11, s12, s13, s14, s15, s16, s17, s18, v0, v1, v2, v3, v4, v5, v6, v7, v8, v9, v10, v11, v12, v13, v14, v15, v16, v17, v18, v19, v20, v21, v22, v23, v24, v25, v26, v27, s47, s48, s49, s50, s51, s52, s53, s54, s55, s56, s57, s58, s59, s60, s61, s62, s63, s64, s65, s66, s67, s68, s69, s70, s71, s72, s73, s74, s75, s76, s77, s78, s79, s80, s81, s82, s83, s84, s85, s86, s87, s88, s89, s90, s91], []⟩ ∧ KF gm mc W.drew D [v0, v1, v2, v3, v4, v5, v6, v7, v8, v9, v10, v11, v12, v13, v14, v15, v16, v17, v18, v19, v20, v21, v22, v23, v24, v25, v26, v27, v28] w)) :=
    ⟨fun D act w => ∃ v0 v1 v2 v3 v4 v5 v6 v7 v8 v9 v10 v11 v12 v13 v14 v15 v16 v17 v18 v19 v20 v21 v22 v23 v24 v25 v26 v27 v28 : Value, act = ⟨#[s0, s1, s2, s3, .slice (some ⟨gm, 0, none⟩) 9 mc, s5, v28, s7, s8, s9, s10, s11, s12, s13, s14, s15, s16, s17, s18, v0, v1, v2, v3, v4, v5, v6, v7, v8, v9, v10, v11, v12, v13, v14, v15, v16, v17, v18, v19, v20, v21, v22, v23, v24, v25, v26, v27, s47, s48, s49, s50, s51, s52, s53, s54, s55, s56, s57, s58, s59, s60, s61, s62, s63, s64, s65, s66, s67, s68, s69, s70, s71, s72, s73, s74, s75, s76, s77, s78, s79, s80, s81, s82, s83, s84, s85, s86, s87, s88, s89, s90, s91], []⟩ ∧ KF gm mc W.drew D [v0, v1, v2, v3, v4, v5, v6, v7, v8, v9, v10, v11, v12, v13, v14, v15, v16, v17, v18, v19, v20, v21, v22, v23, v24, v25, v26, v27, v28] w, fun D v0 v1 v2 v3 v4 v5 v6 v7 v8 v9 v10 v11 v12 v13 v14 v15 v16 v17 v18 v19 v20 v21 v22 v23 v24 v25 v26 v27 v28 w h => ⟨v0, v1, v2, v3, v4, v5, v6, v7, v8, v9, v10, v11, v12, v13, v14, v15, v16, v17, v18, v19, v20, v21, v22, v23, v24, v25, v26, v27, v28, rfl, h⟩, fun _ _ _ h => h⟩
  conv => arg 2; whnf
  refine wp_region_inv mixed (by kernel_rfl) J ?_ ?_ ?_
  · exact HJ.out.1 (fun _ => false) s19 s20 s21 s22 s23 s24 s25 s26 s27 s28 s29 s30 s31 s32 s33 s34 s35 s36 s37 s38 s39 s40 s41 s42 s43 s44 s45 s46 s6 _ ⟨Below.refl _ _, fun i x _ hd => by cases hd⟩
  · intro i o ho D act w hI hD haft
    obtain ⟨v0, v1, v2, v3, v4, v5, v6, v7, v8, v9, v10, v11, v12, v13, v14, v15, v16, v17, v18, v19, v20, v21, v22, v23, v24, v25, v26, v27, v28, rfl, hi⟩ := HJ.out.2 _ _ _ hI
    have HI := Lib.hid hi
    have HB := Lib.hid ((Below.refl W.heap.size W).drew.trans hi.bel)
    clear hi hI
    match i, ho with
    | 0, ho =>
      simp only [List.getElem?_toArray, List.getElem?_cons_succ, List.getElem?_cons_zero, Option.some.injEq] at ho
      subst ho
      have hbd : ∀ W : World, (Instr.build 39 #[]).run Tryd.prog W = .ok (.agg #[.int .i64 0, .int .i64 0, .int .i64 0, .slice none 0 0, .slice none 0 0]) W := fun W => run_build W 39 _ _ (by kernel_rfl)
      show wpOp Tryd.prog _ Q 0 (J (don D 0)) _ _
      unfold wpOp
      simp only [List.getElem?_toArray, List.getElem?_cons_succ, List.getElem?_cons_zero, Region.wanted, if_true]
      refine .inl ?_
      clear haft
      go_wp2
      exact HJ.out.1 (don D 0) (.agg #[.int .i64 0, .int .i64 0, .int .i64 0, .slice none 0 0, .slice none 0 0]) v1 v2 v3 v4 v5 v6 v7 v8 v9 v10 v11 v12 v13 v14 v15 v16 v17 v18 v19 v20 v21 v22 v23 v24 v25 v26 v27 v28 w (HI.out.put 0 (Below.refl _ _) ⟨0, 0, 0, none, [], 0, 0, none, [], 0, 0, rfl, ⟨(RowK.nil _ _ _), rfl, by decide, (RowO.nil _ _), rfl, by decide⟩, bad0⟩)
    | 1, ho =>
      simp only [List.getElem?_toArray, List.getElem?_cons_succ, List.getElem?_cons_zero, Option.some.injEq] at ho
      subst ho
      have hbd : ∀ W : World, (Instr.build 39 #[(1, .int .i64 1)]).run Tryd.prog W = .ok (.agg #[.int .i64 0, .int .i64 1, .int .i64 0, .slice none 0 0, .slice none 0 0]) W := fun W => run_build W 39 _ _ (by kernel_rfl)
      show wpOp Tryd.prog _ Q 1 (J (don D 1)) _ _
      unfold wpOp
      simp only [List.getElem?_toArray, List.getElem?_cons_succ, List.getElem?_cons_zero, Region.wanted, if_true]
      refine .inl ?_
      clear haft
      go_wp2
      exact HJ.out.1 (don D 1) v0 (.agg #[.int .i64 0, .int .i64 1, .int .i64 0, .slice none 0 0, .slice none 0 0]) v2 v3 v4 v5 v6 v7 v8 v9 v10 v11 v12 v13 v14 v15 v16 v17 v18 v19 v20 v21 v22 v23 v24 v25 v26 v27 v28 w (HI.out.put 1 (Below.refl _ _) ⟨0, 1, 0, none, [], 0, 0, none, [], 0, 0, rfl, ⟨(RowK.nil _ _ _), rfl, by decide, (RowO.nil _ _), rfl, by decide⟩, bad1⟩)
    | 2, ho =>
      simp only [List.getElem?_toArray, List.getElem?_cons_succ, List.getElem?_cons_zero, Option.some.injEq] at ho
      subst ho
      show wpOp Tryd.prog _ Q 2 (J (don D 2)) _ _
      unfold wpOp
      simp only [List.getElem?_toArray, List.getElem?_cons_succ, List.getElem?_cons_zero, Region.wanted, if_true]
      refine .inl ?_
      clear haft
      go_wp2
      exact HJ.out.1 (don D 2) v0 v1 (.slice (some ⟨w.heap.size, 0, none⟩) 1 1) v3 v4 v5 v6 v7 v8 v9 v10 v11 v12 v13 v14 v15 v16 v17 v18 v19 v20 v21 v22 v23 v24 v25 v26 v27 v28 (w.alloc (.cells #[.int .i64 1] 3)) (HI.out.put 2 (box_bel _ _) ⟨_, 1, rfl, one_row .i64 3 w 1⟩)
    | 3, ho =>
      simp only [List.getElem?_toArray, List.getElem?_cons_succ, List.getElem?_cons_zero, Option.some.injEq] at ho
      subst ho
      obtain ⟨ah, ch, rfl, hrh⟩ : RowI v2 w [1] 1 := HI.out.p 2 _ rfl (haft ⟨2, .data⟩ (by simp) rfl)
      have HRH := Lib.hid hrh
      clear hrh
      have hbd : ∀ W : World, (Instr.build 39 #[(1, .int .i64 1), (2, .int .i64 3), (3, .slice ah 1 ch)]).run Tryd.prog W = .ok (.agg #[.int .i64 0, .int .i64 1, .int .i64 3, .slice ah 1 ch, .slice none 0 0]) W := fun W => run_build W 39 _ _ (by kernel_rfl)
      show wpOp Tryd.prog _ Q 3 (J (don D 3)) _ _
      unfold wpOp
      simp only [List.getElem?_toArray, List.getElem?_cons_succ, List.getElem?_cons_zero, Region.wanted, if_true]
      refine .inl ?_
      clear haft
      go_wp2
      exact HJ.out.1 (don D 3) v0 v1 (.slice ah 1 ch) (.agg #[.int .i64 0, .int .i64 1, .int .i64 3, .slice ah 1 ch, .slice none 0 0]) v4 v5 v6 v7 v8 v9 v10 v11 v12 v13 v14 v15 v16 v17 v18 v19 v20 v21 v22 v23 v24 v25 v26 v27 v28 w (HI.out.put 3 (Below.refl _ _) ⟨0, 1, 3, ah, [1], 1, ch, none, [], 0, 0, rfl, ⟨HRH.out, rfl, by decide, (RowO.nil _ _), rfl, by decide⟩, bad3⟩)
    | 4, ho =>
      simp only [List.getElem?_toArray, List.getElem?_cons_succ, List.getElem?_cons_zero, Option.some.injEq] at ho
      subst ho
      show wpOp Tryd.prog _ Q 4 (J (don D 4)) _ _
      unfold wpOp
      simp only [List.getElem?_toArray, List.getElem?_cons_succ, List.getElem?_cons_zero, Region.wanted, if_true]
      refine .inl ?_
      clear haft
      go_wp2
      exact HJ.out.1 (don D 4) v0 v1 v2 v3 (.slice (some ⟨w.heap.size, 0, none⟩) 1 1) v5 v6 v7 v8 v9 v10 v11 v12 v13 v14 v15 v16 v17 v18 v19 v20 v21 v22 v23 v24 v25 v26 v27 v28 (w.alloc (.cells #[.int .i64 1] 3)) (HI.out.put 4 (box_bel _ _) ⟨_, 1, rfl, one_row .i64 3 w 1⟩)
    | 5, ho =>
      simp only [List.getElem?_toArray, List.getElem?_cons_succ, List.getElem?_cons_zero, Option.some.injEq] at ho
      subst ho
      obtain ⟨ah, ch, rfl, hrh⟩ : RowI v4 w [1] 1 := HI.out.p 4 _ rfl (haft ⟨4, .data⟩ (by simp) rfl)
      have HRH := Lib.hid hrh
      clear hrh
      have hbd : ∀ W : World, (Instr.build 39 #[(2, .int .i64 1), (3, .slice ah 1 ch)]).run Tryd.prog W = .ok (.agg #[.int .i64 0, .int .i64 0, .int .i64 1, .slice ah 1 ch, .slice none 0 0]) W := fun W => run_build W 39 _ _ (by kernel_rfl)
      show wpOp Tryd.prog _ Q 5 (J (don D 5)) _ _
      unfold wpOp
      simp only [List.getElem?_toArray, List.getElem?_cons_succ, List.getElem?_cons_zero, Region.wanted, if_true]
      refine .inl ?_
      clear haft
      go_wp2
      exact HJ.out.1 (don D 5) v0 v1 v2 v3 (.slice ah 1 ch) (.agg #[.int .i64 0, .int .i64 0, .int .i64 1, .slice ah 1 ch, .slice none 0 0]) v6 v7 v8 v9 v10 v11 v12 v13 v14 v15 v16 v17 v18 v19 v20 v21 v22 v23 v24 v25 v26 v27 v28 w (HI.out.put 5 (Below.refl _ _) ⟨0, 0, 1, ah, [1], 1, ch, none, [], 0, 0, rfl, ⟨HRH.out, rfl, by decide, (RowO.nil _ _), rfl, by decide⟩, bad5⟩)
    | 6, ho =>
      simp only [List.getElem?_toArray, List.getElem?_cons_succ, List.getElem?_cons_zero, Option.some.injEq] at ho
      subst ho
      show wpOp Tryd.prog _ Q 6 (J (don D 6)) _ _
      unfold wpOp
      simp only [List.getElem?_toArray, List.getElem?_cons_succ, List.getElem?_cons_zero, Region.wanted, if_true]
      refine .inl ?_
      clear haft
      go_wp2
      exact HJ.out.1 (don D 6) v0 v1 v2 v3 v4 v5 (.slice (some ⟨w.heap.size, 0, none⟩) 1 1) v7 v8 v9 v10 v11 v12 v13 v14 v15 v16 v17 v18 v19 v20 v21 v22 v23 v24 v25 v26 v27 v28 (w.alloc (.cells #[.int .i64 1] 3)) (HI.out.put 6 (box_bel _ _) ⟨_, 1, rfl, one_row .i64 3 w 1⟩)
    | 7, ho =>
      simp only [List.getElem?_toArray, List.getElem?_cons_succ, List.getElem?_cons_zero, Option.some.injEq] at ho
      subst ho
      obtain ⟨ah, ch, rfl, hrh⟩ : RowI v6 w [1] 1 := HI.out.p 6 _ rfl (haft ⟨6, .data⟩ (by simp) rfl)
      have HRH := Lib.hid hrh
      clear hrh
      have hbd : ∀ W : World, (Instr.build 39 #[(1, .int .i64 16), (2, .int .i64 1), (3, .slice ah 1 ch)]).run Tryd.prog W = .ok (.agg #[.int .i64 0, .int .i64 16, .int .i64 1, .slice ah 1 ch, .slice none 0 0]) W := fun W => run_build W 39 _ _ (by kernel_rfl)
      show wpOp Tryd.prog _ Q 7 (J (don D 7)) _ _
      unfold wpOp
      simp only [List.getElem?_toArray, List.getElem?_cons_succ, List.getElem?_cons_zero, Region.wanted, if_true]
      refine .inl ?_
      clear haft
      go_wp2
      exact HJ.out.1 (don D 7) v0 v1 v2 v3 v4 v5 (.slice ah 1 ch) (.agg #[.int .i64 0, .int .i64 16, .int .i64 1, .slice ah 1 ch, .slice none 0 0]) v8 v9 v10 v11 v12 v13 v14 v15 v16 v17 v18 v19 v20 v21 v22 v23 v24 v25 v26 v27 v28 w (HI.out.put 7 (Below.refl _ _) ⟨0, 16, 1, ah, [1], 1, ch, none, [], 0, 0, rfl, ⟨HRH.out, rfl, by decide, (RowO.nil _ _), rfl, by decide⟩, bad7⟩)
    | 8, ho =>
      simp only [List.getElem?_toArray, List.getElem?_cons_succ, List.getElem?_cons_zero, Option.some.injEq] at ho
      subst ho
      show wpOp Tryd.prog _ Q 8 (J (don D 8)) _ _
      unfold wpOp
      simp only [List.getElem?_toArray, List.getElem?_cons_succ, List.getElem?_cons_zero, Region.wanted, if_true]
      refine .inl ?_
      clear haft
      go_wp2
      exact HJ.out.1 (don D 8) v0 v1 v2 v3 v4 v5 v6 v7 (.slice (some ⟨w.heap.size, 0, none⟩) 1 1) v9 v10 v11 v12 v13 v14 v15 v16 v17 v18 v19 v20 v21 v22 v23 v24 v25 v26 v27 v28 (w.alloc (.cells #[.int .i64 1] 3)) (HI.out.put 8 (box_bel _ _) ⟨_, 1, rfl, one_row .i64 3 w 1⟩)
    | 9, ho =>
      simp only [List.getElem?_toArray, List.getElem?_cons_succ, List.getElem?_cons_zero, Option.some.injEq] at ho
      subst ho
      obtain ⟨ah, ch, rfl, hrh⟩ : RowI v8 w [1] 1 := HI.out.p 8 _ rfl (haft ⟨8, .data⟩ (by simp) rfl)
      have HRH := Lib.hid hrh
      clear hrh
      have hbd : ∀ W : World, (Instr.build 39 #[(0, .int .i64 (-1)), (2, .int .i64 1), (3, .slice ah 1 ch)]).run Tryd.prog W = .ok (.agg #[.int .i64 (-1), .int .i64 0, .int .i64 1, .slice ah 1 ch, .slice none 0 0]) W := fun W => run_build W 39 _ _ (by kernel_rfl)
      show wpOp Tryd.prog _ Q 9 (J (don D 9)) _ _
      unfold wpOp
      simp only [List.getElem?_toArray, List.getElem?_cons_succ, List.getElem?_cons_zero, Region.wanted, if_true]
      refine .inl ?_
      clear haft
      go_wp2
      exact HJ.out.1 (don D 9) v0 v1 v2 v3 v4 v5 v6 v7 (.slice ah 1 ch) (.agg #[.int .i64 (-1), .int .i64 0, .int .i64 1, .slice ah 1 ch, .slice none 0 0]) v10 v11 v12 v13 v14 v15 v16 v17 v18 v19 v20 v21 v22 v23 v24 v25 v26 v27 v28 w (HI.out.put 9 (Below.refl _ _) ⟨(-1), 0, 1, ah, [1], 1, ch, none, [], 0, 0, rfl, ⟨HRH.out, rfl, by decide, (RowO.nil _ _), rfl, by decide⟩, bad9⟩)
    | 10, ho =>
      simp only [List.getElem?_toArray, List.getElem?_cons_succ, List.getElem?_cons_zero, Option.some.injEq] at ho
      subst ho
      have hbd : ∀ W : World, (Instr.build 39 #[(1, .int .i64 1), (2, .int .i64 1)]).run Tryd.prog W = .ok (.agg #[.int .i64 0, .int .i64 1, .int .i64 1, .slice none 0 0, .slice none 0 0]) W := fun W => run_build W 39 _ _ (by kernel_rfl)
      show wpOp Tryd.prog _ Q 10 (J (don D 10)) _ _
      unfold wpOp
      simp only [List.getElem?_toArray, List.getElem?_cons_succ, List.getElem?_cons_zero, Region.wanted, if_true]
      refine .inl ?_
      clear haft
      go_wp2
      exact HJ.out.1 (don D 10) v0 v1 v2 v3 v4 v5 v6 v7 v8 v9 (.agg #[.int .i64 0, .int .i64 1, .int .i64 1, .slice none 0 0, .slice none 0 0]) v11 v12 v13 v14 v15 v16 v17 v18 v19 v20 v21 v22 v23 v24 v25 v26 v27 v28 w (HI.out.put 10 (Below.refl _ _) ⟨0, 1, 1, none, [], 0, 0, none, [], 0, 0, rfl, ⟨(RowK.nil _ _ _), rfl, by decide, (RowO.nil _ _), rfl, by decide⟩, bad10⟩)
    | 11, ho =>
      simp only [List.getElem?_toArray, List.getElem?_cons_succ, List.getElem?_cons_zero, Option.some.injEq] at ho
      subst ho
      have hmk := make17F
      show wpOp Tryd.prog _ Q 11 (J (don D 11)) _ _
      unfold wpOp
      simp only [List.getElem?_toArray, List.getElem?_cons_succ, List.getElem?_cons_zero, Region.wanted, if_true]
      refine .inl ?_
      clear haft
      go_wp2
      exact HJ.out.1 (don D 11) v0 v1 v2 v3 v4 v5 v6 v7 v8 v9 v10 (.slice (some ⟨w.heap.size, 0, none⟩) 17 17) v12 v13 v14 v15 v16 v17 v18 v19 v20 v21 v22 v23 v24 v25 v26 v27 v28 (w.alloc (.cells Z17F 3)) (HI.out.put 11 (box_bel _ _) ⟨_, 17, rfl, row17 w⟩)
    | 12, ho =>
      simp only [List.getElem?_toArray, List.getElem?_cons_succ, List.getElem?_cons_zero, Option.some.injEq] at ho
      subst ho
      obtain ⟨ah, ch, rfl, hrh⟩ : RowI v11 w (List.replicate 17 0) 17 := HI.out.p 11 _ rfl (haft ⟨11, .data⟩ (by simp) rfl)
      have HRH := Lib.hid hrh
      clear hrh
      have hbd : ∀ W : World, (Instr.build 39 #[(1, .int .i64 1), (2, .int .i64 1), (3, .slice ah 17 ch)]).run Tryd.prog W = .ok (.agg #[.int .i64 0, .int .i64 1, .int .i64 1, .slice ah 17 ch, .slice none 0 0]) W := fun W => run_build W 39 _ _ (by kernel_rfl)
      show wpOp Tryd.prog _ Q 12 (J (don D 12)) _ _
      unfold wpOp
      simp only [List.getElem?_toArray, List.getElem?_cons_succ, List.getElem?_cons_zero, Region.wanted, if_true]
      refine .inl ?_
      clear haft
      go_wp2
      exact HJ.out.1 (don D 12) v0 v1 v2 v3 v4 v5 v6 v7 v8 v9 v10 (.slice ah 17 ch) (.agg #[.int .i64 0, .int .i64 1, .int .i64 1, .slice ah 17 ch, .slice none 0 0]) v13 v14 v15 v16 v17 v18 v19 v20 v21 v22 v23 v24 v25 v26 v27 v28 w (HI.out.put 12 (Below.refl _ _) ⟨0, 1, 1, ah, (List.replicate 17 0), 17, ch, none, [], 0, 0, rfl, ⟨HRH.out, rfl, by decide, (RowO.nil _ _), rfl, by decide⟩, bad12⟩)
    | 13, ho =>
      simp only [List.getElem?_toArray, List.getElem?_cons_succ, List.getElem?_cons_zero, Option.some.injEq] at ho
      subst ho
      have hbd : ∀ W : World, (Instr.build 39 #[(1, .int .i64 1), (2, .int .i64 2)]).run Tryd.prog W = .ok (.agg #[.int .i64 0, .int .i64 1, .int .i64 2, .slice none 0 0, .slice none 0 0]) W := fun W => run_build W 39 _ _ (by kernel_rfl)
      show wpOp Tryd.prog _ Q 13 (J (don D 13)) _ _
      unfold wpOp
      simp only [List.getElem?_toArray, List.getElem?_cons_succ, List.getElem?_cons_zero, Region.wanted, if_true]
      refine .inl ?_
      clear haft
      go_wp2
      exact HJ.out.1 (don D 13) v0 v1 v2 v3 v4 v5 v6 v7 v8 v9 v10 v11 v12 (.agg #[.int .i64 0, .int .i64 1, .int .i64 2, .slice none 0 0, .slice none 0 0]) v14 v15 v16 v17 v18 v19 v20 v21 v22 v23 v24 v25 v26 v27 v28 w (HI.out.put 13 (Below.refl _ _) ⟨0, 1, 2, none, [], 0, 0, none, [], 0, 0, rfl, ⟨(RowK.nil _ _ _), rfl, by decide, (RowO.nil _ _), rfl, by decide⟩, bad13⟩)
    | 14, ho =>
      simp only [List.getElem?_toArray, List.getElem?_cons_succ, List.getElem?_cons_zero, Option.some.injEq] at ho
      subst ho
      show wpOp Tryd.prog _ Q 14 (J (don D 14)) _ _
      unfold wpOp
      simp only [List.getElem?_toArray, List.getElem?_cons_succ, List.getElem?_cons_zero, Region.wanted, if_true]
      refine .inl ?_
      clear haft
      go_wp2
      exact HJ.out.1 (don D 14) v0 v1 v2 v3 v4 v5 v6 v7 v8 v9 v10 v11 v12 v13 (.slice (some ⟨gm, 0, none⟩) 9 mc) v15 v16 v17 v18 v19 v20 v21 v22 v23 v24 v25 v26 v27 v28 w (HI.out.put 14 (Below.refl _ _) rfl)
    | 15, ho =>
      simp only [List.getElem?_toArray, List.getElem?_cons_succ, List.getElem?_cons_zero, Option.some.injEq] at ho
      subst ho
      obtain rfl : v14 = .slice (some ⟨gm, 0, none⟩) 9 mc := HI.out.p 14 _ rfl (haft ⟨14, .data⟩ (by simp) rfl)
      have hbd : ∀ W : World, (Instr.build 39 #[(1, .int .i64 1), (2, .int .i64 2), (4, .slice (some ⟨gm, 0, none⟩) 9 mc)]).run Tryd.prog W = .ok (.agg #[.int .i64 0, .int .i64 1, .int .i64 2, .slice none 0 0, .slice (some ⟨gm, 0, none⟩) 9 mc]) W := fun W => run_build W 39 _ _ (by kernel_rfl)
      show wpOp Tryd.prog _ Q 15 (J (don D 15)) _ _
      unfold wpOp
      simp only [List.getElem?_toArray, List.getElem?_cons_succ, List.getElem?_cons_zero, Region.wanted, if_true]
      refine .inl ?_
      clear haft
      go_wp2
      exact HJ.out.1 (don D 15) v0 v1 v2 v3 v4 v5 v6 v7 v8 v9 v10 v11 v12 v13 (.slice (some ⟨gm, 0, none⟩) 9 mc) (.agg #[.int .i64 0, .int .i64 1, .int .i64 2, .slice none 0 0, .slice (some ⟨gm, 0, none⟩) 9 mc]) v16 v17 v18 v19 v20 v21 v22 v23 v24 v25 v26 v27 v28 w (HI.out.put 15 (Below.refl _ _) ⟨0, 1, 2, none, [], 0, 0, (some ⟨gm, 0, none⟩), (List.replicate 9 x0D), 9, mc, rfl, ⟨(RowK.nil _ _ _), rfl, by decide, (HRO.out.below HB.out), rfl, by decide⟩, bad15⟩)
    | 16, ho =>
      simp only [List.getElem?_toArray, List.getElem?_cons_succ, List.getElem?_cons_zero, Option.some.injEq] at ho
      subst ho
      show wpOp Tryd.prog _ Q 16 (J (don D 16)) _ _
      unfold wpOp
      simp only [List.getElem?_toArray, List.getElem?_cons_succ, List.getElem?_cons_zero, Region.wanted, if_true]
      refine .inl ?_
      clear haft
      go_wp2
      exact HJ.out.1 (don D 16) v0 v1 v2 v3 v4 v5 v6 v7 v8 v9 v10 v11 v12 v13 v14 v15 (.slice (some ⟨gm, 0, none⟩) 9 mc) v17 v18 v19 v20 v21 v22 v23 v24 v25 v26 v27 v28 w (HI.out.put 16 (Below.refl _ _) rfl)
    | 17, ho =>
      simp only [List.getElem?_toArray, List.getElem?_cons_succ, List.getElem?_cons_zero, Option.some.injEq] at ho
      subst ho
      obtain rfl : v16 = .slice (some ⟨gm, 0, none⟩) 9 mc := HI.out.p 16 _ rfl (haft ⟨16, .data⟩ (by simp) rfl)
      have hsl := fun W : World => slice37 W gm 9 mc 1 hmc1
      show wpOp Tryd.prog _ Q 17 (J (don D 17)) _ _
      unfold wpOp
      simp only [List.getElem?_toArray, List.getElem?_cons_succ, List.getElem?_cons_zero, Region.wanted, if_true]
      refine .inl ?_
      clear haft
      go_wp2
      exact HJ.out.1 (don D 17) v0 v1 v2 v3 v4 v5 v6 v7 v8 v9 v10 v11 v12 v13 v14 v15 (.slice (some ⟨gm, 0, none⟩) 9 mc) (.slice (some ⟨gm, 0, none⟩) 1 mc) v18 v19 v20 v21 v22 v23 v24 v25 v26 v27 v28 w (HI.out.put 17 (Below.refl _ _) rfl)
    | 18, ho =>
      simp only [List.getElem?_toArray, List.getElem?_cons_succ, List.getElem?_cons_zero, Option.some.injEq] at ho
      subst ho
      show wpOp Tryd.prog _ Q 18 (J (don D 18)) _ _
      unfold wpOp
      simp only [List.getElem?_toArray, List.getElem?_cons_succ, List.getElem?_cons_zero, Region.wanted, if_true]
      refine .inl ?_
      clear haft
      go_wp2
      exact HJ.out.1 (don D 18) v0 v1 v2 v3 v4 v5 v6 v7 v8 v9 v10 v11 v12 v13 v14 v15 v16 v17 (.slice (some ⟨w.heap.size, 0, none⟩) 1 1) v19 v20 v21 v22 v23 v24 v25 v26 v27 v28 (w.alloc (.cells #[.int .i64 1] 3)) (HI.out.put 18 (box_bel _ _) ⟨_, 1, rfl, one_row .i64 3 w 1⟩)
    | 19, ho =>
      simp only [List.getElem?_toArray, List.getElem?_cons_succ, List.getElem?_cons_zero, Option.some.injEq] at ho
      subst ho
      obtain ⟨ah, ch, rfl, hrh⟩ : RowI v18 w [1] 1 := HI.out.p 18 _ rfl (haft ⟨18, .data⟩ (by simp) rfl)
      have HRH := Lib.hid hrh
      clear hrh
      obtain rfl : v17 = .slice (some ⟨gm, 0, none⟩) 1 mc := HI.out.p 17 _ rfl (haft ⟨17, .data⟩ (by simp) rfl)
      have hbd : ∀ W : World, (Instr.build 39 #[(1, .int .i64 1), (2, .int .i64 2), (4, .slice (some ⟨gm, 0, none⟩) 1 mc), (3, .slice ah 1 ch)]).run Tryd.prog W = .ok (.agg #[.int .i64 0, .int .i64 1, .int .i64 2, .slice ah 1 ch, .slice (some ⟨gm, 0, none⟩) 1 mc]) W := fun W => run_build W 39 _ _ (by kernel_rfl)
      show wpOp Tryd.prog _ Q 19 (J (don D 19)) _ _
      unfold wpOp
      simp only [List.getElem?_toArray, List.getElem?_cons_succ, List.getElem?_cons_zero, Region.wanted, if_true]
      refine .inl ?_
      clear haft
      go_wp2
      exact HJ.out.1 (don D 19) v0 v1 v2 v3 v4 v5 v6 v7 v8 v9 v10 v11 v12 v13 v14 v15 v16 (.slice (some ⟨gm, 0, none⟩) 1 mc) (.slice ah 1 ch) (.agg #[.int .i64 0, .int .i64 1, .int .i64 2, .slice ah 1 ch, .slice (some ⟨gm, 0, none⟩) 1 mc]) v20 v21 v22 v23 v24 v25 v26 v27 v28 w (HI.out.put 19 (Below.refl _ _) ⟨0, 1, 2, ah, [1], 1, ch, (some ⟨gm, 0, none⟩), [x0D], 1, mc, rfl, ⟨HRH.out, rfl, by decide, (rowO_first (HRO.out.below HB.out)), rfl, by decide⟩, bad19⟩)
    | 20, ho =>
      simp only [List.getElem?_toArray, List.getElem?_cons_succ, List.getElem?_cons_zero, Option.some.injEq] at ho
      subst ho
      show wpOp Tryd.prog _ Q 20 (J (don D 20)) _ _
      unfold wpOp
      simp only [List.getElem?_toArray, List.getElem?_cons_succ, List.getElem?_cons_zero, Region.wanted, if_true]
      refine .inl ?_
      clear haft
      go_wp2
      exact HJ.out.1 (don D 20) v0 v1 v2 v3 v4 v5 v6 v7 v8 v9 v10 v11 v12 v13 v14 v15 v16 v17 v18 v19 (.slice (some ⟨gm, 0, none⟩) 9 mc) v21 v22 v23 v24 v25 v26 v27 v28 w (HI.out.put 20 (Below.refl _ _) rfl)
    | 21, ho =>
      simp only [List.getElem?_toArray, List.getElem?_cons_succ, List.getElem?_cons_zero, Option.some.injEq] at ho
      subst ho
      obtain rfl : v20 = .slice (some ⟨gm, 0, none⟩) 9 mc := HI.out.p 20 _ rfl (haft ⟨20, .data⟩ (by simp) rfl)
      have hsl := fun W : World => slice37 W gm 9 mc 1 hmc1
      show wpOp Tryd.prog _ Q 21 (J (don D 21)) _ _
      unfold wpOp
      simp only [List.getElem?_toArray, List.getElem?_cons_succ, List.getElem?_cons_zero, Region.wanted, if_true]
      refine .inl ?_
      clear haft
      go_wp2
      exact HJ.out.1 (don D 21) v0 v1 v2 v3 v4 v5 v6 v7 v8 v9 v10 v11 v12 v13 v14 v15 v16 v17 v18 v19 (.slice (some ⟨gm, 0, none⟩) 9 mc) (.slice (some ⟨gm, 0, none⟩) 1 mc) v22 v23 v24 v25 v26 v27 v28 w (HI.out.put 21 (Below.refl _ _) rfl)
    | 22, ho =>
      simp only [List.getElem?_toArray, List.getElem?_cons_succ, List.getElem?_cons_zero, Option.some.injEq] at ho
      subst ho
      show wpOp Tryd.prog _ Q 22 (J (don D 22)) _ _
      unfold wpOp
      simp only [List.getElem?_toArray, List.getElem?_cons_succ, List.getElem?_cons_zero, Region.wanted, if_true]
      refine .inl ?_
      clear haft
      go_wp2
      exact HJ.out.1 (don D 22) v0 v1 v2 v3 v4 v5 v6 v7 v8 v9 v10 v11 v12 v13 v14 v15 v16 v17 v18 v19 v20 v21 (.slice (some ⟨w.heap.size, 0, none⟩) 1 1) v23 v24 v25 v26 v27 v28 (w.alloc (.cells #[.int .i64 1] 3)) (HI.out.put 22 (box_bel _ _) ⟨_, 1, rfl, one_row .i64 3 w 1⟩)
    | 23, ho =>
      simp only [List.getElem?_toArray, List.getElem?_cons_succ, List.getElem?_cons_zero, Option.some.injEq] at ho
      subst ho
      obtain ⟨ah, ch, rfl, hrh⟩ : RowI v22 w [1] 1 := HI.out.p 22 _ rfl (haft ⟨22, .data⟩ (by simp) rfl)
      have HRH := Lib.hid hrh
      clear hrh
      obtain rfl : v21 = .slice (some ⟨gm, 0, none⟩) 1 mc := HI.out.p 21 _ rfl (haft ⟨21, .data⟩ (by simp) rfl)
      have hbd : ∀ W : World, (Instr.build 39 #[(1, .int .i64 1), (2, .int .i64 1), (4, .slice (some ⟨gm, 0, none⟩) 1 mc), (3, .slice ah 1 ch)]).run Tryd.prog W = .ok (.agg #[.int .i64 0, .int .i64 1, .int .i64 1, .slice ah 1 ch, .slice (some ⟨gm, 0, none⟩) 1 mc]) W := fun W => run_build W 39 _ _ (by kernel_rfl)
      show wpOp Tryd.prog _ Q 23 (J (don D 23)) _ _
      unfold wpOp
      simp only [List.getElem?_toArray, List.getElem?_cons_succ, List.getElem?_cons_zero, Region.wanted, if_true]
      refine .inl ?_
      clear haft
      go_wp2
      exact HJ.out.1 (don D 23) v0 v1 v2 v3 v4 v5 v6 v7 v8 v9 v10 v11 v12 v13 v14 v15 v16 v17 v18 v19 v20 (.slice (some ⟨gm, 0, none⟩) 1 mc) (.slice ah 1 ch) (.agg #[.int .i64 0, .int .i64 1, .int .i64 1, .slice ah 1 ch, .slice (some ⟨gm, 0, none⟩) 1 mc]) v24 v25 v26 v27 v28 w (HI.out.put 23 (Below.refl _ _) ⟨0, 1, 1, ah, [1], 1, ch, (some ⟨gm, 0, none⟩), [x0D], 1, mc, rfl, ⟨HRH.out, rfl, by decide, (rowO_first (HRO.out.below HB.out)), rfl, by decide⟩, bad23⟩)
    | 24, ho =>
      simp only [List.getElem?_toArray, List.getElem?_cons_succ, List.getElem?_cons_zero, Option.some.injEq] at ho
      subst ho
      have hbd : ∀ W : World, (Instr.build 27 #[]).run Tryd.prog W = .ok (.agg #[.int .i64 0, .int .i64 0, .int .i64 0, .slice none 0 0, .int .i64 0, .int .i64 0, .int .i64 0, .int .i64 0, .int .i64 0, .string ⟨#[]⟩, .int .i64 0, .int .i64 0]) W := fun W => run_build W 27 _ _ (by kernel_rfl)
      show wpOp Tryd.prog _ Q 24 (J (don D 24)) _ _
      unfold wpOp
      simp only [List.getElem?_toArray, List.getElem?_cons_succ, List.getElem?_cons_zero, Region.wanted, if_true]
      refine .inl ?_
      clear haft
      go_wp2
      exact HJ.out.1 (don D 24) v0 v1 v2 v3 v4 v5 v6 v7 v8 v9 v10 v11 v12 v13 v14 v15 v16 v17 v18 v19 v20 v21 v22 v23 (.agg #[.int .i64 0, .int .i64 0, .int .i64 0, .slice none 0 0, .int .i64 0, .int .i64 0, .int .i64 0, .int .i64 0, .int .i64 0, .string ⟨#[]⟩, .int .i64 0, .int .i64 0]) v25 v26 v27 v28 w (HI.out.put 24 (Below.refl _ _) rfl)
    | 25, ho =>
      simp only [List.getElem?_toArray, List.getElem?_cons_succ, List.getElem?_cons_zero, Option.some.injEq] at ho
      subst ho
      obtain rfl : v24 = .agg #[.int .i64 0, .int .i64 0, .int .i64 0, .slice none 0 0, .int .i64 0, .int .i64 0, .int .i64 0, .int .i64 0, .int .i64 0, .string ⟨#[]⟩, .int .i64 0, .int .i64 0] := HI.out.p 24 _ rfl (haft ⟨24, .data⟩ (by simp) rfl)
      show wpOp Tryd.prog _ Q 25 (J (don D 25)) _ _
      unfold wpOp
      simp only [List.getElem?_toArray, List.getElem?_cons_succ, List.getElem?_cons_zero, Region.wanted, if_true]
      refine .inl ?_
      clear haft
      go_wp2
      exact HJ.out.1 (don D 25) v0 v1 v2 v3 v4 v5 v6 v7 v8 v9 v10 v11 v12 v13 v14 v15 v16 v17 v18 v19 v20 v21 v22 v23 (.agg #[.int .i64 0, .int .i64 0, .int .i64 0, .slice none 0 0, .int .i64 0, .int .i64 0, .int .i64 0, .int .i64 0, .int .i64 0, .string ⟨#[]⟩, .int .i64 0, .int .i64 0]) (.slice (some ⟨w.heap.size, 0, none⟩) 1 1) v26 v27 v28 (w.alloc (.cells #[.int .i64 0, .int .i64 0, .int .i64 0, .slice none 0 0, .int .i64 0, .int .i64 0, .int .i64 0, .int .i64 0, .int .i64 0, .string ⟨#[]⟩, .int .i64 0, .int .i64 0] 27)) (HI.out.put 25 (box_bel _ _) ⟨_, 1, rfl, rowO_z w⟩)
    | 26, ho =>
      simp only [List.getElem?_toArray, List.getElem?_cons_succ, List.getElem?_cons_zero, Option.some.injEq] at ho
      subst ho
      obtain ⟨az, cz, rfl, hrz⟩ : RowZ v25 w := HI.out.p 25 _ rfl (haft ⟨25, .data⟩ (by simp) rfl)
      have HRZ := Lib.hid hrz
      clear hrz
      have hbd : ∀ W : World, (Instr.build 39 #[(1, .int .i64 1), (2, .int .i64 2), (4, .slice az 1 cz)]).run Tryd.prog W = .ok (.agg #[.int .i64 0, .int .i64 1, .int .i64 2, .slice none 0 0, .slice az 1 cz]) W := fun W => run_build W 39 _ _ (by kernel_rfl)
      show wpOp Tryd.prog _ Q 26 (J (don D 26)) _ _
      unfold wpOp
      simp only [List.getElem?_toArray, List.getElem?_cons_succ, List.getElem?_cons_zero, Region.wanted, if_true]
      refine .inl ?_
      clear haft
      go_wp2
      exact HJ.out.1 (don D 26) v0 v1 v2 v3 v4 v5 v6 v7 v8 v9 v10 v11 v12 v13 v14 v15 v16 v17 v18 v19 v20 v21 v22 v23 v24 (.slice az 1 cz) (.agg #[.int .i64 0, .int .i64 1, .int .i64 2, .slice none 0 0, .slice az 1 cz]) v27 v28 w (HI.out.put 26 (Below.refl _ _) ⟨0, 1, 2, none, [], 0, 0, az, [xZ], 1, cz, rfl, ⟨(RowK.nil _ _ _), rfl, by decide, HRZ.out, rfl, by decide⟩, bad26⟩)
    | 27, ho =>
      simp only [List.getElem?_toArray, List.getElem?_cons_succ, List.getElem?_cons_zero, Option.some.injEq] at ho
      subst ho
      obtain ⟨f0, t0, k0, ha0, hs0, hn0, hc0, oa0, os0, on0, oc0, rfl, hfr0, hb0⟩ : BadF v0 w := HI.out.p 0 _ rfl (haft ⟨0, .data⟩ (by simp) rfl)
      have HF0 := Lib.hid hfr0
      clear hfr0
      obtain ⟨f1, t1, k1, ha1, hs1, hn1, hc1, oa1, os1, on1, oc1, rfl, hfr1, hb1⟩ : BadF v1 w := HI.out.p 1 _ rfl (haft ⟨1, .data⟩ (by simp) rfl)
      have HF1 := Lib.hid hfr1
      clear hfr1
      obtain ⟨f2, t2, k2, ha2, hs2, hn2, hc2, oa2, os2, on2, oc2, rfl, hfr2, hb2⟩ : BadF v3 w := HI.out.p 3 _ rfl (haft ⟨3, .data⟩ (by simp) rfl)
      have HF2 := Lib.hid hfr2
      clear hfr2
      obtain ⟨f3, t3, k3, ha3, hs3, hn3, hc3, oa3, os3, on3, oc3, rfl, hfr3, hb3⟩ : BadF v5 w := HI.out.p 5 _ rfl (haft ⟨5, .data⟩ (by simp) rfl)
      have HF3 := Lib.hid hfr3
      clear hfr3
      obtain ⟨f4, t4, k4, ha4, hs4, hn4, hc4, oa4, os4, on4, oc4, rfl, hfr4, hb4⟩ : BadF v7 w := HI.out.p 7 _ rfl (haft ⟨7, .data⟩ (by simp) rfl)
      have HF4 := Lib.hid hfr4
      clear hfr4
      obtain ⟨f5, t5, k5, ha5, hs5, hn5, hc5, oa5, os5, on5, oc5, rfl, hfr5, hb5⟩ : BadF v9 w := HI.out.p 9 _ rfl (haft ⟨9, .data⟩ (by simp) rfl)
      have HF5 := Lib.hid hfr5
      clear hfr5
      obtain ⟨f6, t6, k6, ha6, hs6, hn6, hc6, oa6, os6, on6, oc6, rfl, hfr6, hb6⟩ : BadF v10 w := HI.out.p 10 _ rfl (haft ⟨10, .data⟩ (by simp) rfl)
      have HF6 := Lib.hid hfr6
      clear hfr6
      obtain ⟨f7, t7, k7, ha7, hs7, hn7, hc7, oa7, os7, on7, oc7, rfl, hfr7, hb7⟩ : BadF v12 w := HI.out.p 12 _ rfl (haft ⟨12, .data⟩ (by simp) rfl)
      have HF7 := Lib.hid hfr7
      clear hfr7
      obtain ⟨f8, t8, k8, ha8, hs8, hn8, hc8, oa8, os8, on8, oc8, rfl, hfr8, hb8⟩ : BadF v13 w := HI.out.p 13 _ rfl (haft ⟨13, .data⟩ (by simp) rfl)
      have HF8 := Lib.hid hfr8
      clear hfr8
      obtain ⟨f9, t9, k9, ha9, hs9, hn9, hc9, oa9, os9, on9, oc9, rfl, hfr9, hb9⟩ : BadF v15 w := HI.out.p 15 _ rfl (haft ⟨15, .data⟩ (by simp) rfl)
      have HF9 := Lib.hid hfr9
      clear hfr9
      obtain ⟨f10, t10, k10, ha10, hs10, hn10, hc10, oa10, os10, on10, oc10, rfl, hfr10, hb10⟩ : BadF v19 w := HI.out.p 19 _ rfl (haft ⟨19, .data⟩ (by simp) rfl)
      have HF10 := Lib.hid hfr10
      clear hfr10
      obtain ⟨f11, t11, k11, ha11, hs11, hn11, hc11, oa11, os11, on11, oc11, rfl, hfr11, hb11⟩ : BadF v23 w := HI.out.p 23 _ rfl (haft ⟨23, .data⟩ (by simp) rfl)
      have HF11 := Lib.hid hfr11
      clear hfr11
      obtain ⟨f12, t12, k12, ha12, hs12, hn12, hc12, oa12, os12, on12, oc12, rfl, hfr12, hb12⟩ : BadF v26 w := HI.out.p 26 _ rfl (haft ⟨26, .data⟩ (by simp) rfl)
      have HF12 := Lib.hid hfr12
      clear hfr12
      show wpOp Tryd.prog _ Q 27 (J (don D 27)) _ _
      unfold wpOp
      simp only [List.getElem?_toArray, List.getElem?_cons_succ, List.getElem?_cons_zero, Region.wanted, if_true]
      refine .inl ?_
      clear haft
      go_wp2
      have hall : AllBad (.slice (some ⟨w.heap.size, 0, none⟩) 13 13) (w.alloc (.cells #[.int .i64 f0, .int .i64 t0, .int .i64 k0, .slice ha0 hn0 hc0, .slice oa0 on0 oc0, .int .i64 f1, .int .i64 t1, .int .i64 k1, .slice ha1 hn1 hc1, .slice oa1 on1 oc1, .int .i64 f2, .int .i64 t2, .int .i64 k2, .slice ha2 hn2 hc2, .slice oa2 on2 oc2, .int .i64 f3, .int .i64 t3, .int .i64 k3, .slice ha3 hn3 hc3, .slice oa3 on3 oc3, .int .i64 f4, .int .i64 t4, .int .i64 k4, .slice ha4 hn4 hc4, .slice oa4 on4 oc4, .int .i64 f5, .int .i64 t5, .int .i64 k5, .slice ha5 hn5 hc5, .slice oa5 on5 oc5, .int .i64 f6, .int .i64 t6, .int .i64 k6, .slice ha6 hn6 hc6, .slice oa6 on6 oc6, .int .i64 f7, .int .i64 t7, .int .i64 k7, .slice ha7 hn7 hc7, .slice oa7 on7 oc7, .int .i64 f8, .int .i64 t8, .int .i64 k8, .slice ha8 hn8 hc8, .slice oa8 on8 oc8, .int .i64 f9, .int .i64 t9, .int .i64 k9, .slice ha9 hn9 hc9, .slice oa9 on9 oc9, .int .i64 f10, .int .i64 t10, .int .i64 k10, .slice ha10 hn10 hc10, .slice oa10 on10 oc10, .int .i64 f11, .int .i64 t11, .int .i64 k11, .slice ha11 hn11 hc11, .slice oa11 on11 oc11, .int .i64 f12, .int .i64 t12, .int .i64 k12, .slice ha12 hn12 hc12, .slice oa12 on12 oc12] 39)) := by
        refine ⟨w.heap.size, 0, 13, rfl, fun j hj => ?_⟩
        match j, hj with
        | 0, _ => exact ⟨f0, t0, k0, ha0, hs0, hn0, hc0, oa0, os0, on0, oc0, ⟨by simp, by simp, by simp, by simp, by simp⟩, HF0.out.below (box_bel _ _), hb0⟩
        | 1, _ => exact ⟨f1, t1, k1, ha1, hs1, hn1, hc1, oa1, os1, on1, oc1, ⟨by simp, by simp, by simp, by simp, by simp⟩, HF1.out.below (box_bel _ _), hb1⟩
        | 2, _ => exact ⟨f2, t2, k2, ha2, hs2, hn2, hc2, oa2, os2, on2, oc2, ⟨by simp, by simp, by simp, by simp, by simp⟩, HF2.out.below (box_bel _ _), hb2⟩
        | 3, _ => exact ⟨f3, t3, k3, ha3, hs3, hn3, hc3, oa3, os3, on3, oc3, ⟨by simp, by simp, by simp, by simp, by simp⟩, HF3.out.below (box_bel _ _), hb3⟩
        | 4, _ => exact ⟨f4, t4, k4, ha4, hs4, hn4, hc4, oa4, os4, on4, oc4, ⟨by simp, by simp, by simp, by simp, by simp⟩, HF4.out.below (box_bel _ _), hb4⟩
        | 5, _ => exact ⟨f5, t5, k5, ha5, hs5, hn5, hc5, oa5, os5, on5, oc5, ⟨by simp, by simp, by simp, by simp, by simp⟩, HF5.out.below (box_bel _ _), hb5⟩
        | 6, _ => exact ⟨f6, t6, k6, ha6, hs6, hn6, hc6, oa6, os6, on6, oc6, ⟨by simp, by simp, by simp, by simp, by simp⟩, HF6.out.below (box_bel _ _), hb6⟩
        | 7, _ => exact ⟨f7, t7, k7, ha7, hs7, hn7, hc7, oa7, os7, on7, oc7, ⟨by simp, by simp, by simp, by simp, by simp⟩, HF7.out.below (box_bel _ _), hb7⟩
        | 8, _ => exact ⟨f8, t8, k8, ha8, hs8, hn8, hc8, oa8, os8, on8, oc8, ⟨by simp, by simp, by simp, by simp, by simp⟩, HF8.out.below (box_bel _ _), hb8⟩
        | 9, _ => exact ⟨f9, t9, k9, ha9, hs9, hn9, hc9, oa9, os9, on9, oc9, ⟨by simp, by simp, by simp, by simp, by simp⟩, HF9.out.below (box_bel _ _), hb9⟩
        | 10, _ => exact ⟨f10, t10, k10, ha10, hs10, hn10, hc10, oa10, os10, on10, oc10, ⟨by simp, by simp, by simp, by simp, by simp⟩, HF10.out.below (box_bel _ _), hb10⟩
        | 11, _ => exact ⟨f11, t11, k11, ha11, hs11, hn11, hc11, oa11, os11, on11, oc11, ⟨by simp, by simp, by simp, by simp, by simp⟩, HF11.out.below (box_bel _ _), hb11⟩
        | 12, _ => exact ⟨f12, t12, k12, ha12, hs12, hn12, hc12, oa12, os12, on12, oc12, ⟨by simp, by simp, by simp, by simp, by simp⟩, HF12.out.below (box_bel _ _), hb12⟩
      have hp := HI.out.put 27 (box_bel w _) (show PF gm mc 27 _ _ from hall)
      exact HJ.out.1 (don D 27) (.agg #[.int .i64 f0, .int .i64 t0, .int .i64 k0, .slice ha0 hn0 hc0, .slice oa0 on0 oc0]) (.agg #[.int .i64 f1, .int .i64 t1, .int .i64 k1, .slice ha1 hn1 hc1, .slice oa1 on1 oc1]) v2 (.agg #[.int .i64 f2, .int .i64 t2, .int .i64 k2, .slice ha2 hn2 hc2, .slice oa2 on2 oc2]) v4 (.agg #[.int .i64 f3, .int .i64 t3, .int .i64 k3, .slice ha3 hn3 hc3, .slice oa3 on3 oc3]) v6 (.agg #[.int .i64 f4, .int .i64 t4, .int .i64 k4, .slice ha4 hn4 hc4, .slice oa4 on4 oc4]) v8 (.agg #[.int .i64 f5, .int .i64 t5, .int .i64 k5, .slice ha5 hn5 hc5, .slice oa5 on5 oc5]) (.agg #[.int .i64 f6, .int .i64 t6, .int .i64 k6, .slice ha6 hn6 hc6, .slice oa6 on6 oc6]) v11 (.agg #[.int .i64 f7, .int .i64 t7, .int .i64 k7, .slice ha7 hn7 hc7, .slice oa7 on7 oc7]) (.agg #[.int .i64 f8, .int .i64 t8, .int .i64 k8, .slice ha8 hn8 hc8, .slice oa8 on8 oc8]) v14 (.agg #[.int .i64 f9, .int .i64 t9, .int .i64 k9, .slice ha9 hn9 hc9, .slice oa9 on9 oc9]) v16 v17 v18 (.agg #[.int .i64 f10, .int .i64 t10, .int .i64 k10, .slice ha10 hn10 hc10, .slice oa10 on10 oc10]) v20 v21 v22 (.agg #[.int .i64 f11, .int .i64 t11, .int .i64 k11, .slice ha11 hn11 hc11, .slice oa11 on11 oc11]) v24 v25 (.agg #[.int .i64 f12, .int .i64 t12, .int .i64 k12, .slice ha12 hn12 hc12, .slice oa12 on12 oc12]) (.slice (some ⟨w.heap.size, 0, none⟩) 13 13) v28 _ hp
    | 28, ho =>
      simp only [List.getElem?_toArray, List.getElem?_cons_succ, List.getElem?_cons_zero, Option.some.injEq] at ho
      subst ho
      have hq : AllBad v27 w := HI.out.p 27 _ rfl (haft ⟨27, .data⟩ (by simp) rfl)
      obtain ⟨g, o, c, rfl, hq2⟩ := hq
      have HQ2 : Hid (AllBad (.slice (some ⟨g, o, none⟩) 13 c) w) := ⟨g, o, c, rfl, hq2⟩
      clear hq2
      show wpOp Tryd.prog _ Q 28 (J (don D 28)) _ _
      unfold wpOp
      simp only [List.getElem?_toArray, List.getElem?_cons_succ, List.getElem?_cons_zero, Region.wanted, if_true]
      refine .inl ?_
      clear haft
      go_wp2
      exact HJ.out.1 (don D 28) v0 v1 v2 v3 v4 v5 v6 v7 v8 v9 v10 v11 v12 v13 v14 v15 v16 v17 v18 v19 v20 v21 v22 v23 v24 v25 v26 (.slice (some ⟨g, o, none⟩) 13 c) (.slice (some ⟨g, o, none⟩) 13 c) w (HI.out.put 28 (Below.refl _ _) HQ2.out)
    | n + 29, ho => simp at ho
  · intro D act w hI hall
    obtain ⟨v0, v1, v2, v3, v4, v5, v6, v7, v8, v9, v10, v11, v12, v13, v14, v15, v16, v17, v18, v19, v20, v21, v22, v23, v24, v25, v26, v27, v28, rfl, hi⟩ := HJ.out.2 _ _ _ hI
    exact HQ.out v0 v1 v2 v3 v4 v5 v6 v7 v8 v9 v10 v11 v12 v13 v14 v15 v16 v17 v18 v19 v20 v21 v22 v23 v24 v25 v26 v27 v28 w ((Below.refl _ W).drew.trans hi.bel) (hi.p 28 _ rfl (hall 28 (by decide)))
end Go.Proofs.YtabbbpmhmlapgaaDoor
