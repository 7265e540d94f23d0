/- Joined: TF1 TM1 TF2 TM2 TF3 TF4 TF0. -/
import Derived.Test.YtjlbpmmckgjajaaDoorZA
import Derived.Test.YtjlbpmmckgjajaaDoorZB
import Derived.Deep.AppendLies
import Derived.Test.YtjlbpmmckgjajaaDoorYG
import Derived.Test.YtjlbpmmckgjajaaDoorZF
import Derived.Maps.OwnSet
import Derived.Maps.OwnOps
import Derived.DeepKeys4
import Derived.BigRegion
import Derived.BigQuiet
import Derived.Laws.IdiomCopy

/- Rows of flat structs, of any kind: read and owned; one more, a row more behind them; an element written over. -/
namespace Go.Proofs.YtjlbpmmckgjajaaDoor
open Go.RowKit Go.Lib
set_option linter.unusedVariables false

/-- what is known of a flat struct: its cells, its types -/
structure Flat {α : Type} (e st : TypeId) (k bytes : Nat) (enc : α → List Value) : Prop where
  len : ∀ x, (enc x).length = k
  one : ∀ x, ∀ u ∈ enc x, u.oneCell' = true
  und : Tryd.prog.underlying st = some (.slice e)
  info : ∃ i z, Tryd.prog.info? e = some i ∧ i.zero = some z ∧ i.size = k ∧ i.bytes = bytes ∧ z.cells.size = k
  pos : 0 < k
  by1 : 1 ≤ bytes
section
variable {α : Type} {e st : TypeId} {k bytes : Nat} {enc : α → List Value}
/-- one at a place -/
def FAt (enc : α → List Value) (w : World) (b o : Nat) (x : α) : Prop := ∀ j u, (enc x)[j]? = some u → w.cell? ⟨b, o + j, none⟩ = some u
theorem FAt.below {w w' : World} {b o B : Nat} {x : α} (h : FAt enc w b o x) (hb : Below B w w') (hB : b < B) : FAt enc w' b o x := fun j u hu => (hb.cell (p := ⟨b, o + j, none⟩) hB).trans (h j u hu)
theorem FAt.lt {w : World} {b o : Nat} {x : α} (F : Flat e st k bytes enc) (h : FAt enc w b o x) : b < w.heap.size := by
  obtain ⟨u, hu⟩ : ∃ u, (enc x)[0]? = some u := ⟨_, List.getElem?_eq_getElem (by rw [F.len]; exact F.pos)⟩
  exact World.block_lt_of_cell? _ _ (h 0 u hu)
/-- a row of them, in a world -/
def RowF (k : Nat) (enc : α → List Value) (w : World) (a : Option Addr) (xs : List α) : Prop := ∀ (i : Nat) (x : α), xs[i]? = some x → ∃ b off, a = some ⟨b, off, none⟩ ∧ FAt enc w b (off + i * k) x
theorem RowF.nil (w : World) (a : Option Addr) : RowF k enc w a [] := fun i x hi => by simp at hi
theorem RowF.next (F : Flat e st k bytes enc) {w w' : World} {a : Option Addr} {xs : List α} (h : RowF k enc w a xs) (hb : Below w.heap.size w w') : RowF k enc w' a xs := fun i x hi => by
  obtain ⟨b, off, rfl, hc⟩ := h i x hi
  exact ⟨b, off, rfl, hc.below hb (hc.lt F)⟩
def partF (k : Nat) (a : Option Addr) (l cap : Nat) : Option Addr := if cap = l then a else a.map (·.add (l * k))
theorem RowF.rest {w : World} {a : Option Addr} {xs : List α} (h : RowF k enc w a xs) (l cap : Nat) (hn : xs.length ≤ cap) : RowF k enc w (partF k a l cap) (xs.drop l) := fun i x hi => by
  rw [List.getElem?_drop] at hi
  have hlt := (List.getElem?_eq_some_iff.1 hi).1
  obtain ⟨b, off, rfl, h1⟩ := h _ x hi
  refine ⟨b, off + l * k, ?_, ?_⟩
  · unfold partF
    rw [if_neg (by omega), Option.map_some, addr_add]
  · rw [show off + l * k + i * k = off + (l + i) * k by rw [Nat.add_mul]; omega]
    exact h1
theorem RowF.first {w : World} {a : Option Addr} {xs : List α} (h : RowF k enc w a xs) (l : Nat) : RowF k enc w a (xs.take l) := fun i x hi => by
  rw [List.getElem?_take] at hi
  split at hi
  · exact h i x hi
  · cases hi
theorem flat_len (F : Flat e st k bytes enc) : ∀ xs : List α, (xs.flatMap enc).length = xs.length * k
  | [] => by simp
  | x :: r => by
    rw [List.flatMap_cons, List.length_append, F.len, flat_len F r, List.length_cons, Nat.add_mul]
    omega
theorem flat_at (F : Flat e st k bytes enc) : ∀ {xs : List α} (i : Nat) {x : α}, xs[i]? = some x → ∀ j u, (enc x)[j]? = some u → (xs.flatMap enc)[i * k + j]? = some u
  | [], _, _, h, _, _, _ => by simp at h
  | y :: r, 0, x, hx, j, u, hu => by
    simp only [List.getElem?_cons_zero, Option.some.injEq] at hx
    subst hx
    have hj := (List.getElem?_eq_some_iff.1 hu).1
    rw [List.flatMap_cons, Nat.zero_mul, Nat.zero_add, List.getElem?_append_left hj]
    exact hu
  | y :: r, i + 1, x, hx, j, u, hu => by
    rw [List.getElem?_cons_succ] at hx
    have hk : (i + 1) * k + j = k + (i * k + j) := by rw [Nat.add_mul, Nat.one_mul]; omega
    rw [List.flatMap_cons, hk, List.getElem?_append_right (by rw [F.len]; omega), F.len, Nat.add_sub_cancel_left]
    exact flat_at F i hx j u hu
theorem flat_one (F : Flat e st k bytes enc) (xs : List α) : ∀ u ∈ xs.flatMap enc, u.oneCell' = true := fun u hu => by
  obtain ⟨x, _, hx⟩ := List.mem_flatMap.1 hu
  exact F.one x u hx
theorem RowF.cells (F : Flat e st k bytes enc) {w : World} {b off : Nat} {xs : List α} (h : RowF k enc w (some ⟨b, off, none⟩) xs) (j : Nat) (u : Value) (hu : (xs.flatMap enc)[j]? = some u) : w.cell? ⟨b, off + j, none⟩ = some u := by
  have hj := (List.getElem?_eq_some_iff.1 hu).1
  rw [flat_len F] at hj
  have hp := F.pos
  have hd : j / k * k + j % k = j := by rw [Nat.mul_comm]; exact Nat.div_add_mod j k
  have hm : j % k < k := Nat.mod_lt _ hp
  have hq : j / k < xs.length := Nat.div_lt_of_lt_mul (by rw [Nat.mul_comm]; exact hj)
  obtain ⟨x, hx⟩ : ∃ x, xs[j / k]? = some x := ⟨_, List.getElem?_eq_getElem hq⟩
  obtain ⟨b', off', e', hc⟩ := h _ x hx
  simp only [Option.some.injEq, Addr.mk.injEq] at e'
  obtain ⟨rfl, rfl, _⟩ := e'
  obtain ⟨v, hv⟩ : ∃ v, (enc x)[j % k]? = some v := ⟨_, List.getElem?_eq_getElem (by rw [F.len]; exact hm)⟩
  have h1 := flat_at F _ hx _ v hv
  rw [hd, hu] at h1
  injection h1 with h1
  have h2 := hc _ v hv
  rw [Nat.add_assoc, hd] at h2
  rw [h1]; exact h2
/-- a row of them that the call owns -/
def OwnF (e : TypeId) (k : Nat) (enc : α → List Value) (w : World) (base : Nat) (v : Value) (xs : List α) : Prop := w.ownsRow base e k v xs.length (xs.flatMap enc)
theorem OwnF.nil (w : World) (base : Nat) : OwnF e k enc w base (.slice none 0 0) [] := World.ownsRow_nil w base e k
theorem OwnF.grown {w w' : World} {base : Nat} {v : Value} {xs : List α} {row : Option Nat} (h : OwnF e k enc w base v xs) (hg : w.grownBy w' row) (hne : v.ownBlock = none ∨ v.ownBlock ≠ row) : OwnF e k enc w' base v xs := World.ownsRow.kept h hg hne
theorem OwnF.below {w w' : World} {base : Nat} {v : Value} {xs : List α} (h : OwnF e k enc w base v xs) (hb : Below w.heap.size w w') : OwnF e k enc w' base v xs := h.grown (row := none) ⟨hb.os, hb.tape, hb.output, hb.size, fun k hk _ => hb.block k hk⟩ (by cases h : v.ownBlock <;> simp)
theorem OwnF.belowB {w w' : World} {base B : Nat} {v : Value} {xs : List α} (h : OwnF e k enc w base v xs) (hb : Below B w w') (hB : ∀ g, v.ownBlock = some g → g < B) : OwnF e k enc w' base v xs := by
  refine ⟨h.1, ?_⟩
  rcases h.2 with hn | ⟨g, cap, cur, e1, h1, h2, h3⟩
  · exact .inl hn
  · exact .inr ⟨g, cap, cur, e1, h1, by rw [hb.block g (hB g (by rw [e1]; rfl))]; exact h2, h3⟩
theorem OwnF.mono {w : World} {base base' : Nat} {v : Value} {xs : List α} (h : OwnF e k enc w base v xs) (hb : base' ≤ base) : OwnF e k enc w base' v xs := by
  refine ⟨h.1, ?_⟩
  rcases h.2 with hn | ⟨g, cap, cur, e, h1, h2⟩
  · exact .inl hn
  · exact .inr ⟨g, cap, cur, e, by omega, h2⟩
theorem OwnF.lt {w : World} {base : Nat} {v : Value} {xs : List α} (h : OwnF e k enc w base v xs) {g : Nat} (hg : v.ownBlock = some g) : base ≤ g ∧ g < w.heap.size := World.ownsRow.lt h g hg
theorem OwnF.form (F : Flat e st k bytes enc) {w : World} {base : Nat} {v : Value} {xs : List α} (h : OwnF e k enc w base v xs) : ∃ a n cap, v = .slice a n cap ∧ n = xs.length ∧ n ≤ cap ∧ RowF k enc w a xs ∧ (0 < n → ∃ g, a = some ⟨g, 0, none⟩) := by
  rcases h.2 with ⟨rfl, h0⟩ | ⟨g, cap, cur, rfl, hg, hh, hn, hm, hs, ht⟩
  · refine ⟨none, 0, 0, rfl, h0.symm, Nat.le_refl _, ?_, fun h => absurd h (Nat.lt_irrefl _)⟩
    rw [List.eq_nil_of_length_eq_zero h0]
    exact RowF.nil _ _
  · refine ⟨_, _, cap, rfl, rfl, hn, fun i x hi => ⟨g, 0, rfl, fun j u hu => ?_⟩, fun _ => ⟨g, rfl⟩⟩
    have hc := World.ownsRow.cells h (g := g) rfl (i * k + j) u (flat_at F i hi j u hu)
    rw [addr_add] at hc
    rw [Nat.add_assoc]
    exact hc
theorem OwnF.far {w : World} {base g : Nat} {v : Value} {xs : List α} (h : OwnF e k enc w base v xs) (hg : g < base) (i : Nat) (u : Value) : OwnF e k enc (w.setCell ⟨g, i, none⟩ u) base v xs := by
  refine h.grown (grown_setCell w ⟨g, i, none⟩ u) ?_
  by_cases hn : v.ownBlock = some g
  · have := (h.lt hn).1
    omega
  · exact .inr hn
/-- cells written one behind the other -/
def setsF (w : World) (g o : Nat) : List Value → Nat → World
  | [], _ => w
  | u :: r, j => setsF (w.setCell ⟨g, o + j, none⟩ u) g o r (j + 1)
def setsL (cs : List Value) (o : Nat) : List Value → Nat → List Value
  | [], _ => cs
  | u :: r, j => setsL (cs.set (o + j) u) o r (j + 1)
theorem setsL_at (o : Nat) : ∀ (r : List Value) (cs : List Value) (j i : Nat), o + j + r.length ≤ cs.length → (setsL cs o r j)[i]? = if o + j ≤ i ∧ i < o + j + r.length then r[i - (o + j)]? else cs[i]?
  | [], cs, j, i, h => by
    rw [setsL, if_neg (by rw [List.length_nil]; omega)]
  | u :: r, cs, j, i, h => by
    rw [List.length_cons] at h
    rw [setsL, setsL_at o r _ (j + 1) i (by rw [List.length_set]; omega), List.getElem?_set, List.length_cons]
    by_cases h1 : o + (j + 1) ≤ i ∧ i < o + (j + 1) + r.length
    · rw [if_pos h1, if_pos (by omega)]
      obtain ⟨d, hd⟩ : ∃ d, i - (o + j) = d + 1 := ⟨i - (o + j) - 1, by omega⟩
      rw [hd, List.getElem?_cons_succ, show i - (o + (j + 1)) = d by omega]
    · rw [if_neg h1]
      by_cases h2 : o + j = i
      · rw [if_pos h2, if_pos (by omega), if_pos (by omega), show i - (o + j) = 0 by omega]; rfl
      · rw [if_neg h2, if_neg (by omega)]
theorem flat_set (F : Flat e st k bytes enc) {xs : List α} {i : Nat} (x : α) (hi : i < xs.length) : setsL (xs.flatMap enc) (i * k) (enc x) 0 = (xs.set i x).flatMap enc := by
  have hl := flat_len F xs
  have hl2 := flat_len F (xs.set i x)
  rw [List.length_set] at hl2
  have hik : i * k + k ≤ xs.length * k := by have := Nat.mul_le_mul_right k (show i + 1 ≤ xs.length from hi); rwa [Nat.add_mul, Nat.one_mul] at this
  apply List.ext_getElem?
  intro q
  rw [setsL_at _ _ _ 0 q (by rw [F.len, hl]; omega), F.len, Nat.add_zero]
  have hp := F.pos
  by_cases hq : q < xs.length * k
  · have hd : q / k * k + q % k = q := by rw [Nat.mul_comm]; exact Nat.div_add_mod q k
    have hm : q % k < k := Nat.mod_lt _ hp
    have hqk : q / k < xs.length := Nat.div_lt_of_lt_mul (by rw [Nat.mul_comm]; exact hq)
    by_cases e1 : q / k = i
    · have h1 : i * k ≤ q ∧ q < i * k + k := by rw [e1] at hd; omega
      rw [if_pos h1]
      obtain ⟨v, hv⟩ : ∃ v, (enc x)[q % k]? = some v := ⟨_, List.getElem?_eq_getElem (by rw [F.len]; exact hm)⟩
      have h2 := flat_at F (xs := xs.set i x) i (x := x) (by rw [List.getElem?_set, if_pos rfl, if_pos hi]) (q % k) v hv
      rw [show i * k + q % k = q by rw [e1] at hd; exact hd] at h2
      rw [h2, show q - i * k = q % k by rw [e1] at hd; omega]
      exact hv
    · have h1 : ¬ (i * k ≤ q ∧ q < i * k + k) := fun h => e1 (by
        have h3 : q / k < i + 1 := Nat.div_lt_of_lt_mul (by rw [Nat.mul_comm, Nat.add_mul, Nat.one_mul]; exact h.2)
        have h4 : i ≤ q / k := (Nat.le_div_iff_mul_le hp).2 h.1
        omega)
      rw [if_neg h1]
      obtain ⟨y, hy⟩ : ∃ y, xs[q / k]? = some y := ⟨_, List.getElem?_eq_getElem hqk⟩
      obtain ⟨v, hv⟩ : ∃ v, (enc y)[q % k]? = some v := ⟨_, List.getElem?_eq_getElem (by rw [F.len]; exact hm)⟩
      have h2 := flat_at F (q / k) hy _ v hv
      have h3 := flat_at F (xs := xs.set i x) (q / k) (x := y) (by rw [List.getElem?_set, if_neg (fun h => e1 h.symm)]; exact hy) _ v hv
      rw [hd] at h2 h3
      rw [h2, h3]
  · rw [if_neg (by omega), List.getElem?_eq_none (by omega), List.getElem?_eq_none (by omega)]
theorem ownsRow_sets {e : TypeId} {k : Nat} {base g n cap : Nat} (o : Nat) : ∀ (r : List Value) (j : Nat) {w : World} {cs : List Value}, w.ownsRow base e k (.slice (some ⟨g, 0, none⟩) n cap) n cs → (setsF w g o r j).ownsRow base e k (.slice (some ⟨g, 0, none⟩) n cap) n (setsL cs o r j) ∧ w.grownBy (setsF w g o r j) (some g)
  | [], j, w, cs, h => ⟨h, World.grownBy.refl _ _⟩
  | u :: r, j, w, cs, h => by
    have h1 := World.ownsRow.stored h (o + j) u
    have h2 := ownsRow_sets o r (j + 1) h1.1
    exact ⟨h2.1, h1.2.trans h2.2⟩
/-- an element written over -/
theorem OwnF.put (F : Flat e st k bytes enc) {w : World} {base g n cap i : Nat} {xs : List α} (h : OwnF e k enc w base (.slice (some ⟨g, 0, none⟩) n cap) xs) (hn : n = xs.length) (x : α) (hi : i < xs.length) : OwnF e k enc (setsF w g (i * k) (enc x) 0) base (.slice (some ⟨g, 0, none⟩) n cap) (xs.set i x) ∧ w.grownBy (setsF w g (i * k) (enc x) 0) (some g) := by
  subst hn
  have h1 := ownsRow_sets (i * k) (enc x) 0 h
  rw [flat_set F x hi] at h1
  refine ⟨?_, h1.2⟩
  unfold OwnF
  rw [List.length_set]
  exact h1.1
theorem OwnF.free {w : World} {base g n cap : Nat} {xs : List α} (h : OwnF e k enc w base (.slice (some ⟨g, 0, none⟩) n cap) xs) (hn : n = xs.length) (j : Nat) : w.frozen? ⟨g, j, none⟩ = false := by
  subst hn
  exact World.ownsRow.frozenAt h j
/-- what is told of the world behind more of them -/
structure GrewF (e : TypeId) (k : Nat) (enc : α → List Value) (base : Nat) (W : World) (v : Value) (xs ys : List α) (v' : Value) (w' : World) : Prop where
  own : OwnF e k enc w' base v' (xs ++ ys)
  gr : W.grownBy w' v.ownBlock
  old : OwnF e k enc W base v xs
  lies : v'.ownBlock = v.ownBlock ∨ ∃ g, v'.ownBlock = some g ∧ W.heap.size ≤ g
theorem GrewF.bel {base : Nat} {W w' : World} {v v' : Value} {xs ys : List α} (h : GrewF e k enc base W v xs ys v' w') {B : Nat} {a : World} (hb : Below B a W) (h1 : B ≤ base) (h2 : B ≤ W.heap.size) : Below B a w' := by
  refine hb.trans ⟨h.gr.os, h.gr.tape, h.gr.output, h.gr.size, fun k hk => h.gr.block k (by omega) fun e => ?_⟩
  have := (h.old.lt e.symm).1
  omega
theorem runF_row (F : Flat e st k bytes enc) {ty : TypeId} (base : Nat) (W W1 : World) (v : Value) (xs ys : List α) (a : Option Addr) (n c : Nat) (hB : W.grownBy W1 none) (hn : n = ys.length) (hown : OwnF e k enc W base v xs) (hx : RowF k enc W1 a ys) (hlen : (xs.length + ys.length) * bytes ≤ 140737488355328) (hbase : base ≤ W.heap.size) :
    ∃ v' w', (Builtin.append_ #[st, st] ty #[v, .slice a n c]).run Tryd.prog W1 = .ok v' w' ∧ GrewF e k enc base W v xs ys v' w' := by
  subst hn
  obtain ⟨i0, z0, hi, hz0, hz1, hz2, hz3⟩ := F.info
  have hown1 : OwnF e k enc W1 base v xs := hown.grown hB (by cases h : v.ownBlock <;> simp)
  have hWs := hB.size
  have hgr : ∀ w', W1.grownBy w' v.ownBlock → W.grownBy w' v.ownBlock := fun w' h => ⟨h.os.trans hB.os, h.tape.trans hB.tape, h.output.trans hB.output, Nat.le_trans hB.size h.size, fun k hk hne => (h.block k (Nat.lt_of_lt_of_le hk hB.size) hne).trans (hB.block k hk (by simp))⟩
  by_cases h0 : 0 < ys.length
  · obtain ⟨y, hy⟩ : ∃ y, ys[0]? = some y := ⟨_, List.getElem?_eq_getElem h0⟩
    obtain ⟨b, off, rfl, _⟩ := hx 0 y hy
    have hmax : xs.length + ys.length ≤ 140737488355328 := Nat.le_trans (Nat.le_mul_of_pos_right _ F.by1) hlen
    obtain ⟨v', w', hr, h2, h3, h4, h5⟩ := run_append_own_at (P := Tryd.prog) W1 base st ty e i0 z0 k bytes F.und hi hz0 hz1 hz2 hz3 F.pos v xs.length (xs.flatMap enc) hown1 ⟨b, off, none⟩ ys.length c (ys.flatMap enc) (flat_len F ys)
      (by
        intro j u hu
        rw [addr_add]
        exact hx.cells F j u hu)
      (flat_one F ys) (by unfold maxLen; omega) hlen (by omega)
    refine ⟨v', w', hr, ?_, hgr _ h3, hown, h5.imp id fun h => ⟨_, h, hWs⟩⟩
    unfold OwnF
    rw [List.length_append, List.flatMap_append]
    exact h2
  · have hy : ys = [] := List.eq_nil_of_length_eq_zero (by omega)
    subst hy
    have hf : ∀ (x : Option Addr), (Builtin.firstCells k 0 (.slice x 0 c)).run Tryd.prog W1 = .ok #[] W1 := by
      intro x; cases x <;> simp [Builtin.firstCells, loadCells, loadCellsFrom]
    have hrefl : W1.grownBy W1 v.ownBlock := World.grownBy.refl _ _
    rcases hown1.2 with ⟨rfl, hz⟩ | ⟨g, cap, cur, rfl, hg, hh, hnc, hm, hs, htk⟩
    · refine ⟨.slice none 0 0, W1, ?_, by rw [List.append_nil]; exact hown1, hgr _ hrefl, hown, .inl rfl⟩
      simp [Builtin.append_, run_underlying F.und, Go.sizeOf, typeInfo, hi, hz1, Builtin.lenOf, hf]
    · refine ⟨.slice (some ⟨g, 0, none⟩) xs.length cap, W1, ?_, by rw [List.append_nil]; exact hown1, hgr _ hrefl, hown, .inl rfl⟩
      simp [Builtin.append_, run_underlying F.und, Go.sizeOf, typeInfo, hi, hz1, Builtin.lenOf, hf, hnc, storeCells]
end
end Go.Proofs.YtjlbpmmckgjajaaDoor

/- Trees: mathematics: nodes in order, climbing, moves done and undone. -/
namespace Go.Proofs.YtjlbpmmckgjajaaDoor
open Go.RowKit Go.Lib
set_option linter.unusedVariables false

/-- a place -/
abbrev Pl := Int × Int
def ltP (a b : Pl) : Bool := decide (a.1 < b.1) || (decide (a.1 = b.1) && decide (a.2 < b.2))
theorem ltP_iff {a b : Pl} : ltP a b = true ↔ a.1 < b.1 ∨ (a.1 = b.1 ∧ a.2 < b.2) := by
  unfold ltP
  rw [Bool.or_eq_true, Bool.and_eq_true, decide_eq_true_eq, decide_eq_true_eq, decide_eq_true_eq]
theorem ltP_irr (a : Pl) : ltP a a = false := by
  rw [Bool.eq_false_iff]
  intro h
  rw [ltP_iff] at h
  omega
theorem ltP_trans {a b c : Pl} (h1 : ltP a b = true) (h2 : ltP b c = true) : ltP a c = true := by
  rw [ltP_iff] at *
  omega
theorem ltP_tri (a b : Pl) : ltP a b = true ∨ a = b ∨ ltP b a = true := by
  rw [ltP_iff, ltP_iff]
  by_cases h1 : a.1 = b.1
  · by_cases h2 : a.2 = b.2
    · exact .inr (.inl (Prod.ext h1 h2))
    · omega
  · omega
theorem ltP_ne {a b : Pl} (h : ltP a b = true) : a ≠ b := fun e => by
  rw [e, ltP_irr] at h
  cases h
/-- a node -/
structure ND where
  id : Pl
  par : Pl
  key : ByteArray
def findN (ns : List ND) (s : Pl) : Option ND := ns.find? (fun n => n.id == s)
theorem findN_nil (s : Pl) : findN [] s = none := rfl
theorem findN_cons (x : ND) (r : List ND) (s : Pl) : findN (x :: r) s = if x.id = s then some x else findN r s := by
  unfold findN
  rw [List.find?_cons]
  by_cases e : x.id = s
  · rw [if_pos e, show (x.id == s) = true by rw [beq_iff_eq]; exact e]
  · rw [if_neg e, show (x.id == s) = false by rw [beq_eq_false_iff_ne]; exact e]
theorem find_mem {ns : List ND} {s : Pl} {n : ND} (h : findN ns s = some n) : n ∈ ns ∧ n.id = s :=
  ⟨List.mem_of_find?_eq_some h, by have := List.find?_some h; rwa [beq_iff_eq] at this⟩
theorem find_none {ns : List ND} {s : Pl} (h : findN ns s = none) {n : ND} (hn : n ∈ ns) : n.id ≠ s := fun e => by
  have := List.find?_eq_none.1 h n hn
  rw [e] at this
  simp at this
/-- in the order of their IDs -/
def AscN (ns : List ND) : Prop := ns.Pairwise (fun a b => ltP a.id b.id = true)
theorem asc_find {ns : List ND} (h : AscN ns) {n : ND} (hn : n ∈ ns) : findN ns n.id = some n := by
  induction ns with
  | nil => simp at hn
  | cons x r ih =>
    obtain ⟨h1, h2⟩ := List.pairwise_cons.1 h
    rw [findN_cons]
    rcases List.mem_cons.1 hn with rfl | hn
    · rw [if_pos rfl]
    · rw [if_neg (ltP_ne (h1 n hn)), ih h2 hn]
theorem asc_head {x : ND} {r : List ND} (h : AscN (x :: r)) {s : Pl} (hs : ltP s x.id = true) : findN (x :: r) s = none := by
  obtain ⟨h1, h2⟩ := List.pairwise_cons.1 h
  unfold findN
  rw [List.find?_eq_none]
  intro n hn e
  rw [beq_iff_eq] at e
  rcases List.mem_cons.1 hn with rfl | hn
  · rw [e, ltP_irr] at hs; cases hs
  · have h3 := ltP_trans hs (h1 n hn)
    rw [e, ltP_irr] at h3; cases h3
theorem ascN_ext : ∀ {a b : List ND}, AscN a → AscN b → (∀ s, findN a s = findN b s) → a = b
  | [], [], _, _, _ => rfl
  | [], y :: b, _, hb, h => by
    have := h y.id
    rw [findN_nil, findN_cons, if_pos rfl] at this
    cases this
  | x :: a, [], ha, _, h => by
    have := h x.id
    rw [findN_nil, findN_cons, if_pos rfl] at this
    cases this
  | x :: a, y :: b, ha, hb, h => by
    have e : x.id = y.id := by
      rcases ltP_tri x.id y.id with hl | e | hl
      · have h1 := h x.id
        rw [findN_cons, if_pos rfl, asc_head hb hl] at h1
        cases h1
      · exact e
      · have h1 := h y.id
        rw [asc_head ha hl, findN_cons, if_pos rfl] at h1
        cases h1
    have exy : x = y := by
      have h1 := h x.id
      rw [findN_cons, if_pos rfl, findN_cons, if_pos e.symm] at h1
      injection h1
    subst exy
    obtain ⟨a1, a2⟩ := List.pairwise_cons.1 ha
    obtain ⟨b1, b2⟩ := List.pairwise_cons.1 hb
    rw [ascN_ext a2 b2 fun s => ?_]
    by_cases es : x.id = s
    · subst es
      have na : findN a x.id = none := by
        unfold findN
        rw [List.find?_eq_none]
        intro n hn e
        rw [beq_iff_eq] at e
        exact ltP_ne (a1 n hn) e.symm
      have nb : findN b x.id = none := by
        unfold findN
        rw [List.find?_eq_none]
        intro n hn e
        rw [beq_iff_eq] at e
        exact ltP_ne (b1 n hn) e.symm
      rw [na, nb]
    · have h1 := h s
      rwa [findN_cons, findN_cons, if_neg es, if_neg es] at h1
/-- a node laid among them -/
def putN : List ND → ND → List ND
  | [], n => [n]
  | x :: r, n => if x.id = n.id then n :: r else if ltP n.id x.id then n :: x :: r else x :: putN r n
theorem putN_find (n : ND) : ∀ (ns : List ND) (s : Pl), findN (putN ns n) s = if s = n.id then some n else findN ns s
  | [], s => by
    rw [putN, findN_cons]
    by_cases e : s = n.id
    · rw [if_pos e, if_pos e.symm]
    · rw [if_neg e, if_neg (fun h => e h.symm)]
  | x :: r, s => by
    rw [putN]
    by_cases e : x.id = n.id
    · rw [if_pos e, findN_cons, findN_cons]
      by_cases es : s = n.id
      · rw [if_pos es, if_pos es.symm]
      · rw [if_neg es, if_neg (fun h => es h.symm), if_neg (fun h => es (by rw [← h, e]))]
    · rw [if_neg e]
      by_cases hl : ltP n.id x.id = true
      · rw [if_pos hl, findN_cons]
        by_cases es : s = n.id
        · rw [if_pos es, if_pos es.symm]
        · rw [if_neg es, if_neg (fun h => es h.symm)]
      · rw [if_neg hl, findN_cons, putN_find n r s, findN_cons]
        by_cases es : s = n.id
        · rw [if_pos es, if_neg (fun h => e (by rw [h, es])), if_pos es]
        · rw [if_neg es, if_neg es]
theorem putN_mem {n : ND} : ∀ {ns : List ND} {y : ND}, y ∈ putN ns n → y = n ∨ y ∈ ns
  | [], y, h => by rw [putN, List.mem_singleton] at h; exact .inl h
  | x :: r, y, h => by
    rw [putN] at h
    by_cases e : x.id = n.id
    · rw [if_pos e] at h
      rcases List.mem_cons.1 h with h | h
      · exact .inl h
      · exact .inr (List.mem_cons_of_mem _ h)
    · rw [if_neg e] at h
      by_cases hl : ltP n.id x.id = true
      · rw [if_pos hl] at h
        rcases List.mem_cons.1 h with h | h
        · exact .inl h
        · exact .inr h
      · rw [if_neg hl] at h
        rcases List.mem_cons.1 h with h | h
        · exact .inr (by rw [h]; exact List.mem_cons_self ..)
        · rcases putN_mem h with h | h
          · exact .inl h
          · exact .inr (List.mem_cons_of_mem _ h)
theorem putN_asc {n : ND} : ∀ {ns : List ND}, AscN ns → AscN (putN ns n)
  | [], _ => List.pairwise_singleton _ _
  | x :: r, h => by
    obtain ⟨h1, h2⟩ := List.pairwise_cons.1 h
    rw [putN]
    by_cases e : x.id = n.id
    · rw [if_pos e]
      exact List.pairwise_cons.2 ⟨fun y hy => by rw [← e]; exact h1 y hy, h2⟩
    · rw [if_neg e]
      by_cases hl : ltP n.id x.id = true
      · rw [if_pos hl]
        refine List.pairwise_cons.2 ⟨fun y hy => ?_, h⟩
        rcases List.mem_cons.1 hy with rfl | hy
        · exact hl
        · exact ltP_trans hl (h1 y hy)
      · rw [if_neg hl]
        refine List.pairwise_cons.2 ⟨fun y hy => ?_, putN_asc h2⟩
        rcases putN_mem hy with rfl | hy
        · rcases ltP_tri x.id y.id with h3 | h3 | h3
          · exact h3
          · exact absurd h3 e
          · exact absurd h3 hl
        · exact h1 y hy
def dropN (ns : List ND) (s : Pl) : List ND := ns.filter (fun n => n.id != s)
theorem dropN_asc {ns : List ND} (h : AscN ns) (s : Pl) : AscN (dropN ns s) := List.Pairwise.filter _ h
theorem dropN_find (s : Pl) : ∀ (ns : List ND) (u : Pl), findN (dropN ns s) u = if u = s then none else findN ns u
  | [], u => by
    show findN [] u = _
    rw [findN_nil]
    by_cases e : u = s
    · rw [if_pos e]
    · rw [if_neg e]
  | x :: r, u => by
    have ih := dropN_find s r u
    unfold dropN at ih ⊢
    by_cases e : x.id = s
    · rw [List.filter_cons_of_neg (by simp [e]), ih, findN_cons]
      by_cases eu : u = s
      · rw [if_pos eu, if_pos eu]
      · rw [if_neg eu, if_neg eu, if_neg (fun h => eu (by rw [← h, e]))]
    · rw [List.filter_cons_of_pos (by simp [e]), findN_cons, ih, findN_cons]
      by_cases eu : u = s
      · rw [if_pos eu, if_neg (fun h => e (by rw [h, eu])), if_pos eu]
      · rw [if_neg eu, if_neg eu]

/-- does one stand at a place, or above it? by so many steps -/
def overG (ns : List ND) (id : Pl) : Nat → Pl → Bool
  | 0, _ => true
  | k + 1, s => if s = id then true else match findN ns s with | none => false | some n => overG ns id k n.par
/-- what a move did -/
structure ED where
  op : OpD
  was : Bool
  par : Pl
  key : ByteArray
  idle : Bool
abbrev nodeO (o : OpD) : Pl := (o.1.nt, o.1.nr)
abbrev parO (o : OpD) : Pl := (o.1.pt, o.1.pr)
def idleG (ns : List ND) (o : OpD) : Bool := overG ns (nodeO o) (ns.length + 1) (parO o)
def entG (ns : List ND) (o : OpD) : ED := match findN ns (nodeO o) with
  | some n => ⟨o, true, n.par, n.key, idleG ns o⟩
  | none => ⟨o, false, (0, 0), ⟨#[]⟩, idleG ns o⟩
def doneG (ns : List ND) (o : OpD) : List ND := if idleG ns o then ns else putN ns ⟨nodeO o, parO o, o.1.s⟩
def madeG : List OpD → List ND → List ND × List ED
  | [], ns => (ns, [])
  | o :: l, ns => ((madeG l (doneG ns o)).1, entG ns o :: (madeG l (doneG ns o)).2)
theorem madeG_append : ∀ (l l' : List OpD) (ns : List ND), madeG (l ++ l') ns = ((madeG l' (madeG l ns).1).1, (madeG l ns).2 ++ (madeG l' (madeG l ns).1).2)
  | [], l', ns => rfl
  | o :: l, l', ns => by
    rw [List.cons_append, madeG, madeG_append l l' (doneG ns o)]
    rfl
theorem madeG_len : ∀ (l : List OpD) (ns : List ND), (madeG l ns).2.length = l.length
  | [], _ => rfl
  | o :: l, ns => by rw [madeG, List.length_cons, List.length_cons, madeG_len l]
theorem entG_op (ns : List ND) (o : OpD) : (entG ns o).op = o := by
  unfold entG
  split <;> rfl
theorem entG_idle (ns : List ND) (o : OpD) : (entG ns o).idle = idleG ns o := by
  unfold entG
  split <;> rfl
theorem madeG_ops : ∀ (l : List OpD) (ns : List ND), (madeG l ns).2.map ED.op = l
  | [], _ => rfl
  | o :: l, ns => by rw [madeG, List.map_cons, entG_op, madeG_ops l]
def undoG (ns : List ND) (e : ED) : List ND := if e.was then putN ns ⟨nodeO e.op, e.par, e.key⟩ else dropN ns (nodeO e.op)
theorem done_asc {ns : List ND} (h : AscN ns) (o : OpD) : AscN (doneG ns o) := by
  unfold doneG
  split
  · exact h
  · exact putN_asc h
theorem made_asc : ∀ (l : List OpD) {ns : List ND}, AscN ns → AscN (madeG l ns).1
  | [], _, h => h
  | o :: l, ns, h => made_asc l (done_asc h o)
theorem undo_asc {ns : List ND} (h : AscN ns) (e : ED) : AscN (undoG ns e) := by
  unfold undoG
  split
  · exact putN_asc h
  · exact dropN_asc h _
theorem undo_done {ns : List ND} (h : AscN ns) (o : OpD) : undoG (doneG ns o) (entG ns o) = ns := by
  apply ascN_ext (undo_asc (done_asc h o) _) h
  intro s
  have hd : findN (doneG ns o) s = if s = nodeO o ∧ idleG ns o = false then some ⟨nodeO o, parO o, o.1.s⟩ else findN ns s := by
    unfold doneG
    cases hi : idleG ns o
    · rw [if_neg (by decide), putN_find]
      by_cases e : s = nodeO o
      · rw [if_pos e, if_pos ⟨e, rfl⟩]
      · rw [if_neg e, if_neg (fun h => e h.1)]
    · rw [if_pos rfl, if_neg (fun h => by cases h.2)]
  unfold undoG entG
  cases hf : findN ns (nodeO o) with
  | some n =>
    show findN (if true = true then putN (doneG ns o) ⟨nodeO o, n.par, n.key⟩ else _) s = _
    rw [if_pos rfl, putN_find, hd]
    by_cases e : s = nodeO o
    · show (if s = nodeO o then _ else _) = _
      rw [if_pos e, e, hf]
      obtain ⟨_, h2⟩ := find_mem hf
      rw [← h2]
    · show (if s = nodeO o then _ else _) = _
      rw [if_neg e, if_neg (fun h => e h.1)]
  | none =>
    show findN (if false = true then _ else dropN (doneG ns o) (nodeO o)) s = _
    rw [if_neg (by decide), dropN_find, hd]
    by_cases e : s = nodeO o
    · rw [if_pos e, e, hf]
    · rw [if_neg e, if_neg (fun h => e h.1)]

/-- does the way up end within so many steps? -/
def ends (ns : List ND) : Nat → Pl → Bool
  | 0, s => (findN ns s).isNone
  | k + 1, s => match findN ns s with | none => true | some n => ends ns k n.par
/-- each way up ends -/
def Acyc (ns : List ND) : Prop := ∀ s, ∃ k, ends ns k s = true
theorem ends_none {ns : List ND} {s : Pl} (h : findN ns s = none) : ∀ k, ends ns k s = true
  | 0 => by rw [ends, h]; rfl
  | k + 1 => by rw [ends, h]
theorem ends_succ {ns : List ND} {s : Pl} {n : ND} (h : findN ns s = some n) (k : Nat) : ends ns (k + 1) s = ends ns k n.par := by rw [ends, h]
theorem ends_zero {ns : List ND} {s : Pl} {n : ND} (h : findN ns s = some n) : ends ns 0 s = false := by rw [ends, h]; rfl
theorem ends_more {ns : List ND} : ∀ {k : Nat} {s : Pl} (j : Nat), ends ns k s = true → ends ns (k + j) s = true
  | 0, s, j, h => by
    rw [ends, Option.isNone_iff_eq_none] at h
    exact ends_none h _
  | k + 1, s, j, h => by
    cases hf : findN ns s with
    | none => exact ends_none hf _
    | some n =>
      rw [ends_succ hf] at h
      rw [show k + 1 + j = (k + j) + 1 by omega, ends_succ hf]
      exact ends_more j h
theorem acyc_nil : Acyc [] := fun s => ⟨0, rfl⟩
/-- where the way up does not meet one, nothing is changed by another look of that one -/
theorem ends_avoid {ns ns' : List ND} {id : Pl} (hs : ∀ u, u ≠ id → findN ns' u = findN ns u) : ∀ {k : Nat} {s : Pl}, ends ns k s = true → overG ns id (k + 1) s = false → ends ns' k s = true
  | 0, s, h, ho => by
    rw [overG] at ho
    by_cases e : s = id
    · rw [if_pos e] at ho; cases ho
    · rw [ends, Option.isNone_iff_eq_none] at h
      rw [ends, hs s e, h]; rfl
  | k + 1, s, h, ho => by
    rw [overG] at ho
    by_cases e : s = id
    · rw [if_pos e] at ho; cases ho
    · rw [if_neg e] at ho
      cases hf : findN ns s with
      | none => exact ends_none (by rw [hs s e, hf]) _
      | some n =>
        rw [hf] at ho
        rw [ends_succ hf] at h
        rw [ends_succ (by rw [hs s e, hf])]
        exact ends_avoid hs h ho
theorem over_more {ns : List ND} {id : Pl} : ∀ {k : Nat} {s : Pl} (j : Nat), ends ns k s = true → overG ns id (k + 1 + j) s = overG ns id (k + 1) s
  | 0, s, j, h => by
    rw [ends, Option.isNone_iff_eq_none] at h
    rw [show 0 + 1 + j = j + 1 by omega, overG, overG, h]
  | k + 1, s, j, h => by
    rw [show k + 1 + 1 + j = (k + 1 + j) + 1 by omega, overG, overG]
    cases hf : findN ns s with
    | none => rfl
    | some n =>
      rw [ends_succ hf] at h
      show (if s = id then true else overG ns id (k + 1 + j) n.par) = (if s = id then true else overG ns id (k + 1) n.par)
      rw [over_more j h]
/-- a way up that ends meets no place twice -/
theorem not_back {ns : List ND} : ∀ {k : Nat} {s : Pl} {n : ND}, findN ns s = some n → ends ns k n.par = true → overG ns s (k + 1) n.par = false := by
  -- else it would never end: the least number of steps is told twice
  have key : ∀ (j : Nat) (ns : List ND) (s u : Pl) (k : Nat), ends ns k u = true → overG ns s (k + 1) u = true → ∃ i, i ≤ k ∧ ends ns (k - i) s = true := by
    intro j ns s u k
    induction k generalizing u with
    | zero =>
      intro h ho
      rw [overG] at ho
      by_cases e : u = s
      · rw [← e]; exact ⟨0, Nat.le_refl _, h⟩
      · rw [if_neg e] at ho
        rw [ends, Option.isNone_iff_eq_none] at h
        rw [h] at ho
        cases ho
    | succ k ih =>
      intro h ho
      rw [overG] at ho
      by_cases e : u = s
      · rw [← e]; exact ⟨0, Nat.zero_le _, h⟩
      · rw [if_neg e] at ho
        cases hf : findN ns u with
        | none => rw [hf] at ho; cases ho
        | some n =>
          rw [hf] at ho
          rw [ends_succ hf] at h
          obtain ⟨i, h1, h2⟩ := ih n.par h ho
          exact ⟨i + 1, by omega, by rw [show k + 1 - (i + 1) = k - i by omega]; exact h2⟩
  have least : ∀ (k : Nat) (ns : List ND) (s : Pl), ends ns k s = true → ∃ k0, k0 ≤ k ∧ ends ns k0 s = true ∧ ∀ j, j < k0 → ends ns j s = false := by
    intro k ns s
    induction k with
    | zero => intro h; exact ⟨0, Nat.le_refl _, h, fun j hj => absurd hj (Nat.not_lt_zero _)⟩
    | succ k ih =>
      intro h
      by_cases hk : ends ns k s = true
      · obtain ⟨k0, h1, h2, h3⟩ := ih hk
        exact ⟨k0, by omega, h2, h3⟩
      · refine ⟨k + 1, Nat.le_refl _, h, fun j hj => ?_⟩
        rw [Bool.eq_false_iff]
        intro hj2
        apply hk
        have := ends_more (k - j) hj2
        rwa [show j + (k - j) = k by omega] at this
  intro k s n hf h
  rw [Bool.eq_false_iff]
  intro ho
  have h1 : ends ns (k + 1) s = true := by rw [ends_succ hf]; exact h
  obtain ⟨k0, g1, g2, g3⟩ := least _ _ _ h1
  have hk0 : k0 ≠ 0 := fun e => by rw [e, ends_zero hf] at g2; cases g2
  obtain ⟨k1, rfl⟩ : ∃ k1, k0 = k1 + 1 := ⟨k0 - 1, by omega⟩
  rw [ends_succ hf] at g2
  have ho2 : overG ns s (k1 + 1) n.par = true := by
    have := over_more (id := s) (k - k1) g2
    rw [show k1 + 1 + (k - k1) = k + 1 by omega] at this
    rw [← this]; exact ho
  obtain ⟨i, h2, h3⟩ := key 0 ns s n.par k1 g2 ho2
  rw [g3 _ (by omega)] at h3
  cases h3
theorem dropN_len {ns : List ND} {n : ND} (h : n ∈ ns) : (dropN ns n.id).length < ns.length := by
  induction ns with
  | nil => simp at h
  | cons x r ih =>
    unfold dropN at ih ⊢
    by_cases e : x.id = n.id
    · rw [List.filter_cons_of_neg (by simp [e])]
      exact Nat.lt_succ_of_le (List.length_filter_le _ _)
    · rw [List.filter_cons_of_pos (by simp [e]), List.length_cons, List.length_cons]
      rcases List.mem_cons.1 h with rfl | h
      · exact absurd rfl e
      · have := ih h
        omega
/-- as many steps as there are nodes are enough -/
theorem ends_bound : ∀ (m : Nat) {ns : List ND} {k : Nat} {s : Pl}, ns.length ≤ m → ends ns k s = true → ends ns m s = true := by
  intro m
  induction m with
  | zero =>
    intro ns k s hl h
    have : ns = [] := List.eq_nil_of_length_eq_zero (by omega)
    subst this
    rfl
  | succ m ih =>
    intro ns k s hl h
    cases hf : findN ns s with
    | none => exact ends_none hf _
    | some n =>
      rw [ends_succ hf]
      cases k with
      | zero => rw [ends_zero hf] at h; cases h
      | succ k =>
        rw [ends_succ hf] at h
        obtain ⟨hm, hid⟩ := find_mem hf
        have ho := not_back hf h
        -- without this one
        have hd : ∀ u, u ≠ s → findN (dropN ns s) u = findN ns u := fun u hu => by rw [dropN_find, if_neg hu]
        have h2 := ends_avoid hd h ho
        have hlen : (dropN ns s).length ≤ m := by
          have := dropN_len hm
          rw [hid] at this
          omega
        have h3 := ih hlen h2
        -- and back
        have hd2 : ∀ u, u ≠ s → findN ns u = findN (dropN ns s) u := fun u hu => (hd u hu).symm
        have ho3 : overG (dropN ns s) s (m + 1) n.par = false := by
          have gen : ∀ (k : Nat) (u : Pl), ends (dropN ns s) k u = true → ends ns k u = true → overG ns s (k + 1) u = false → overG (dropN ns s) s (k + 1) u = false := by
            intro k
            induction k with
            | zero =>
              intro u h1 h2 h3
              rw [overG] at h3 ⊢
              by_cases e : u = s
              · rw [if_pos e] at h3; cases h3
              · rw [if_neg e] at h3 ⊢
                rw [ends, Option.isNone_iff_eq_none] at h1
                rw [h1]
            | succ k ih =>
              intro u h1 h2 h3
              rw [overG] at h3 ⊢
              by_cases e : u = s
              · rw [if_pos e] at h3; cases h3
              · rw [if_neg e] at h3 ⊢
                rw [hd u e]
                cases hu : findN ns u with
                | none => rfl
                | some y =>
                  rw [hu] at h3
                  rw [ends_succ hu] at h2
                  rw [ends_succ (by rw [hd u e, hu])] at h1
                  exact ih y.par h1 h2 h3
          have h4 := gen k n.par h2 h ho
          rcases Nat.le_total m k with hmk | hmk
          · have := over_more (id := s) (k - m) h3
            rw [show m + 1 + (k - m) = k + 1 by omega] at this
            rw [← this]; exact h4
          · have := over_more (id := s) (m - k) h2
            rw [show k + 1 + (m - k) = m + 1 by omega] at this
            rw [this]; exact h4
        exact ends_avoid hd2 h3 ho3
theorem Acyc.bound {ns : List ND} (h : Acyc ns) (s : Pl) : ends ns ns.length s = true := by
  obtain ⟨k, hk⟩ := h s
  exact ends_bound _ (Nat.le_refl _) hk
/-- with no node above itself there is none behind a move -/
theorem acyc_done {ns : List ND} (h : Acyc ns) (o : OpD) : Acyc (doneG ns o) := by
  unfold doneG
  cases hi : idleG ns o
  · rw [if_neg (by decide)]
    have hp := h.bound (parO o)
    have hs : ∀ u, u ≠ nodeO o → findN (putN ns ⟨nodeO o, parO o, o.1.s⟩) u = findN ns u := fun u hu => by rw [putN_find, if_neg hu]
    have h2 := ends_avoid hs hp hi
    intro s
    obtain ⟨k, hk⟩ := h s
    induction k generalizing s with
    | zero =>
      by_cases e : s = nodeO o
      · refine ⟨ns.length + 1, ?_⟩
        rw [ends_succ (n := ⟨nodeO o, parO o, o.1.s⟩) (by rw [putN_find, if_pos e])]
        exact h2
      · rw [ends, Option.isNone_iff_eq_none] at hk
        exact ⟨0, ends_none (by rw [hs s e, hk]) _⟩
    | succ k ih =>
      by_cases e : s = nodeO o
      · refine ⟨ns.length + 1, ?_⟩
        rw [ends_succ (n := ⟨nodeO o, parO o, o.1.s⟩) (by rw [putN_find, if_pos e])]
        exact h2
      · cases hf : findN ns s with
        | none => exact ⟨0, ends_none (by rw [hs s e, hf]) _⟩
        | some n =>
          rw [ends_succ hf] at hk
          obtain ⟨k', hk'⟩ := ih n.par hk
          exact ⟨k' + 1, by rw [ends_succ (by rw [hs s e, hf])]; exact hk'⟩
  · rw [if_pos rfl]; exact h
theorem acyc_made : ∀ (l : List OpD) {ns : List ND}, Acyc ns → Acyc (madeG l ns).1
  | [], _, h => h
  | o :: l, ns, h => acyc_made l (acyc_done h o)
end Go.Proofs.YtjlbpmmckgjajaaDoor

/- The forest: words: its map of numbers, its spots; what a call may change of it. -/
namespace Go.Proofs.YtjlbpmmckgjajaaDoor
open Go.RowKit Go.Lib Go.Maps
set_option linter.unusedVariables false

theorem tr_wide : (match Tryd.prog.underlying 36 with | some (.array _ _) | some (.struct _) => true | _ => false) = true := by rw [Tryd.underlying36]
theorem tr_laid : laidOutB Tryd.prog = true := by kernel_rfl
theorem tr_row : (36 : TypeId) < Tryd.prog.types.size := of_decide_eq_true (by kernel_rfl)
theorem tr_deep : Tryd.prog.keyTypeAt (Tryd.prog.types.size + 1) 36 = true := by kernel_rfl
theorem tr_key2 : Tryd.prog.keyTypeAt 2 36 = true := by kernel_rfl
set_option maxRecDepth 100000 in
theorem keyed : Keyed Tryd.prog 36 := Keyed.of_law (deep_law_laid tr_laid (m := 2) (by omega) tr_row tr_key2 tr_wide)
def wfP (s : Pl) : Prop := (Lit.int .i64 s.1).wf = true ∧ (Lit.int .i64 s.2).wf = true
def keyL (s : Pl) : Lit := .string (keyBytes [.int .i64 s.1, .int .i64 s.2])
abbrev valP (s : Pl) : Value := .agg #[.int .i64 s.1, .int .i64 s.2]
theorem tr_size : ∃ m, Tryd.prog.types.size = m + 2 := ⟨Tryd.prog.types.size - 2, by kernel_rfl⟩
theorem keyP_is {s : Pl} (h : wfP s) : keyOf Tryd.prog 36 (valP s) = some (keyL s) := by
  obtain ⟨m, hm⟩ := tr_size
  have hkt : Tryd.prog.keyType 36 = true := by kernel_rfl
  have hco : Tryd.prog.cellsOf 36 = 2 := by kernel_rfl
  have hc3 : Tryd.prog.cellsOf 3 = 1 := by kernel_rfl
  unfold keyOf
  simp only [Tryd.underlying36]
  rw [if_pos (by simp [hkt, Value.formed, Tryd.underlying36, hco]), hm]
  unfold Program.keyLits
  simp only [Tryd.underlying36, Value.cells]
  rw [if_pos (by refine ⟨by rw [hco]; rfl, by simp⟩)]
  simp [Program.keyLits, Tryd.underlying3, hc3, h.1, h.2, keyL]
theorem keyL_key {s : Pl} (h : wfP s) : WideAt.IsKeyLit (keyL s) := keyed.key (keyP_is h)
theorem keyL_inj {s u : Pl} (hs : wfP s) (hu : wfP u) (h : keyL s = keyL u) : s = u := by
  have h1 := keyP_is hs
  rw [h] at h1
  have := keyed.inj h1 (keyP_is hu)
  simp only [Value.agg.injEq] at this
  have e := congrArg Array.toList this
  simp at e
  exact Prod.ext e.1 e.2
/-- the map of the numbers of places -/
def mapR : List Pl → DataW Unit
  | [] => .map []
  | s :: r => (mapR r).put (keyL s) (.lit (.int .i64 (r.length : Int)))
def mapD (ps : List Pl) : DataW Unit := mapR ps.reverse
theorem mapD_snoc (ps : List Pl) (s : Pl) : mapD (ps ++ [s]) = (mapD ps).put (keyL s) (.lit (.int .i64 (ps.length : Int))) := by
  unfold mapD
  rw [List.reverse_append, List.reverse_singleton, List.singleton_append, mapR, List.length_reverse]
theorem mapR_is : ∀ r : List Pl, IsMap (mapR r)
  | [] => isMap_empty
  | s :: r => (mapR_is r).put _ _
theorem mapR_has : ∀ {r : List Pl} {s : Pl}, (∀ u ∈ r, wfP u) → wfP s → Maps.has (mapR r) (keyL s) = decide (s ∈ r)
  | [], s, _, _ => rfl
  | u :: r, s, hr, hs => by
    rw [mapR]
    by_cases e : s = u
    · subst e
      rw [has_put_same (mapR_is r) (keyL_key hs)]
      simp
    · have hne : keyL s ≠ keyL u := fun h => e (keyL_inj hs (hr u (List.mem_cons_self ..)) h)
      rw [has_put_other hne, mapR_has (fun v hv => hr v (List.mem_cons_of_mem _ hv)) hs]
      simp [e]
theorem mapD_has {ps : List Pl} {s : Pl} (h : ∀ u ∈ ps, wfP u) (hs : wfP s) : Maps.has (mapD ps) (keyL s) = decide (s ∈ ps) := by
  unfold mapD
  rw [mapR_has (fun u hu => h u (List.mem_reverse.1 hu)) hs]
  simp
theorem mapD_at : ∀ (n : Nat) {ps : List Pl} {i : Nat} {s : Pl} (z : DataW Unit), ps.length = n → ps.Nodup → (∀ u ∈ ps, wfP u) → ps[i]? = some s → (mapD ps).atKey (keyL s) z = .lit (.int .i64 (i : Int)) := by
  intro n
  induction n with
  | zero =>
    intro ps i s z hl _ _ hi
    have := (List.getElem?_eq_some_iff.1 hi).1
    omega
  | succ n ih =>
    intro ps i s z hl hn hw hi
    rcases List.eq_nil_or_concat ps with rfl | ⟨q, x, rfl⟩
    · simp at hl
    · rw [List.concat_eq_append] at hl hn hw hi ⊢
      rw [List.length_append, List.length_singleton] at hl
      have hq : q.length = n := by omega
      have hwx : wfP x := hw x (by simp)
      have hws : wfP s := hw s (List.mem_of_getElem? hi)
      rw [mapD_snoc]
      rcases Nat.lt_or_ge i q.length with hlt | hge
      · rw [List.getElem?_append_left hlt] at hi
        have hsx : s ≠ x := fun e => by
          rw [List.nodup_append] at hn
          exact hn.2.2 s (List.mem_of_getElem? hi) x (by simp) e
        rw [atKey_put_other (fun h => hsx (keyL_inj hws hwx h))]
        exact ih z hq (List.nodup_append.1 hn).1 (fun u hu => hw u (by simp [hu])) hi
      · rw [List.getElem?_append_right hge] at hi
        have h0 : i - q.length = 0 := by have := (List.getElem?_eq_some_iff.1 hi).1; simp at this; omega
        rw [h0, List.getElem?_cons_zero] at hi
        injection hi with hi
        subst hi
        rw [show i = q.length by omega]
        exact atKey_put_same (mapR_is _) (keyL_key hwx) _ _

/-- a spot -/
structure SpD where
  th : Bool
  n : ND
  ab : Nat
def SpD.enc (x : SpD) : List Value := [.bool x.th, .int .i64 x.n.id.1, .int .i64 x.n.id.2, .int .i64 x.n.par.1, .int .i64 x.n.par.2, .string x.n.key, .int .i64 (x.ab : Int)]
def ND.enc (x : ND) : List Value := [.int .i64 x.id.1, .int .i64 x.id.2, .int .i64 x.par.1, .int .i64 x.par.2, .string x.key]
def zSp : SpD := ⟨false, ⟨(0, 0), (0, 0), ⟨#[]⟩⟩, 0⟩
theorem flatSp : Flat 72 75 7 64 SpD.enc := by
  refine ⟨fun _ => rfl, fun x u hu => ?_, Tryd.underlying75, ?_, by decide, by decide⟩
  · simp only [SpD.enc, List.mem_cons, List.not_mem_nil, or_false] at hu
    rcases hu with rfl | rfl | rfl | rfl | rfl | rfl | rfl <;> rfl
  · have h : (Tryd.prog.info? 72).map (fun i => (i.zero, i.size, i.bytes)) = some (some (.agg #[.bool false, .int .i64 0, .int .i64 0, .int .i64 0, .int .i64 0, .string ⟨#[]⟩, .int .i64 0]), 7, 64) := by kernel_rfl
    obtain ⟨i0, hi, hz0, hz1, hz2⟩ := info_parts h
    exact ⟨i0, _, hi, hz0, hz1, hz2, rfl⟩
theorem flatN : Flat 44 22 5 48 ND.enc := by
  refine ⟨fun _ => rfl, fun x u hu => ?_, Tryd.underlying22, ?_, by decide, by decide⟩
  · simp only [ND.enc, List.mem_cons, List.not_mem_nil, or_false] at hu
    rcases hu with rfl | rfl | rfl | rfl | rfl <;> rfl
  · have h : (Tryd.prog.info? 44).map (fun i => (i.zero, i.size, i.bytes)) = some (some (.agg #[.int .i64 0, .int .i64 0, .int .i64 0, .int .i64 0, .string ⟨#[]⟩]), 5, 48) := by kernel_rfl
    obtain ⟨i0, hi, hz0, hz1, hz2⟩ := info_parts h
    exact ⟨i0, _, hi, hz0, hz1, hz2, rfl⟩
/-- what a call may change of a forest: its own two blocks, its row of spots -/
structure KeptF (w w' : World) (fp bm : Nat) (v v' : Value) : Prop where
  bl : Below 0 w w'
  blk : ∀ k, k < w.heap.size → k ≠ fp → k ≠ bm → v.ownBlock ≠ some k → w'.heap[k]? = w.heap[k]?
  lies : v'.ownBlock = v.ownBlock ∨ ∃ g, v'.ownBlock = some g ∧ w.heap.size ≤ g
theorem KeptF.of_below {w w' : World} {fp bm : Nat} {v : Value} (h : Below w.heap.size w w') : KeptF w w' fp bm v v := ⟨h.mono (Nat.zero_le _), fun k hk _ _ _ => h.block k hk, .inl rfl⟩
theorem KeptF.trans {w w' w'' : World} {fp bm : Nat} {v v' v'' : Value} (h1 : KeptF w w' fp bm v v') (h2 : KeptF w' w'' fp bm v' v'') : KeptF w w'' fp bm v v'' := by
  have hs := h1.bl.size
  refine ⟨h1.bl.trans (h2.bl.mono (Nat.zero_le _)), fun k hk n1 n2 n3 => ?_, ?_⟩
  · rw [h2.blk k (by omega) n1 n2 ?_, h1.blk k hk n1 n2 n3]
    rcases h1.lies with e | ⟨g, e, hg⟩
    · rw [e]; exact n3
    · rw [e]; intro e2; injection e2 with e2; omega
  · rcases h2.lies with e | ⟨g, e, hg⟩
    · rw [e]; exact h1.lies
    · exact .inr ⟨g, e, by omega⟩
theorem KeptF.below {w w' : World} {fp bm B : Nat} {v v' : Value} (h : KeptF w w' fp bm v v') (h0 : B ≤ w.heap.size) (h1 : B ≤ fp) (h2 : B ≤ bm) (h3 : ∀ g, v.ownBlock = some g → B ≤ g) : Below B w w' :=
  ⟨h.bl.os, h.bl.tape, h.bl.output, h.bl.size, fun k hk => h.blk k (by omega) (by omega) (by omega) (fun e => by have := h3 k e; omega)⟩
/-- the forest in memory: its places by their numbers, and what is there -/
structure FoR (W : World) (base fp bm : Nat) (sv : Value) (ps : List Pl) (sp : List SpD) : Prop where
  blk : Blk W fp [.map (some bm), sv]
  map : W.ownsMap Tryd.prog 36 (plainElem Tryd.prog 3) bm ps.length (mapD ps)
  own : OwnF 72 7 SpD.enc W base sv sp
  ln : sp.length = ps.length
  wf : ∀ s ∈ ps, wfP s
  nd : ps.Nodup
  b1 : base ≤ fp
  b2 : base ≤ bm
  ne : fp ≠ bm
  nv : sv.ownBlock ≠ some fp ∧ sv.ownBlock ≠ some bm
  sm : ps.length ≤ 1000
theorem FoR.lt {W : World} {base fp bm : Nat} {sv : Value} {ps : List Pl} {sp : List SpD} (h : FoR W base fp bm sv ps sp) : fp < W.heap.size ∧ bm < W.heap.size := ⟨h.blk.lt, h.map.lt⟩
theorem FoR.next {W W' : World} {base fp bm : Nat} {sv : Value} {ps : List Pl} {sp : List SpD} (h : FoR W base fp bm sv ps sp) (hb : Below W.heap.size W W') : FoR W' base fp bm sv ps sp :=
  ⟨h.blk.next hb, h.map.kept (row := none) ⟨hb.os, hb.tape, hb.output, hb.size, fun k hk _ => hb.block k hk⟩ (by simp), h.own.below hb, h.ln, h.wf, h.nd, h.b1, h.b2, h.ne, h.nv, h.sm⟩
/-- which number a place has -/
def NumIs (ps : List Pl) (sp : List SpD) (s : Pl) (ps' : List Pl) (sp' : List SpD) (i : Nat) : Prop := (ps[i]? = some s ∧ ps' = ps ∧ sp' = sp) ∨ (s ∉ ps ∧ i = ps.length ∧ ps' = ps ++ [s] ∧ sp' = sp ++ [zSp])
end Go.Proofs.YtjlbpmmckgjajaaDoor

/- The forest and the nodes it stands for: mathematics. -/
namespace Go.Proofs.YtjlbpmmckgjajaaDoor
open Go.RowKit Go.Lib
set_option linter.unusedVariables false

/-- which nodes a forest stands for -/
structure FoM (ps : List Pl) (sp : List SpD) (ns : List ND) : Prop where
  asc : AscN ns
  ln : sp.length = ps.length
  nd : ps.Nodup
  th : ∀ (i : Nat) (s : Pl) (x : SpD), ps[i]? = some s → sp[i]? = some x → x.th = true → x.n.id = s ∧ findN ns s = some x.n ∧ ps[x.ab]? = some x.n.par
  no : ∀ (i : Nat) (s : Pl) (x : SpD), ps[i]? = some s → sp[i]? = some x → x.th = false → x = zSp ∧ findN ns s = none
  al : ∀ s, s ∉ ps → findN ns s = none
theorem FoM.start : FoM [] [] [] := ⟨List.Pairwise.nil, rfl, List.Pairwise.nil, fun i s x h => by simp at h, fun i s x h => by simp at h, fun s _ => rfl⟩
theorem app_atP {α : Type} {q : List α} {x y : α} {j : Nat} (h : (q ++ [x])[j]? = some y) : (j < q.length ∧ q[j]? = some y) ∨ (j = q.length ∧ y = x) := by
  rcases Nat.lt_or_ge j q.length with hj | hj
  · rw [List.getElem?_append_left hj] at h
    exact .inl ⟨hj, h⟩
  · rw [List.getElem?_append_right hj] at h
    have h2 := (List.getElem?_eq_some_iff.1 h).1
    rw [List.length_singleton] at h2
    have e : j - q.length = 0 := by omega
    rw [e, List.getElem?_cons_zero] at h
    injection h with h
    exact .inr ⟨by omega, h.symm⟩
theorem app_oldP {α : Type} {q : List α} (x : α) {y : α} {j : Nat} (h : q[j]? = some y) : (q ++ [x])[j]? = some y := by
  rw [List.getElem?_append_left (List.getElem?_eq_some_iff.1 h).1]; exact h
theorem app_newP {α : Type} (q : List α) (x : α) : (q ++ [x])[q.length]? = some x := by
  rw [List.getElem?_append_right (Nat.le_refl _), Nat.sub_self]; rfl
theorem FoM.num {ps ps' : List Pl} {sp sp' : List SpD} {ns : List ND} {s : Pl} {i : Nat} (h : FoM ps sp ns) (hn : NumIs ps sp s ps' sp' i) : FoM ps' sp' ns ∧ ps'[i]? = some s ∧ (∀ (j : Nat) (u : Pl), ps[j]? = some u → ps'[j]? = some u) ∧ ps'.length ≤ ps.length + 1 := by
  rcases hn with ⟨h1, rfl, rfl⟩ | ⟨h1, rfl, rfl, rfl⟩
  · exact ⟨h, h1, fun _ _ h => h, by omega⟩
  · refine ⟨⟨h.asc, by rw [List.length_append, List.length_append, h.ln]; rfl, ?_, fun j u x hu hx ht => ?_, fun j u x hu hx ht => ?_, fun u hu => h.al u (fun hm => hu (by simp [hm]))⟩, app_newP _ _, fun j u hu => app_oldP _ hu, by simp⟩
    · rw [List.nodup_append]
      refine ⟨h.nd, by simp, fun a ha b hb => ?_⟩
      rw [List.mem_singleton] at hb
      rw [hb]
      exact fun e => h1 (e ▸ ha)
    · rcases app_atP hx with ⟨hj, hx⟩ | ⟨_, rfl⟩
      · rcases app_atP hu with ⟨_, hu⟩ | ⟨e, _⟩
        · obtain ⟨g1, g2, g3⟩ := h.th j u x hu hx ht
          exact ⟨g1, g2, app_oldP _ g3⟩
        · rw [h.ln] at hj; omega
      · cases ht
    · rcases app_atP hx with ⟨hj, hx⟩ | ⟨e, rfl⟩
      · rcases app_atP hu with ⟨_, hu⟩ | ⟨e, _⟩
        · exact h.no j u x hu hx ht
        · rw [h.ln] at hj; omega
      · rcases app_atP hu with ⟨hj, hu⟩ | ⟨_, rfl⟩
        · rw [h.ln] at e; omega
        · exact ⟨rfl, h.al _ h1⟩
theorem nodup_at {ps : List Pl} (h : ps.Nodup) {i j : Nat} {s : Pl} (hi : ps[i]? = some s) (hj : ps[j]? = some s) : i = j := by
  obtain ⟨hi1, hi2⟩ := List.getElem?_eq_some_iff.1 hi
  obtain ⟨hj1, hj2⟩ := List.getElem?_eq_some_iff.1 hj
  rcases Nat.lt_trichotomy i j with h1 | h1 | h1
  · exact absurd (hi2.trans hj2.symm) (List.pairwise_iff_getElem.1 h i j hi1 hj1 h1)
  · exact h1
  · exact absurd (hj2.trans hi2.symm) (List.pairwise_iff_getElem.1 h j i hj1 hi1 h1)
theorem set_atP {α : Type} {q : List α} {i j : Nat} {x y : α} (h : (q.set i x)[j]? = some y) : (j = i ∧ y = x) ∨ (j ≠ i ∧ q[j]? = some y) := by
  rw [List.getElem?_set] at h
  by_cases e : i = j
  · rw [if_pos e] at h
    split at h
    · injection h with h
      exact .inl ⟨e.symm, h.symm⟩
    · cases h
  · rw [if_neg e] at h
    exact .inr ⟨fun h => e h.symm, h⟩
/-- a node laid at its spot -/
theorem FoM.put {ps : List Pl} {sp : List SpD} {ns : List ND} (h : FoM ps sp ns) {i ab : Nat} {s par : Pl} (key : ByteArray) (hi : ps[i]? = some s) (ha : ps[ab]? = some par) : FoM ps (sp.set i ⟨true, ⟨s, par, key⟩, ab⟩) (putN ns ⟨s, par, key⟩) := by
  refine ⟨putN_asc h.asc, by rw [List.length_set]; exact h.ln, h.nd, fun j u x hu hx ht => ?_, fun j u x hu hx ht => ?_, fun u hu => ?_⟩
  · rcases set_atP hx with ⟨rfl, rfl⟩ | ⟨hj, hx⟩
    · rw [hi] at hu
      injection hu with hu
      subst hu
      exact ⟨rfl, by rw [putN_find, if_pos rfl], ha⟩
    · obtain ⟨g1, g2, g3⟩ := h.th j u x hu hx ht
      refine ⟨g1, ?_, g3⟩
      rw [putN_find, if_neg (fun e : u = s => hj (nodup_at h.nd hu (by rw [e]; exact hi)))]
      exact g2
  · rcases set_atP hx with ⟨rfl, rfl⟩ | ⟨hj, hx⟩
    · cases ht
    · obtain ⟨g1, g2⟩ := h.no j u x hu hx ht
      refine ⟨g1, ?_⟩
      rw [putN_find, if_neg (fun e : u = s => hj (nodup_at h.nd hu (by rw [e]; exact hi)))]
      exact g2
  · rw [putN_find, if_neg (fun e => hu (by rw [e]; exact List.mem_of_getElem? hi))]
    exact h.al u hu
/-- a spot emptied -/
theorem FoM.drop {ps : List Pl} {sp : List SpD} {ns : List ND} (h : FoM ps sp ns) {i : Nat} {s : Pl} (hi : ps[i]? = some s) : FoM ps (sp.set i zSp) (dropN ns s) := by
  refine ⟨dropN_asc h.asc s, by rw [List.length_set]; exact h.ln, h.nd, fun j u x hu hx ht => ?_, fun j u x hu hx ht => ?_, fun u hu => ?_⟩
  · rcases set_atP hx with ⟨rfl, rfl⟩ | ⟨hj, hx⟩
    · cases ht
    · obtain ⟨g1, g2, g3⟩ := h.th j u x hu hx ht
      refine ⟨g1, ?_, g3⟩
      rw [dropN_find, if_neg (fun e : u = s => hj (nodup_at h.nd hu (by rw [e]; exact hi)))]
      exact g2
  · rcases set_atP hx with ⟨rfl, rfl⟩ | ⟨hj, hx⟩
    · rw [hi] at hu
      injection hu with hu
      exact ⟨rfl, by rw [dropN_find, if_pos hu.symm]⟩
    · obtain ⟨g1, g2⟩ := h.no j u x hu hx ht
      refine ⟨g1, ?_⟩
      rw [dropN_find, if_neg (fun e : u = s => hj (nodup_at h.nd hu (by rw [e]; exact hi)))]
      exact g2
  · rw [dropN_find, if_neg (fun e => hu (by rw [e]; exact List.mem_of_getElem? hi))]
    exact h.al u hu
/-- so many steps lead up from a place -/
def stepsN (ns : List ND) : Nat → Pl → Nat
  | 0, _ => 0
  | f + 1, s => match findN ns s with | none => 0 | some n => stepsN ns f n.par + 1
theorem stepsN_none {ns : List ND} {s : Pl} (h : findN ns s = none) : ∀ f, stepsN ns f s = 0
  | 0 => rfl
  | f + 1 => by rw [stepsN, h]
theorem stepsN_more {ns : List ND} : ∀ {k : Nat} {s : Pl} (j : Nat), ends ns k s = true → stepsN ns (k + j) s = stepsN ns k s
  | 0, s, j, h => by
    rw [ends, Option.isNone_iff_eq_none] at h
    rw [stepsN_none h, stepsN_none h]
  | k + 1, s, j, h => by
    cases hf : findN ns s with
    | none => rw [stepsN_none hf, stepsN_none hf]
    | some n =>
      rw [ends_succ hf] at h
      rw [show k + 1 + j = (k + j) + 1 by omega, stepsN, stepsN, hf]
      show stepsN ns (k + j) n.par + 1 = stepsN ns k n.par + 1
      rw [stepsN_more j h]
theorem stepsN_up {ns : List ND} (h : Acyc ns) {s : Pl} {n : ND} (hf : findN ns s = some n) : stepsN ns ns.length s = stepsN ns ns.length n.par + 1 := by
  have hb := h.bound s
  obtain ⟨m, hm⟩ : ∃ m, ns.length = m + 1 := ⟨ns.length - 1, by have := List.length_pos_of_mem (find_mem hf).1; omega⟩
  rw [hm] at hb ⊢
  rw [ends_succ hf] at hb
  have := stepsN_more 1 hb
  rw [this, stepsN, hf]
/-- the test of one place, unrolled -/
theorem over_unroll {ns : List ND} (h : Acyc ns) (id s : Pl) : overG ns id (ns.length + 1) s = if s = id then true else match findN ns s with | none => false | some n => overG ns id (ns.length + 1) n.par := by
  rw [overG]
  cases hf : findN ns s with
  | none => rfl
  | some n =>
    have hb := h.bound s
    obtain ⟨m, hm⟩ : ∃ m, ns.length = m + 1 := ⟨ns.length - 1, by have := List.length_pos_of_mem (find_mem hf).1; omega⟩
    rw [hm] at hb ⊢
    rw [ends_succ hf] at hb
    have := over_more (id := id) 1 hb
    show (if s = id then true else overG ns id (m + 1) n.par) = (if s = id then true else overG ns id (m + 1 + 1) n.par)
    rw [this]
end Go.Proofs.YtjlbpmmckgjajaaDoor

/- The forest: a place's number. -/
namespace Go.Proofs.YtjlbpmmckgjajaaDoor
open Go.RowKit Go.Lib Go.Maps
set_option linter.unusedVariables false

theorem Blk.keep {w w' : World} {g : Nat} {vs : List Value} (h : Blk w g vs) (hb : w'.heap[g]? = w.heap[g]?) : Blk w' g vs :=
  ⟨fun i u hi => by rw [← h.cell i u hi]; unfold World.cell?; rw [hb], fun i u hi => (World.frozen?_of_block (w := w) (w' := w') hb).trans (h.free i u hi)⟩
theorem KeptF.of_grown {w w' : World} {fp bm : Nat} {v v' : Value} {row : Option Nat} (hg : w.grownBy w' row) (hr : ∀ k, k ≠ fp → k ≠ bm → v.ownBlock ≠ some k → some k ≠ row) (hl : v'.ownBlock = v.ownBlock ∨ ∃ g, v'.ownBlock = some g ∧ w.heap.size ≤ g) : KeptF w w' fp bm v v' :=
  ⟨⟨hg.os, hg.tape, hg.output, hg.size, fun k hk => absurd hk (Nat.not_lt_zero _)⟩, fun k hk n1 n2 n3 => hg.block k hk (hr k n1 n2 n3), hl⟩
/-- a new place's number -/
theorem num_new {W Wc w2 w3 : World} {base fp bm : Nat} {sv v' : Value} {ps : List Pl} {sp : List SpD} {s : Pl} (hW : Below W.heap.size W Wc) (h : FoR Wc base fp bm sv ps sp) (hs : wfP s) (hn : s ∉ ps) (hl : ps.length < 1000) (hbase : base ≤ Wc.heap.size)
    (hm : w2.ownsMap Tryd.prog 36 (plainElem (H := Unit) Tryd.prog 3) bm (ps.length + 1) ((mapD ps).put (keyL s) (.lit (.int .i64 (sp.length : Int))))) (hg2 : Wc.grownBy w2 (some bm)) (hp : GrewF 72 7 SpD.enc base w2 sv sp [zSp] v' w3) :
    FoR (w3.setCell ⟨fp, 1, none⟩ v') base fp bm v' (ps ++ [s]) (sp ++ [zSp]) ∧ KeptF W (w3.setCell ⟨fp, 1, none⟩ v') fp bm sv v' := by
  have hlt := h.lt
  have hs2 := hg2.size
  have hs3 := hp.gr.size
  have gset := grown_setCell w3 ⟨fp, 1, none⟩ v'
  have e1 : w2.heap[fp]? = Wc.heap[fp]? := hg2.block fp hlt.1 (fun e => h.ne (by injection e))
  have e2 : w3.heap[fp]? = w2.heap[fp]? := hp.gr.block fp (by omega) (fun e => h.nv.1 e.symm)
  have hblk := (h.blk.keep e1).keep e2
  have hlies := hp.lies
  have hv1 : v'.ownBlock ≠ some fp := by
    rcases hlies with e | ⟨g, e, hg⟩
    · rw [e]; exact h.nv.1
    · rw [e]; intro e; injection e with e; omega
  have hv2 : v'.ownBlock ≠ some bm := by
    rcases hlies with e | ⟨g, e, hg⟩
    · rw [e]; exact h.nv.2
    · rw [e]; intro e; injection e with e; omega
  refine ⟨⟨hblk.set 1 v', ?_, hp.own.grown gset (.inr hv1), by rw [List.length_append, List.length_append, h.ln]; rfl, fun u hu => ?_, ?_, h.b1, h.b2, h.ne, ⟨hv1, hv2⟩, by rw [List.length_append, List.length_singleton]; omega⟩, ?_⟩
  · have h1 := (hm.kept hp.gr (fun e => h.nv.2 e.symm)).setCell (a := ⟨fp, 1, none⟩) (fun e => h.ne e.symm) v'
    rw [mapD_snoc, List.length_append, List.length_singleton, ← h.ln]
    rw [h.ln] at h1 ⊢
    exact h1
  · rcases List.mem_append.1 hu with hu | hu
    · exact h.wf u hu
    · rw [List.mem_singleton] at hu
      rw [hu]; exact hs
  · rw [List.nodup_append]
    refine ⟨h.nd, by simp, fun a ha b hb => ?_⟩
    rw [List.mem_singleton] at hb
    rw [hb]
    exact fun e => hn (e ▸ ha)
  · have k1 : KeptF W Wc fp bm sv sv := KeptF.of_below hW
    have k2 : KeptF Wc w2 fp bm sv sv := KeptF.of_grown hg2 (fun k _ n2 _ e => n2 (by injection e)) (.inl rfl)
    have k3 : KeptF w2 w3 fp bm sv v' := KeptF.of_grown hp.gr (fun k _ _ n3 e => n3 e.symm) hlies
    have k4 : KeptF w3 (w3.setCell ⟨fp, 1, none⟩ v') fp bm v' v' := KeptF.of_grown gset (fun k n1 _ _ e => n1 (by injection e)) (.inl rfl)
    exact k1.trans (k2.trans (k3.trans k4))
section
variable {α : Type} {e st : TypeId} {k bytes : Nat} {enc : α → List Value}
theorem one_rowF (W : World) (x : α) (cs : Array Value) (ec : cs = (enc x).toArray) : RowF k enc (W.alloc (.cells cs e)) (some ⟨W.heap.size, 0, none⟩) [x] := by
  intro i y hi
  match i, hi with
  | 0, hi =>
    simp only [List.getElem?_cons_zero, Option.some.injEq] at hi
    subst hi ec
    refine ⟨W.heap.size, 0, rfl, fun j u hu => ?_⟩
    rw [World.cell?_alloc_at _ _ _ _ rfl]
    simpa using hu
  | _ + 1, hi => simp at hi
set_option maxHeartbeats 400000 in
theorem wpF_row (F : Flat e st k bytes enc) {ops : Array Oper} {rest : List Oper} {o : Oper} {a : Act} {Q : Exit → Act → World → Prop} (hgd : o.guard = none) (s x : Operand)
    (ho : o.op = .call { callee := .builtin .append, args := #[s, x], argTypes := #[st, st] }) (base : Nat) (W W1 : World) (hB : W.grownBy W1 none) (v : Value) (xs ys : List α) (b : Option Addr) (n c : Nat) (hs : a.eval s = v) (hown : OwnF e k enc W base v xs)
    (hx : a.eval x = .slice b n c) (hn : n = ys.length) (hrow : RowF k enc W1 b ys) (hlen : (xs.length + ys.length) * bytes ≤ 140737488355328) (hbase : base ≤ W.heap.size)
    (h : ∀ v' w', GrewF e k enc base W v xs ys v' w' → wpList Tryd.prog ops Q rest (a.put o.dst v') w') : wpList Tryd.prog ops Q (o :: rest) a W1 := by
  obtain ⟨v', w', hr, hg⟩ := runF_row F (ty := o.type) base W W1 v xs ys b n c hB hn hown hrow hlen hbase
  refine wpList_plain hgd fun _ hK => ?_
  unfold Oper.wp execOp
  simp only [ho, resolve, invoke, builtin, Sem.run_bind, Sem.run_pure, Result.andThen_ok, List.map_toArray, List.map_cons, List.map_nil, hs, hx, hr]
  exact hK _ _ (h v' w' hg)
end
theorem spot_build (w : World) : (Instr.build 72 #[]).run Tryd.prog w = .ok (.agg #[.bool false, .int .i64 0, .int .i64 0, .int .i64 0, .int .i64 0, .string ⟨#[]⟩, .int .i64 0]) w := run_build w 72 _ _ (by kernel_rfl)
def NumPost (W : World) (base fp bm : Nat) (sv : Value) (ps : List Pl) (sp : List SpD) (s : Pl) (e : Ending) (w' : World) : Prop :=
  ∃ (i : Nat) (sv' : Value) (ps' : List Pl) (sp' : List SpD), e = .returned (.int .i64 (i : Int)) ∧ NumIs ps sp s ps' sp' i ∧ FoR w' base fp bm sv' ps' sp' ∧ KeptF W w' fp bm sv sv'
theorem look_is {W : World} {base fp bm : Nat} {sv : Value} {ps : List Pl} {sp : List SpD} (h : FoR W base fp bm sv ps sp) {s : Pl} (hs : wfP s) : ∃ z : Int, (Instr.lookup 74 (.map (some bm)) (valP s) true).run Tryd.prog W = .ok (.tuple #[.int .i64 z, .bool (decide (s ∈ ps))]) W ∧ ∀ i : Nat, ps[i]? = some s → z = i := by
  have hz : (zeroValue 3).run Tryd.prog W = .ok (.int .i64 0) W := by kernel_rfl
  obtain ⟨v, qs, hrun, hv⟩ := h.map.look_ok keyed Tryd.underlying74 hz (plainElem_int Tryd.underlying3 (by decide)) (keyP_is hs)
  obtain ⟨c, rfl, hc, hwc⟩ := plainElem_int_inv Tryd.underlying3 hv
  rw [mapD_has h.wf hs] at hrun
  refine ⟨c, hrun, fun i hi => ?_⟩
  have h1 := mapD_at _ (i := i) (s := s) (.lit (.int .i64 0)) rfl h.nd h.wf hi
  have h2 := congrArg Prod.fst hc
  simp only at h2
  rw [h1] at h2
  simp only [DataW.lit.injEq, Lit.int.injEq, true_and] at h2
  exact h2.symm
set_option maxHeartbeats 4000000 in
set_option maxRecDepth 100000 in
theorem number_any (W : World) (base fp bm : Nat) (sv : Value) (ps : List Pl) (sp : List SpD) (t r : Int) (h : FoR W base fp bm sv ps sp) (hs : wfP (t, r)) (hl : ps.length < 1000) (hb : base ≤ W.heap.size) :
    Calls Tryd.prog 65 #[.pointer (some ⟨fp, 0, none⟩), .agg #[.int .i64 t, .int .i64 r]] W (NumPost W base fp bm sv ps sp (t, r)) := by
  have mixed : Tryd.prog.follows .mixedOrders = true := by kernel_rfl
  obtain ⟨g, hg⟩ : ∃ g, W.heap.size = g := ⟨_, rfl⟩
  obtain ⟨sa, sn, sc, rfl, hsn, hsc, -, -⟩ := h.own.form flatSp
  have HB0 := Lib.hid (box_bel W (.cells #[.int .i64 t, .int .i64 r] 36))
  have HF := Lib.hid (h.next HB0.out)
  have HH := Lib.hid h
  obtain ⟨z, hlk, hz⟩ := look_is HF.out hs
  have hlk1 : (Instr.lookup 74 (.map (some bm)) (.agg #[.int .i64 t, .int .i64 r]) true).run Tryd.prog (W.alloc (.cells #[.int .i64 t, .int .i64 r] 36)) = .ok (.tuple #[.int .i64 z, .bool (decide ((t, r) ∈ ps))]) (W.alloc (.cells #[.int .i64 t, .int .i64 r] 36)) := hlk
  obtain ⟨z', hlk2, hz'⟩ := look_is (HF.out.next (Below.refl _ _).drew) hs
  have hlk2' : (Instr.lookup 74 (.map (some bm)) (.agg #[.int .i64 t, .int .i64 r]) true).run Tryd.prog (W.alloc (.cells #[.int .i64 t, .int .i64 r] 36)).drew = .ok (.tuple #[.int .i64 z', .bool (decide ((t, r) ∈ ps))]) (W.alloc (.cells #[.int .i64 t, .int .i64 r] 36)).drew := hlk2
  have c0 : (W.alloc (.cells #[.int .i64 t, .int .i64 r] 36)).cell? ⟨fp, 0, none⟩ = some (.map (some bm)) := HF.out.blk.cell 0 _ rfl
  have c1 : (W.alloc (.cells #[.int .i64 t, .int .i64 r] 36)).cell? ⟨fp, 1, none⟩ = some (.slice sa sn sc) := HF.out.blk.cell 1 _ rfl
  have HZ := Lib.hid hz'
  have HS := Lib.hid hs
  have HL := Lib.hid hl
  have HBA := Lib.hid hb
  clear h hs hlk hlk2 hz hz' hl hb
  obtain ⟨bb, hbb⟩ : ∃ bb, decide ((t, r) ∈ ps) = bb := ⟨_, rfl⟩
  rw [hbb] at hlk1 hlk2'
  have HBB := Lib.hid hbb
  clear hbb
  go_enter Tryd.func65, Tryd.ntmps65
  go_wp2_with fail
  go_region
  cases bb
  · have HNI : Hid ((t, r) ∉ ps) := of_decide_eq_false HBB.out
    obtain ⟨Wc, hWc⟩ : ∃ Wc, (W.alloc (.cells #[.int .i64 t, .int .i64 r] 36)).drew = Wc := ⟨_, rfl⟩
    have HBc : Hid (Below W.heap.size W Wc) := by show Below _ _ _; rw [← hWc]; exact HB0.out.drew
    have HFc := Lib.hid (HH.out.next HBc.out)
    have k0 : Wc.cell? ⟨g, 0, none⟩ = some (.int .i64 t) := by rw [← hWc, ← hg]; simp
    have k1 : Wc.cell? ⟨g, 1, none⟩ = some (.int .i64 r) := by rw [← hWc, ← hg]; simp
    have d0 : Wc.cell? ⟨fp, 0, none⟩ = some (.map (some bm)) := HFc.out.blk.cell 0 _ rfl
    have d1 : Wc.cell? ⟨fp, 1, none⟩ = some (.slice sa sn sc) := HFc.out.blk.cell 1 _ rfl
    have HSN := Lib.hid hsn
    have HG := Lib.hid hg
    rw [hWc]
    clear hlk1 hlk2' c0 c1 hWc hsn hsc
    go_upto_region 4 with fail
    have hmw : (Lit.int .i64 (sn : Int)).wf = true := by
      have h1 := HFc.out.ln
      have h2 := HSN.out
      have h3 := HL.out
      exact WalkArith.wf_i64 (by omega)
    obtain ⟨w2, hup, hm2, hg2⟩ := (HFc.out.map.drew).update keyed Tryd.underlying74 (by have := HL.out; unfold maxLen; omega) (keyP_is HS.out) (plainElem_int (H := Unit) Tryd.underlying3 hmw)
    have hup' : (Instr.mapUpdate 74 (.map (some bm)) (.agg #[.int .i64 t, .int .i64 r]) (.int .i64 (sn : Int))).run Tryd.prog Wc.drew = .ok () w2 := hup
    have HM2 := Lib.hid hm2
    have HG2 := Lib.hid hg2
    clear hup hm2 hg2 hmw
    go_wp2_with fail
    go_region
    have HSZ : Hid (sn = ps.length) := by show _ = _; rw [HSN.out, HFc.out.ln]
    have HBK : Hid (Blk w2 fp [.map (some bm), .slice sa sn sc]) := HFc.out.blk.keep (HG2.out.block fp HFc.out.lt.1 (fun e => HFc.out.ne (by injection e)))
    have HOW : Hid (OwnF 72 7 SpD.enc w2 base (.slice sa sn sc) sp) := (HFc.out.next (Below.refl _ _).drew).own.grown HG2.out (.inr HFc.out.nv.2)
    have HBS : Hid (base ≤ Wc.heap.size) := Nat.le_trans HBA.out HBc.out.size
    have HBS2 : Hid (base ≤ w2.heap.size) := Nat.le_trans HBS.out HG2.out.size
    have d0 := HBK.out.cell 0 _ rfl
    have d1 := HBK.out.cell 1 _ rfl
    have hsb := spot_build
    have HRO := Lib.hid (one_rowF (k := 7) (e := 72) (enc := SpD.enc) w2 zSp #[.bool false, .int .i64 0, .int .i64 0, .int .i64 0, .int .i64 0, .string ⟨#[]⟩, .int .i64 0] rfl)
    have HLE : Hid ((sp.length + [zSp].length) * 64 ≤ 140737488355328) := by
      have h1 := HSN.out
      have h2 := HSZ.out
      have h3 := HL.out
      show _ ≤ _
      rw [List.length_singleton]
      omega
    clear hup'
    go_wp2_with (at_builtin
                 refine wpF_row flatSp rfl _ _ rfl base w2 _ (World.grownBy_alloc w2 _ none) (.slice sa sn sc) sp [zSp] (some ⟨w2.heap.size, 0, none⟩) 1 1 rfl HOW.out rfl rfl HRO.out HLE.out HBS2.out ?_
                 intro v6 w6 hp6
                 obtain ⟨sa6, sn6, sc6, rfl, -, -, -, -⟩ := hp6.own.form flatSp
                 have hk6 := HBK.out.keep (hp6.gr.block fp (by have h1 := HFc.out.lt.1; have h2 := HG2.out.size; exact Nat.lt_of_lt_of_le h1 h2) (fun e => HFc.out.nv.1 e.symm))
                 have f1 := hk6.cell 1 _ rfl
                 have f2 := hk6.free 1 _ rfl
                 have HP6 := Lib.hid hp6
                 clear hp6 hk6)
    go_ret
    have hN := num_new HBc.out.drew (HFc.out.next (Below.refl _ _).drew) HS.out HNI.out HL.out HBS.out (by rw [← HSN.out]; exact HM2.out) HG2.out HP6.out
    exact ⟨sn, _, _, _, rfl, .inr ⟨HNI.out, HSZ.out, rfl, rfl⟩, hN.1, hN.2⟩
  · obtain ⟨i, hi⟩ := List.getElem?_of_mem (of_decide_eq_true HBB.out)
    obtain rfl : z' = (i : Int) := HZ.out i hi
    have HI := Lib.hid hi
    clear hlk1 hlk2' c0 c1 hi
    go_wp2
    go_ret
    exact ⟨i, _, ps, sp, rfl, .inl ⟨HI.out, rfl, rfl⟩, HF.out.next (Below.refl _ _).drew, KeptF.of_below (HB0.out.drew)⟩
end Go.Proofs.YtjlbpmmckgjajaaDoor

/- The forest: is a place at or above another one (goto). -/
namespace Go.Proofs.YtjlbpmmckgjajaaDoor
open Go.RowKit Go.Lib Go.Maps
set_option linter.unusedVariables false

def AbvJ (fp n : Nat) (W : World) (ps : List Pl) (ns : List ND) (id : Pl) (res : Bool) (act : Act) (w' : World) : Prop :=
  ∃ (a : Nat) (u : Pl) (u3 u4 u5 u6 u7 u8 u9 u10 u11 u12 u13 u14 u15 u16 u17 u18 u19 u20 u21 u22 u23 u24 u25 u26 : Value), act = { tmps := #[.pointer (some ⟨fp, 0, none⟩), .int .i64 (n : Int), .int .i64 (a : Int), u3, u4, u5, u6, u7, u8, u9, u10, u11, u12, u13, u14, u15, u16, u17, u18, u19, u20, u21, u22, u23, u24, u25, u26], defers := [] } ∧ W = w' ∧ ps[a]? = some u ∧ overG ns id (ns.length + 1) u = res
def plV : Value → Nat
  | .int _ z => z.toNat
  | _ => 0
set_option maxHeartbeats 4000000 in
set_option maxRecDepth 100000 in
theorem isAbove_any (W : World) (base fp bm : Nat) (sv : Value) (ps : List Pl) (sp : List SpD) (ns : List ND) (h : FoR W base fp bm sv ps sp) (hM : FoM ps sp ns) (hA : Acyc ns) (n a : Nat) (id u : Pl) (hn : ps[n]? = some id) (ha : ps[a]? = some u) :
    Calls Tryd.prog 66 #[.pointer (some ⟨fp, 0, none⟩), .int .i64 (n : Int), .int .i64 (a : Int)] W (fun e w' => e = .returned (.bool (overG ns id (ns.length + 1) u)) ∧ W = w') := by
  obtain ⟨res, hres⟩ : ∃ res, overG ns id (ns.length + 1) u = res := ⟨_, rfl⟩
  obtain ⟨sa, sn, sc, rfl, hsn, hsc, hrow, -⟩ := h.own.form flatSp
  have HH := Lib.hid h
  have HM := Lib.hid hM
  have HAC := Lib.hid hA
  have HN := Lib.hid hn
  have HU := Lib.hid ha
  have HR := Lib.hid hres
  have HRW := Lib.hid hrow
  have HSN := Lib.hid hsn
  have d1 : W.cell? ⟨fp, 1, none⟩ = some (.slice sa sn sc) := h.blk.cell 1 _ rfl
  rw [hres]
  clear h hM hA hn ha hres hrow hsn hsc
  go_enter Tryd.func66, Tryd.ntmps66
  go_wp2
  refine wp_scope_jumps 0 (AbvJ fp n W ps ns id res) (fun a' _ => stepsN ns ns.length (ps.getD (plV (a'.tmps.getD 2 undef)) (0, 0))) rfl ?_ ?_
  · obtain ⟨x, hx⟩ : ∃ x, sp[a]? = some x := ⟨_, List.getElem?_eq_getElem (by rw [HM.out.ln]; exact (List.getElem?_eq_some_iff.1 HU.out).1)⟩
    obtain ⟨b, off, hab, hat⟩ := HRW.out a x hx
    subst hab
    have hal : a < sn := by rw [HSN.out]; exact (List.getElem?_eq_some_iff.1 hx).1
    have halz : (a : Int) < (sn : Int) := by omega
    have e0 : W.cell? ⟨b, off + a * 7, none⟩ = some (.bool x.th) := hat 0 _ rfl
    have e6 : W.cell? ⟨b, off + a * 7 + 6, none⟩ = some (.int .i64 (x.ab : Int)) := hat 6 _ rfl
    have HUN := Lib.hid (over_unroll HAC.out id u)
    by_cases hk : a = n
    · have hkz : ((a : Int) == (n : Int)) = true := by rw [beq_iff_eq]; omega
      have hkz2 : (a : Int) = (n : Int) := by omega
      have HE : Hid (res = true) := by
        have h1 := HUN.out
        have h2 := HN.out
        rw [← hk, HU.out] at h2
        injection h2 with h2
        show res = true
        rw [← HR.out, h1, if_pos h2]
      go_wp2_with fail
      go_step3
      go_wp2_with fail
      (try simp only [Exit.jump])
      go_ret
      exact ⟨by rw [HE.out]; rfl, rfl⟩
    · have hkz : ((a : Int) == (n : Int)) = false := by rw [beq_eq_false_iff_ne]; omega
      have hkz2 : ¬ (a : Int) = (n : Int) := by omega
      have hne : u ≠ id := fun e => hk (nodup_at HM.out.nd HU.out (by rw [e]; exact HN.out))
      cases hth : x.th
      · have HE : Hid (res = false) := by
          have h1 := HUN.out
          rw [if_neg hne, (HM.out.no a u x HU.out hx hth).2] at h1
          show res = false
          rw [← HR.out, h1]
        rw [hth] at e0
        go_wp2_with fail
        go_step3
        go_wp2_with fail
        (try simp only [Exit.jump])
        go_ret
        exact ⟨by rw [HE.out]; rfl, rfl⟩
      · obtain ⟨g1, g2, g3⟩ := HM.out.th a u x HU.out hx hth
        have HST := Lib.hid (stepsN_up HAC.out g2)
        have HE : Hid (overG ns id (ns.length + 1) x.n.par = res) := by
          have h1 := HUN.out
          rw [if_neg hne, g2] at h1
          show _ = res
          rw [← HR.out, h1]
        have HG3 := Lib.hid g3
        rw [hth] at e0
        clear g1 g2 g3 hth hne
        go_wp2_with fail
        go_step3
        go_wp2_with fail
        go_step3
        exact ⟨rfl, x.ab, x.n.par, _, _, _, _, _, _, _, _, _, _, _, _, _, _, _, _, _, _, _, _, _, _, _, _, rfl, rfl, HG3.out, HE.out⟩
  · rintro a' w' ⟨a2, u2, u3, u4, u5, u6, u7, u8, u9, u10, u11, u12, u13, u14, u15, u16, u17, u18, u19, u20, u21, u22, u23, u24, u25, u26, rfl, rfl, hu2, hr2⟩
    have HU := Lib.hid hu2
    have HR := Lib.hid hr2
    clear hu2 hr2
    obtain ⟨x, hx⟩ : ∃ x, sp[a2]? = some x := ⟨_, List.getElem?_eq_getElem (by rw [HM.out.ln]; exact (List.getElem?_eq_some_iff.1 HU.out).1)⟩
    obtain ⟨b, off, hab, hat⟩ := HRW.out a2 x hx
    subst hab
    have hal : a2 < sn := by rw [HSN.out]; exact (List.getElem?_eq_some_iff.1 hx).1
    have halz : (a2 : Int) < (sn : Int) := by omega
    have e0 : W.cell? ⟨b, off + a2 * 7, none⟩ = some (.bool x.th) := hat 0 _ rfl
    have e6 : W.cell? ⟨b, off + a2 * 7 + 6, none⟩ = some (.int .i64 (x.ab : Int)) := hat 6 _ rfl
    have HUN := Lib.hid (over_unroll HAC.out id u2)
    by_cases hk : a2 = n
    · have hkz : ((a2 : Int) == (n : Int)) = true := by rw [beq_iff_eq]; omega
      have hkz2 : (a2 : Int) = (n : Int) := by omega
      have HE : Hid (res = true) := by
        have h1 := HUN.out
        have h2 := HN.out
        rw [← hk, HU.out] at h2
        injection h2 with h2
        show res = true
        rw [← HR.out, h1, if_pos h2]
      go_wp2_with fail
      (try simp only [Exit.jump])
      go_ret
      exact ⟨by rw [HE.out]; rfl, rfl⟩
    · have hkz : ((a2 : Int) == (n : Int)) = false := by rw [beq_eq_false_iff_ne]; omega
      have hkz2 : ¬ (a2 : Int) = (n : Int) := by omega
      have hne : u2 ≠ id := fun e => hk (nodup_at HM.out.nd HU.out (by rw [e]; exact HN.out))
      cases hth : x.th
      · have HE : Hid (res = false) := by
          have h1 := HUN.out
          rw [if_neg hne, (HM.out.no a2 u2 x HU.out hx hth).2] at h1
          show res = false
          rw [← HR.out, h1]
        rw [hth] at e0
        go_wp2_with fail
        (try simp only [Exit.jump])
        go_ret
        exact ⟨by rw [HE.out]; rfl, rfl⟩
      · obtain ⟨g1, g2, g3⟩ := HM.out.th a2 u2 x HU.out hx hth
        have HST := Lib.hid (stepsN_up HAC.out g2)
        have HE : Hid (overG ns id (ns.length + 1) x.n.par = res) := by
          have h1 := HUN.out
          rw [if_neg hne, g2] at h1
          show _ = res
          rw [← HR.out, h1]
        have HG3 := Lib.hid g3
        rw [hth] at e0
        clear g1 g2 g3 hth hne
        go_wp2_with fail
        go_step3
        refine ⟨rfl, ⟨x.ab, x.n.par, _, _, _, _, _, _, _, _, _, _, _, _, _, _, _, _, _, _, _, _, _, _, _, _, rfl, rfl, HG3.out, HE.out⟩, ?_⟩
        have h1 := HST.out
        have h2 := HU.out
        have h3 := HG3.out
        show stepsN ns ns.length (ps.getD x.ab (0, 0)) < stepsN ns ns.length (ps.getD a2 (0, 0))
        rw [List.getD_eq_getElem?_getD, List.getD_eq_getElem?_getD, h2, h3]
        show stepsN ns ns.length x.n.par < stepsN ns ns.length u2
        omega
end Go.Proofs.YtjlbpmmckgjajaaDoor

/- A whole struct read, stored, told: at the operation. -/
namespace Go.Proofs.YtjlbpmmckgjajaaDoor
open Go.RowKit Go.Lib
set_option linter.unusedVariables false

theorem setsF_is (g o : Nat) : ∀ (r : List Value) (j : Nat) (w : World), setsF w g o r j = w.setCells g (o + j) r
  | [], j, w => rfl
  | u :: r, j, w => by rw [setsF, setsF_is g o r (j + 1)]; rfl
/-- a struct's cells lie at a place -/
def CellsAt (w : World) (g o : Nat) (cs : List Value) : Prop := ∀ j u, cs[j]? = some u → w.cell? ⟨g, o + j, none⟩ = some u
theorem loadVar_is {T : TypeId} {k : Nat} {w : World} {g o : Nat} {cs : List Value} (ha : ∀ w, (isAgg T).run Tryd.prog w = .ok true w) (hz : ∀ w, (Go.sizeOf T).run Tryd.prog w = .ok k w) (hk : cs.length = k) (h : CellsAt w g o cs) : (loadVar T ⟨g, o, none⟩).run Tryd.prog w = .ok (.agg cs.toArray) w := by
  have hl := run_loadCells_list (P := Tryd.prog) w ⟨g, o, none⟩ cs (fun j v hj => by rw [addr_add]; exact h j v hj)
  rw [hk] at hl
  simp [loadVar, Sem.run_bind, ha, hz, hl, Result.andThen]
theorem storeVar_is {T : TypeId} {k : Nat} {w : World} {g o : Nat} {cs : List Value} (hz : ∀ w, (Go.sizeOf T).run Tryd.prog w = .ok k w) (hk : cs.length = k) (h1 : ∀ v ∈ cs, v.oneCell' = true) (hc : ∀ j, j < k → (w.cell? ⟨g, o + j, none⟩).isSome = true) (hf : ∀ j, j < k → w.frozen? ⟨g, o + j, none⟩ = false) : (storeVar T ⟨g, o, none⟩ (.agg cs.toArray)).run Tryd.prog w = .ok () (setsF w g o cs 0) := by
  have hs := run_storeCells_cells (P := Tryd.prog) g o cs 0 w (fun j hj => by rw [Nat.add_zero]; exact hc j (by omega)) (fun j hj => by rw [Nat.add_zero]; exact hf j (by omega)) h1
  rw [Nat.add_zero] at hs
  rw [setsF_is, Nat.add_zero]
  simp [storeVar, Sem.run_bind, hz, hk, Value.cells, hs, Result.andThen]
theorem wpList_loadS {ops : Array Oper} {rest : List Oper} {o : Oper} {a : Act} {w : World} {Q : Exit → Act → World → Prop} (hgd : o.guard = none) (p : Operand) (T : TypeId) (ho : o.op = .load T p) (g f : Nat) (hp : a.eval p = .pointer (some ⟨g, f, none⟩)) (v : Value) (hr : (loadVar T ⟨g, f, none⟩).run Tryd.prog w = .ok v w) (h : wpList Tryd.prog ops Q rest (a.put o.dst v) w) : wpList Tryd.prog ops Q (o :: rest) a w := by
  refine wpList_plain hgd fun _ hK => ?_
  unfold Oper.wp
  simp [execOp, ho, hp, Instr.loadAt, Instr.sureAddr, hr, Result.andThen]
  exact hK _ _ h
theorem wpList_storeS {ops : Array Oper} {rest : List Oper} {o : Oper} {a : Act} {w w' : World} {Q : Exit → Act → World → Prop} (hgd : o.guard = none) (p x : Operand) (T : TypeId) (ho : o.op = .store T p x) (g f : Nat) (hp : a.eval p = .pointer (some ⟨g, f, none⟩)) (v : Value) (hx : a.eval x = v) (hr : (storeVar T ⟨g, f, none⟩ v).run Tryd.prog w = .ok () w') (h : wpList Tryd.prog ops Q rest (a.put o.dst undef) w') : wpList Tryd.prog ops Q (o :: rest) a w := by
  refine wpList_plain hgd fun _ hK => ?_
  unfold Oper.wp
  simp [execOp, ho, hp, hx, Instr.storeAt, Instr.sureAddr, hr, Result.andThen]
  exact hK _ _ h
theorem results_cell {fn : Func} {t : Nat} {T : TypeId} (h : fn.results = #[.cell t T]) (tmps : Array Value) (b : Addr) (hp : tmps.getD t undef = .pointer (some b)) {w : World} {v : Value} (hv : (loadVar T b).run Tryd.prog w = .ok v w) : (results fn tmps).run Tryd.prog w = .ok v w := by
  have hp2 : tmps[t]?.getD undef = .pointer (some b) := by rw [← hp]; simp
  simp [results, h, hp2, asAddr, hv]
end Go.Proofs.YtjlbpmmckgjajaaDoor
