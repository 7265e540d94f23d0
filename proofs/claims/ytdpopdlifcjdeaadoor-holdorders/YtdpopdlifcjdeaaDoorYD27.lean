/- Joined: D27. -/
import Derived.Test.YtdpopdlifcjdeaaDoorYD16
import Derived.Test.YtdpopdlifcjdeaaDoorYD26

/- Hold: the page's Take: mathematics, and what is held on the way. -/
namespace Go.Proofs.YtdpopdlifcjdeaaDoor
open Go.RowKit Go.Lib
set_option linter.unusedVariables false

/-- what Take makes of it, by the page -/
def TakeIs (v : List Int) (hs : List OpD) (o : OpD) (a : List Int) (b d : List OpD) (z : Int) : Prop :=
  (knownB v hs o = true ∧ a = v ∧ b = hs ∧ d = [] ∧ z = 0) ∨
  (knownB v hs o = false ∧ readyB v o = true ∧ (a, d) = freeG hs hs.length (setV v o) [o] ∧ b = aboveL a hs ∧ z = 0) ∨
  (knownB v hs o = false ∧ readyB v o = false ∧ (decide (16 ≤ hs.length) || stampB hs o) = true ∧ a = v ∧ b = hs ∧ d = [] ∧ z = 5) ∨
  (knownB v hs o = false ∧ readyB v o = false ∧ (decide (16 ≤ hs.length) || stampB hs o) = false ∧ a = v ∧ (∃ p, PosIs hs o p ∧ b = hs.take p ++ o :: hs.drop p) ∧ d = [] ∧ z = 0)

theorem find_above {v : List Int} : ∀ {l : List OpD}, l.find? (readyB v) = (aboveL v l).find? (readyB v)
  | [] => rfl
  | x :: l => by
    unfold aboveL
    cases hr : readyB v x
    · have ih := find_above (v := v) (l := l)
      unfold aboveL at ih
      cases hn : newB v x
      · rw [List.find?_cons, hr, List.filter_cons_of_neg (by simp [hn])]
        exact ih
      · rw [List.find?_cons, hr, List.filter_cons_of_pos hn, List.find?_cons, hr]
        exact ih
    · have hn : newB v x = true := by
        unfold newB
        rw [ready_new hr, decide_eq_true_eq]
        omega
      rw [List.find?_cons, hr, List.filter_cons_of_pos hn, List.find?_cons, hr]
/-- the page's state while it takes -/
structure PgM (hs : List OpD) (fin : List Int × List OpD) (v : List Int) (rest tk : List OpD) (i f : Nat) : Prop where
  eq : freeG hs f v tk = fin
  ct : cntN v hs ≤ f
  ab : aboveL v rest = aboveL v hs
  no : ∀ j y, j < i → rest[j]? = some y → readyB v y = false
  fr : ∀ y ∈ rest, fitsB v y = true
  fh : ∀ y ∈ hs, fitsB v y = true
theorem PgM.skip {hs : List OpD} {fin : List Int × List OpD} {v : List Int} {rest tk : List OpD} {i f : Nat} (h : PgM hs fin v rest tk i f) {x : OpD} (hx : rest[i]? = some x) (hr : readyB v x = false) : PgM hs fin v rest tk (i + 1) f :=
  ⟨h.eq, h.ct, h.ab, fun j y hj hy => by
    by_cases e : j = i
    · subst e
      rw [hx] at hy
      injection hy with hy
      rw [← hy]; exact hr
    · exact h.no j y (by omega) hy, h.fr, h.fh⟩
theorem find_first {p : OpD → Bool} : ∀ {l : List OpD} {i : Nat} {x : OpD}, (∀ j y, j < i → l[j]? = some y → p y = false) → l[i]? = some x → p x = true → l.find? p = some x
  | [], i, x, _, hx, _ => by simp at hx
  | y :: l, 0, x, _, hx, hp => by
    simp only [List.getElem?_cons_zero, Option.some.injEq] at hx
    subst hx
    rw [List.find?_cons, hp]
  | y :: l, i + 1, x, h, hx, hp => by
    rw [List.find?_cons, h 0 y (by omega) rfl]
    exact find_first (i := i) (fun j z hj hz => h (j + 1) z (Nat.succ_lt_succ hj) (by rw [List.getElem?_cons_succ]; exact hz)) (by simpa using hx) hp
theorem above_above {v : List Int} {x : OpD} {l : List OpD} (hx : 0 ≤ x.1.r) (hl : x.1.r.toNat < v.length) (hr : atV v x ≤ x.2) (hy : ∀ y ∈ l, 0 ≤ y.1.r) : aboveL (setV v x) l = aboveL (setV v x) (aboveL v l) := by
  unfold aboveL
  rw [List.filter_filter]
  apply List.filter_congr
  intro y hyl
  cases ha : newB (setV v x) y
  · rfl
  · rw [newB_mono hx hl (hy y hyl) hr ha]; rfl
theorem above_drop {v : List Int} {l : List OpD} {i : Nat} {x : OpD} (hx : l[i]? = some x) (hn : newB v x = false) : aboveL v (l.take i ++ l.drop (i + 1)) = aboveL v l := by
  have h := drop_at hx
  unfold aboveL
  conv => rhs; rw [← List.take_append_drop i l, h]
  rw [List.filter_append, List.filter_append, List.filter_cons_of_neg (by simp [hn])]
theorem PgM.take {hs : List OpD} {fin : List Int × List OpD} {v : List Int} {rest tk : List OpD} {i f : Nat} (h : PgM hs fin v rest tk i f) {x : OpD} (hx : rest[i]? = some x) (hr : readyB v x = true) : ∃ f', f = f' + 1 ∧ PgM hs fin (setV v x) (rest.take i ++ rest.drop (i + 1)) (tk ++ [x]) 0 f' := by
  have hfd : hs.find? (readyB v) = some x := by rw [find_above, ← h.ab, ← find_above]; exact find_first h.no hx hr
  have hmx := List.mem_of_getElem? hx
  have hfx := h.fr x hmx
  have hv := (fits_iff.1 hfx).1
  have hc := cntN_less hv h.fh hfd
  have hct := h.ct
  have hlt := fits_lt hfx
  have hrn := ready_new hr
  obtain ⟨f', rfl⟩ : ∃ f', f = f' + 1 := ⟨f - 1, by omega⟩
  refine ⟨f', rfl, ?_, by omega, ?_, fun j y hj => absurd hj (Nat.not_lt_zero _), fun y hy => fits_set hfx (h.fr y ?_), fun y hy => fits_set hfx (h.fh y hy)⟩
  · rw [← h.eq, freeG_some hfd]
  · rw [above_drop hx (newB_self hlt.2 hlt.1), above_above hlt.2 hlt.1 (by omega) (fun y hy => (fits_lt (h.fr y hy)).2), h.ab, ← above_above hlt.2 hlt.1 (by omega) (fun y hy => (fits_lt (h.fh y hy)).2)]
  · rcases List.mem_append.1 hy with hy | hy
    · exact List.mem_of_mem_take hy
    · exact List.mem_of_mem_drop hy
theorem PgM.done {hs : List OpD} {fin : List Int × List OpD} {v : List Int} {rest tk : List OpD} {i f : Nat} (h : PgM hs fin v rest tk i f) (hi : rest.length ≤ i) : fin = (v, tk) := by
  rw [← h.eq]
  apply freeG_none
  rw [find_above, ← h.ab, ← find_above, List.find?_eq_none]
  intro y hy
  obtain ⟨j, hj⟩ := List.getElem?_of_mem hy
  rw [h.no j y (by have := (List.getElem?_eq_some_iff.1 hj).1; omega) hj]
  simp
theorem above_self {v : List Int} {l : List OpD} (h : ∀ j y, j < l.length → l[j]? = some y → newB v y = true) : aboveL v l = l := by
  unfold aboveL
  rw [List.filter_eq_self]
  intro y hy
  obtain ⟨j, hj⟩ := List.getElem?_of_mem hy
  exact h j y (List.getElem?_eq_some_iff.1 hj).1 hj
theorem ownO_one (w : World) (base : Nat) (x : OpD) (da : Option Addr) (dn dc : Nat) (hb : base ≤ w.heap.size) : OwnO (w.alloc (objO x da dn dc)) base (.slice (some ⟨w.heap.size, 0, none⟩) 1 1) [x] [.slice da dn dc] :=
  ⟨rfl, rfl, .inr ⟨w.heap.size, 1, _, rfl, hb, heap_alloc_new w _, Nat.le_refl _, by unfold maxLen; omega, rfl, rfl⟩⟩

/-- the page's memory while it takes -/
structure PtS (w W : World) (B gv cv vn : Nat) (v : List Int) (ha : Option Addr) (n c : Nat) (hs : List OpD) (dl : List Value) (ta : Option Addr) (tn tc : Nat) (tk : List OpD) (tl : List Value) : Prop where
  vge : w.heap.size ≤ gv
  vlt : gv < B
  bge : w.heap.size ≤ B
  ble : B ≤ W.heap.size
  own : OwnK .i64 3 W w.heap.size (.slice (some ⟨gv, 0, none⟩) vn cv) v
  len : v.length = vn
  hld : OwnO W B (.slice ha n c) hs dl
  hdp : DepsN W B hs dl
  tak : OwnO W B (.slice ta tn tc) tk tl
  tdp : DepsN W B tk tl
  apt : (Value.slice ha n c).ownBlock = none ∨ (Value.slice ha n c).ownBlock ≠ (Value.slice ta tn tc).ownBlock
  bel : Below w.heap.size w W
section
variable {w W W' : World} {B gv cv vn : Nat} {v : List Int} {ha : Option Addr} {n c : Nat} {hs : List OpD} {dl : List Value} {ta : Option Addr} {tn tc : Nat} {tk : List OpD} {tl : List Value}
theorem PtS.next (h : PtS w W B gv cv vn v ha n c hs dl ta tn tc tk tl) (hb : Below W.heap.size W W') : PtS w W' B gv cv vn v ha n c hs dl ta tn tc tk tl :=
  ⟨h.vge, h.vlt, h.bge, Nat.le_trans h.ble hb.size, h.own.below hb, h.len, h.hld.below hb, h.hdp.below hb, h.tak.below hb, h.tdp.below hb, h.apt, h.bel.trans (hb.mono h.bel.size)⟩
theorem PtS.vec (h : PtS w W B gv cv vn v ha n c hs dl ta tn tc tk tl) : RowK .i64 W (some ⟨gv, 0, none⟩) v := ownK_row h.own
theorem PtS.held (h : PtS w W B gv cv vn v ha n c hs dl ta tn tc tk tl) : n = hs.length ∧ n ≤ c ∧ RowO W ha hs := by
  obtain ⟨a, n', c', e, h1, h2, h3⟩ := h.hld.row h.hdp.read
  injection e with e1 e2 e3
  subst e1 e2 e3
  exact ⟨h1, h2, h3⟩
theorem PtS.taken (h : PtS w W B gv cv vn v ha n c hs dl ta tn tc tk tl) : tn = tk.length ∧ tn ≤ tc ∧ RowO W ta tk := by
  obtain ⟨a, n', c', e, h1, h2, h3⟩ := h.tak.row h.tdp.read
  injection e with e1 e2 e3
  subst e1 e2 e3
  exact ⟨h1, h2, h3⟩
theorem PtS.write (h : PtS w W B gv cv vn v ha n c hs dl ta tn tc tk tl) (x : OpD) : PtS w (W.setCell ⟨gv, x.1.r.toNat, none⟩ (.int .i64 x.2)) B gv cv vn (setV v x) ha n c hs dl ta tn tc tk tl :=
  ⟨h.vge, h.vlt, h.bge, by rw [World.size_setCell]; exact h.ble, OwnK.stored h.len h.own _ _, by rw [setV_len]; exact h.len, h.hld.far h.vlt _ _, h.hdp.far h.vlt _ _, h.tak.far h.vlt _ _, h.tdp.far h.vlt _ _, h.apt, h.bel.setCell (p := ⟨gv, x.1.r.toNat, none⟩) h.vge _⟩
theorem PtS.push {x : OpD} {d v' : Value} (h : PtS w W B gv cv vn v ha n c hs dl ta tn tc tk tl) (hd : OwnK .i64 3 W B d x.1.ds) (hl : x.1.ds.length ≤ 17592186044416) (ho : OwnO W' B v' (tk ++ [x]) (tl ++ [d])) (hg : W.grownBy W' (Value.slice ta tn tc).ownBlock) (hlies : v'.ownBlock = (Value.slice ta tn tc).ownBlock ∨ v'.ownBlock = some W.heap.size) :
    ∃ ta' tc', v' = .slice ta' (tn + 1) tc' ∧ PtS w W' B gv cv vn v ha n c hs dl ta' (tn + 1) tc' (tk ++ [x]) (tl ++ [d]) := by
  obtain ⟨a, n', c', e, h1, h2, h3⟩ := ho.form
  have ht := h.taken.1
  obtain rfl : n' = tn + 1 := by rw [h1, List.length_append, List.length_singleton, ht]
  subst e
  refine ⟨a, c', rfl, h.vge, h.vlt, h.bge, Nat.le_trans h.ble hg.size, h.own.grown hg (apart_types h.own h.tak), h.len, h.hld.grown hg h.apt, h.hdp.grown h.tak hg, ho, DepsN.append (h.tdp.grown h.tak hg) (DepsN.one (hd.grown hg (apart_types hd h.tak)) hl) h.tak.len, ?_, h.bel.grown hg h.bel.size (fun g hgg => Nat.le_trans h.bge (h.tak.lt hgg).1)⟩
  rcases hlies with e | e
  · rw [e]; exact h.apt
  · rw [e]
    cases hb : (Value.slice ha n c).ownBlock with
    | none => exact .inl rfl
    | some g => exact .inr fun q => by have := (h.hld.lt hb).2; injection q with q; omega
theorem PtS.swap {ha' : Option Addr} {n' c' : Nat} {hs' : List OpD} {dl' : List Value} (h : PtS w W B gv cv vn v ha n c hs dl ta tn tc tk tl) (ho : OwnO W B (.slice ha' n' c') hs' dl') (hd : DepsN W B hs' dl') (ha2 : (Value.slice ha' n' c').ownBlock = none ∨ (Value.slice ha' n' c').ownBlock ≠ (Value.slice ta tn tc).ownBlock) : PtS w W B gv cv vn v ha' n' c' hs' dl' ta tn tc tk tl :=
  ⟨h.vge, h.vlt, h.bge, h.ble, h.own, h.len, ho, hd, h.tak, h.tdp, ha2, h.bel⟩
end
end Go.Proofs.YtdpopdlifcjdeaaDoor
