/- Registers: mathematics: valid lists, setting, merging, getting; that merging is setting one by one; that the order of setting is nothing. -/
import Derived.Test.YtjpjjckokonkpaaDoorA1
namespace Go.Proofs.YtjpjjckokonkpaaDoor
open Go.RowKit Go.Lib
set_option linter.unusedVariables false

def zG : RgD := ⟨0, 0, 0, 0⟩
/-- a register that may be -/
def regB (x : RgD) : Bool := decide (Pr.errP x.p x.v = 0) && St.stB x.t x.r
/-- does the one ahead stand ahead? -/
def aheadB (xs : List RgD) (x : RgD) : Nat → Bool
  | 0 => true
  | j + 1 => match xs[j]? with | some y => decide (y.p < x.p) | none => true
theorem ahead_succ {xs : List RgD} {x y : RgD} {k : Nat} (h : xs[k]? = some y) : aheadB xs x (k + 1) = decide (y.p < x.p) := by simp [aheadB, h]
def okG (xs : List RgD) (k : Nat) : Bool := match xs[k]? with | none => true | some x => regB x && aheadB xs x k
/-- a list of registers that may be -/
def regsB (xs : List RgD) : Bool := (List.range xs.length).all (okG xs)
theorem regs_iff {xs : List RgD} : regsB xs = true ↔ ∀ k, k < xs.length → okG xs k = true := by unfold regsB; rw [List.all_eq_true]; simp
theorem regs_no {xs : List RgD} {k : Nat} (hk : k < xs.length) (h : okG xs k = false) : regsB xs = false := by
  cases hb : regsB xs
  · rfl
  · rw [regs_iff.1 hb k hk] at h
    cases h
theorem okG_is {xs : List RgD} {k : Nat} {x : RgD} (h : xs[k]? = some x) : okG xs k = (regB x && aheadB xs x k) := by unfold okG; rw [h]
/-- strictly ascending -/
def Asc (xs : List RgD) : Prop := xs.Pairwise fun a b => a.p < b.p
theorem asc_of_next : ∀ {xs : List RgD}, (∀ k x y, xs[k]? = some x → xs[k + 1]? = some y → x.p < y.p) → Asc xs
  | [], _ => List.Pairwise.nil
  | [x], _ => List.pairwise_singleton _ _
  | x :: y :: r, h => by
    have ih : Asc (y :: r) := asc_of_next fun k a b ha hb => h (k + 1) a b (by simpa using ha) (by simpa using hb)
    have hxy : x.p < y.p := h 0 x y rfl rfl
    refine List.Pairwise.cons (fun a ha => ?_) ih
    rcases List.mem_cons.1 ha with rfl | ha
    · exact hxy
    · exact Int.lt_trans hxy (List.rel_of_pairwise_cons ih ha)
theorem regs_asc {xs : List RgD} (h : regsB xs = true) : Asc xs := asc_of_next fun k x y hx hy => by
  have h1 := regs_iff.1 h (k + 1) (List.getElem?_eq_some_iff.1 hy).1
  rw [okG_is hy, Bool.and_eq_true, ahead_succ hx, decide_eq_true_eq] at h1
  exact h1.2
theorem regs_all {xs : List RgD} (h : regsB xs = true) {x : RgD} (hx : x ∈ xs) : regB x = true := by
  obtain ⟨k, hk⟩ := List.getElem?_of_mem hx
  have h1 := regs_iff.1 h k (List.getElem?_eq_some_iff.1 hk).1
  rw [okG_is hk, Bool.and_eq_true] at h1
  exact h1.1
theorem regs_of {xs : List RgD} (h1 : Asc xs) (h2 : ∀ x ∈ xs, regB x = true) : regsB xs = true := regs_iff.2 fun k hk => by
  obtain ⟨x, hx⟩ : ∃ x, xs[k]? = some x := ⟨_, List.getElem?_eq_getElem hk⟩
  rw [okG_is hx, Bool.and_eq_true]
  refine ⟨h2 x (List.mem_of_getElem? hx), ?_⟩
  match k, hk, hx with
  | 0, _, _ => rfl
  | k + 1, hk, hx =>
    obtain ⟨y, hy⟩ : ∃ y, xs[k]? = some y := ⟨_, List.getElem?_eq_getElem (by omega)⟩
    rw [ahead_succ hy, decide_eq_true_eq]
    obtain ⟨hk1, rfl⟩ := List.getElem?_eq_some_iff.1 hx
    obtain ⟨hk2, rfl⟩ := List.getElem?_eq_some_iff.1 hy
    exact List.pairwise_iff_getElem.1 h1 k (k + 1) hk2 hk1 (Nat.lt_succ_self k)
theorem regs_iff' {xs : List RgD} : regsB xs = true ↔ Asc xs ∧ ∀ x ∈ xs, regB x = true := ⟨fun h => ⟨regs_asc h, fun _ hx => regs_all h hx⟩, fun h => regs_of h.1 h.2⟩

/-- the stamp below another's -/
def belG (x y : RgD) : Bool := decide (St.cmpS x.t x.r y.t y.r < 0)
/-- the later one, the first of equal ones -/
def latG (x y : RgD) : RgD := if belG x y then y else x
theorem lat_p {x y : RgD} (h : x.p = y.p) : (latG x y).p = x.p := by unfold latG; split <;> simp [h]
theorem lat_or (x y : RgD) : latG x y = x ∨ latG x y = y := by unfold latG; split <;> simp
/-- both lists, the later one of each property (reg.merged) -/
def mergeG : List RgD → List RgD → List RgD
  | [], b => b
  | x :: a, [] => x :: a
  | x :: a, y :: b => if x.p < y.p then x :: mergeG a (y :: b) else if y.p < x.p then y :: mergeG (x :: a) b else latG x y :: mergeG a b
termination_by a b => a.length + b.length
theorem mergeG_nil_l (b : List RgD) : mergeG [] b = b := by rw [mergeG]
theorem mergeG_nil_r (a : List RgD) : mergeG a [] = a := by cases a <;> rw [mergeG]
theorem mergeG_lt {x y : RgD} {a b : List RgD} (h : x.p < y.p) : mergeG (x :: a) (y :: b) = x :: mergeG a (y :: b) := by rw [mergeG, if_pos h]
theorem mergeG_gt {x y : RgD} {a b : List RgD} (h : y.p < x.p) : mergeG (x :: a) (y :: b) = y :: mergeG (x :: a) b := by rw [mergeG, if_neg (by omega), if_pos h]
theorem mergeG_eq {x y : RgD} {a b : List RgD} (h : x.p = y.p) : mergeG (x :: a) (y :: b) = latG x y :: mergeG a b := by rw [mergeG, if_neg (by omega), if_neg (by omega)]
theorem mergeG_len : ∀ (a b : List RgD), (mergeG a b).length ≤ a.length + b.length
  | [], b => by rw [mergeG_nil_l]; simp
  | x :: a, [] => by rw [mergeG_nil_r]; simp
  | x :: a, y :: b => by
    rcases Int.lt_trichotomy x.p y.p with h | h | h
    · rw [mergeG_lt h]; have := mergeG_len a (y :: b); simp at this ⊢; omega
    · rw [mergeG_eq h]; have := mergeG_len a b; simp at this ⊢; omega
    · rw [mergeG_gt h]; have := mergeG_len (x :: a) b; simp at this ⊢; omega
termination_by a b => a.length + b.length
theorem mergeG_mem : ∀ (a b : List RgD) (z : RgD), z ∈ mergeG a b → z ∈ a ∨ z ∈ b
  | [], b, z, h => by rw [mergeG_nil_l] at h; exact .inr h
  | x :: a, [], z, h => by rw [mergeG_nil_r] at h; exact .inl h
  | x :: a, y :: b, z, h => by
    rcases Int.lt_trichotomy x.p y.p with hp | hp | hp
    · rw [mergeG_lt hp] at h
      rcases List.mem_cons.1 h with rfl | h
      · simp
      · rcases mergeG_mem a (y :: b) z h with h | h
        · exact .inl (List.mem_cons_of_mem _ h)
        · exact .inr h
    · rw [mergeG_eq hp] at h
      rcases List.mem_cons.1 h with rfl | h
      · rcases lat_or x y with e | e <;> rw [e] <;> simp
      · rcases mergeG_mem a b z h with h | h
        · exact .inl (List.mem_cons_of_mem _ h)
        · exact .inr (List.mem_cons_of_mem _ h)
    · rw [mergeG_gt hp] at h
      rcases List.mem_cons.1 h with rfl | h
      · simp
      · rcases mergeG_mem (x :: a) b z h with h | h
        · exact .inl h
        · exact .inr (List.mem_cons_of_mem _ h)
termination_by a b => a.length + b.length
theorem asc_cons {x : RgD} {a : List RgD} : Asc (x :: a) ↔ (∀ y ∈ a, x.p < y.p) ∧ Asc a := List.pairwise_cons
theorem mergeG_asc : ∀ {a b : List RgD}, Asc a → Asc b → Asc (mergeG a b)
  | [], b, _, hb => by rw [mergeG_nil_l]; exact hb
  | x :: a, [], ha, _ => by rw [mergeG_nil_r]; exact ha
  | x :: a, y :: b, ha, hb => by
    have ha' := asc_cons.1 ha
    have hb' := asc_cons.1 hb
    rcases Int.lt_trichotomy x.p y.p with hp | hp | hp
    · rw [mergeG_lt hp, asc_cons]
      refine ⟨fun z hz => ?_, mergeG_asc ha'.2 hb⟩
      rcases mergeG_mem _ _ _ hz with h | h
      · exact ha'.1 z h
      · rcases List.mem_cons.1 h with rfl | h
        · exact hp
        · exact Int.lt_trans hp (hb'.1 z h)
    · rw [mergeG_eq hp, asc_cons, lat_p hp]
      refine ⟨fun z hz => ?_, mergeG_asc ha'.2 hb'.2⟩
      rcases mergeG_mem _ _ _ hz with h | h
      · exact ha'.1 z h
      · rw [hp]; exact hb'.1 z h
    · rw [mergeG_gt hp, asc_cons]
      refine ⟨fun z hz => ?_, mergeG_asc ha hb'.2⟩
      rcases mergeG_mem _ _ _ hz with h | h
      · rcases List.mem_cons.1 h with rfl | h
        · exact hp
        · exact Int.lt_trans hp (ha'.1 z h)
      · exact hb'.1 z h
termination_by a b => a.length + b.length
/-- what a list has of a property -/
def getG (xs : List RgD) (p : Int) : Option RgD := xs.find? fun x => x.p == p
theorem getG_nil (p : Int) : getG [] p = none := rfl
theorem getG_cons (x : RgD) (a : List RgD) (p : Int) : getG (x :: a) p = if x.p = p then some x else getG a p := by
  unfold getG
  by_cases h : x.p = p
  · rw [List.find?_cons_of_pos (by simpa using h), if_pos h]
  · rw [List.find?_cons_of_neg (by simpa using h), if_neg h]
theorem getG_some {xs : List RgD} {p : Int} {x : RgD} (h : getG xs p = some x) : x ∈ xs ∧ x.p = p := by
  unfold getG at h
  exact ⟨List.mem_of_find?_eq_some h, by simpa using List.find?_some h⟩
theorem getG_low {xs : List RgD} {p : Int} (h : ∀ y ∈ xs, p < y.p) : getG xs p = none := by
  unfold getG
  rw [List.find?_eq_none]
  intro y hy
  have := h y hy
  simp; omega
/-- two ascending lists that have the same of every property are the same -/
theorem asc_ext : ∀ {a b : List RgD}, Asc a → Asc b → (∀ p, getG a p = getG b p) → a = b
  | [], [], _, _, _ => rfl
  | [], y :: b, _, _, h => by have := h y.p; rw [getG_nil, getG_cons, if_pos rfl] at this; cases this
  | x :: a, [], _, _, h => by have := h x.p; rw [getG_nil, getG_cons, if_pos rfl] at this; cases this
  | x :: a, y :: b, ha, hb, h => by
    have ha' := asc_cons.1 ha
    have hb' := asc_cons.1 hb
    have hp : x.p = y.p := by
      rcases Int.lt_trichotomy x.p y.p with hp | hp | hp
      · have h1 := h x.p
        rw [getG_cons, if_pos rfl, getG_low (xs := y :: b) (fun z hz => by
          rcases List.mem_cons.1 hz with rfl | hz
          · exact hp
          · exact Int.lt_trans hp (hb'.1 z hz))] at h1
        cases h1
      · exact hp
      · have h1 := h y.p
        rw [getG_cons (x := y), if_pos rfl, getG_low (xs := x :: a) (fun z hz => by
          rcases List.mem_cons.1 hz with rfl | hz
          · exact hp
          · exact Int.lt_trans hp (ha'.1 z hz))] at h1
        cases h1
    have hxy : x = y := by
      have h1 := h x.p
      rw [getG_cons, if_pos rfl, getG_cons, if_pos hp.symm] at h1
      exact Option.some.inj h1
    subst hxy
    rw [asc_ext ha'.2 hb'.2 fun p => ?_]
    by_cases hq : x.p = p
    · subst hq
      rw [getG_low ha'.1, getG_low hb'.1]
    · have h1 := h p
      rw [getG_cons, if_neg hq, getG_cons, if_neg hq] at h1
      exact h1
/-- the later one of what two have -/
def optG : Option RgD → Option RgD → Option RgD
  | none, y => y
  | some x, none => some x
  | some x, some y => some (latG x y)
theorem optG_none (o : Option RgD) : optG o none = o := by cases o <;> rfl
theorem mergeG_get : ∀ {a b : List RgD}, Asc a → Asc b → ∀ p, getG (mergeG a b) p = optG (getG a p) (getG b p)
  | [], b, _, _, p => by rw [mergeG_nil_l]; rfl
  | x :: a, [], _, _, p => by rw [mergeG_nil_r, getG_nil, optG_none]
  | x :: a, y :: b, ha, hb, p => by
    have ha' := asc_cons.1 ha
    have hb' := asc_cons.1 hb
    rcases Int.lt_trichotomy x.p y.p with hp | hp | hp
    · rw [mergeG_lt hp, getG_cons, mergeG_get ha'.2 hb p, getG_cons (x := x)]
      by_cases h : x.p = p
      · rw [if_pos h, if_pos h, getG_low (xs := y :: b) (fun z hz => by
          rcases List.mem_cons.1 hz with rfl | hz
          · omega
          · have := hb'.1 z hz; omega)]
        rfl
      · rw [if_neg h, if_neg h]
    · rw [mergeG_eq hp, getG_cons, lat_p hp, mergeG_get ha'.2 hb'.2 p, getG_cons (x := x), getG_cons (x := y)]
      by_cases h : x.p = p
      · rw [if_pos h, if_pos h, if_pos (by omega)]
        rfl
      · rw [if_neg h, if_neg h, if_neg (by omega)]
    · rw [mergeG_gt hp, getG_cons, mergeG_get ha hb'.2 p, getG_cons (x := y) (a := b)]
      by_cases h : y.p = p
      · rw [if_pos h, if_pos h, getG_low (xs := x :: a) (fun z hz => by
          rcases List.mem_cons.1 hz with rfl | hz
          · omega
          · have := ha'.1 z hz; omega)]
        rfl
      · rw [if_neg h, if_neg h]
termination_by a b => a.length + b.length
theorem mergeG_regs {a b : List RgD} (ha : regsB a = true) (hb : regsB b = true) : regsB (mergeG a b) = true :=
  regs_of (mergeG_asc (regs_asc ha) (regs_asc hb)) fun z hz => by
    rcases mergeG_mem _ _ _ hz with h | h
    · exact regs_all ha h
    · exact regs_all hb h

/-- the page's way of setting one -/
def setG (x : RgD) : Bool → List RgD → List RgD
  | b, [] => if b then [] else [x]
  | b, y :: r => if y.p = x.p then (if belG y x then x else y) :: setG x true r else if b then y :: setG x true r else if x.p < y.p then x :: y :: setG x true r else y :: setG x false r
theorem setG_true : ∀ {x : RgD} {a : List RgD}, (∀ y ∈ a, x.p < y.p) → setG x true a = a
  | x, [], _ => rfl
  | x, y :: r, h => by
    have hy := h y (List.mem_cons_self ..)
    rw [setG, if_neg (by omega), if_pos rfl, setG_true fun z hz => h z (List.mem_cons_of_mem _ hz)]
theorem setG_merge : ∀ {x : RgD} {a : List RgD}, Asc a → setG x false a = mergeG a [x]
  | x, [], _ => by rw [mergeG_nil_l]; rfl
  | x, y :: r, h => by
    have h' := asc_cons.1 h
    rw [setG]
    rcases Int.lt_trichotomy y.p x.p with hp | hp | hp
    · rw [if_neg (by omega), if_neg (by simp), if_neg (by omega), mergeG_lt hp, setG_merge h'.2]
    · rw [if_pos hp, mergeG_eq hp, mergeG_nil_r, setG_true (fun z hz => by have := h'.1 z hz; omega)]
      rfl
    · rw [if_neg (by omega), if_neg (by simp), if_pos hp, mergeG_gt hp, mergeG_nil_r, setG_true (fun z hz => by have := h'.1 z hz; omega)]
theorem setG_len : ∀ (x : RgD) (b : Bool) (a : List RgD), (setG x b a).length ≤ a.length + 1
  | x, b, [] => by cases b <;> simp [setG]
  | x, b, y :: r => by
    have h1 := setG_len x true r
    have h2 := setG_len x false r
    have h3 : (setG x true r).length ≤ r.length ∨ True := .inr trivial
    rw [setG]
    split
    · simp; omega
    · split
      · simp; omega
      · split
        · have h4 : ∀ s : List RgD, (setG x true s).length = s.length := by
            intro s
            induction s with
            | nil => rfl
            | cons z s ih => rw [setG]; split <;> simp [ih]
          simp [h4 r]
        · simp; omega
theorem getG_one (x : RgD) (p : Int) : getG [x] p = if x.p = p then some x else none := by rw [getG_cons, getG_nil]
theorem asc_one (x : RgD) : Asc [x] := List.pairwise_singleton _ _
/-- a list brought into another one by one -/
theorem merge_fold : ∀ {a b : List RgD}, Asc a → Asc b → b.foldl (fun l x => setG x false l) a = mergeG a b
  | a, [], _, _ => by rw [mergeG_nil_r]; rfl
  | a, y :: b, ha, hb => by
    have hb' := asc_cons.1 hb
    rw [List.foldl_cons, setG_merge ha, merge_fold (mergeG_asc ha (asc_one y)) hb'.2]
    refine asc_ext (mergeG_asc (mergeG_asc ha (asc_one y)) hb'.2) (mergeG_asc ha hb) fun p => ?_
    rw [mergeG_get (mergeG_asc ha (asc_one y)) hb'.2, mergeG_get ha (asc_one y), mergeG_get ha hb, getG_one, getG_cons]
    by_cases h : y.p = p
    · rw [if_pos h, if_pos h, getG_low (xs := b) (p := p) (fun z hz => by have := hb'.1 z hz; omega), optG_none]
    · rw [if_neg h, if_neg h, optG_none]
/-- a list brought together with itself is itself -/
theorem belG_self (x : RgD) : belG x x = false := by unfold belG St.cmpS St.cmpI; simp
theorem merge_self : ∀ (a : List RgD), mergeG a a = a
  | [] => by rw [mergeG_nil_l]
  | x :: a => by rw [mergeG_eq rfl, merge_self a]; unfold latG; rw [belG_self]; rfl
end Go.Proofs.YtjpjjckokonkpaaDoor
