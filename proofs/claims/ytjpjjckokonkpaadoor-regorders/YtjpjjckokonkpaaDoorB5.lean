/- Registers: rows of acts owned; in whatever order they are set (mathematics). -/
import Derived.Test.YtjpjjckokonkpaaDoorA11
import Derived.Test.YtjpjjckokonkpaaDoorKK
namespace Go.Proofs.YtjpjjckokonkpaaDoor
open Go.RowKit Go.Lib
set_option linter.unusedVariables false

abbrev objH (x : RgD) : Obj := .cells #[.int .i64 x.p, .int .i64 x.v, .int .i64 x.t, .int .i64 x.r] 31
theorem actH_new (w : World) (x : RgD) : RgAt (w.alloc (objH x)) w.heap.size 0 x := ⟨by simp, by simp, by simp, by simp⟩
theorem Tryd.info31 : (Tryd.prog.info? 31).map (fun i => (i.zero, i.size, i.bytes)) = some (some (.agg #[.int .i64 0, .int .i64 0, .int .i64 0, .int .i64 0]), 4, 32) := by kernel_rfl
/-- a row of acts that the call owns -/
def OwnH (w : World) (base : Nat) (v : Value) (xs : List RgD) : Prop := w.ownsRow base 31 4 v xs.length (cellsG xs)
theorem OwnH.nil (w : World) (base : Nat) : OwnH w base (.slice none 0 0) [] := World.ownsRow_nil w base 31 4
theorem OwnH.grown {w w' : World} {base : Nat} {v : Value} {xs : List RgD} {row : Option Nat} (h : OwnH w base v xs) (hg : w.grownBy w' row) (hne : v.ownBlock = none ∨ v.ownBlock ≠ row) : OwnH w' base v xs := World.ownsRow.kept h hg hne
theorem OwnH.below {w w' : World} {base : Nat} {v : Value} {xs : List RgD} (h : OwnH w base v xs) (hb : Below w.heap.size w w') : OwnH w' base v xs := h.grown (row := none) ⟨hb.os, hb.tape, hb.output, hb.size, fun k hk _ => hb.block k hk⟩ (by cases h : v.ownBlock <;> simp)
theorem OwnH.alloc {w : World} {base : Nat} {v : Value} {xs : List RgD} (h : OwnH w base v xs) (o : Obj) : OwnH (w.alloc o) base v xs := h.below (bel1 w o)
theorem OwnH.mono {w : World} {base base' : Nat} {v : Value} {xs : List RgD} (h : OwnH w base v xs) (hb : base' ≤ base) : OwnH w base' v xs := by
  refine ⟨h.1, ?_⟩
  rcases h.2 with hn | ⟨g, cap, cur, e, h1, h2⟩
  · exact .inl hn
  · exact .inr ⟨g, cap, cur, e, by omega, h2⟩
theorem OwnH.lt {w : World} {base : Nat} {v : Value} {xs : List RgD} (h : OwnH w base v xs) {g : Nat} (hg : v.ownBlock = some g) : base ≤ g ∧ g < w.heap.size := World.ownsRow.lt h g hg
theorem OwnH.form {w : World} {base : Nat} {v : Value} {xs : List RgD} (h : OwnH w base v xs) : ∃ a n cap, v = .slice a n cap ∧ n = xs.length ∧ n ≤ cap ∧ RowG w a xs := by
  rcases h.2 with ⟨rfl, h0⟩ | ⟨g, cap, cur, rfl, hg, hh, hn, hm, hs, ht⟩
  · refine ⟨none, 0, 0, rfl, h0.symm, Nat.le_refl _, ?_⟩
    rw [List.eq_nil_of_length_eq_zero h0]
    exact RowG.nil _ _
  · refine ⟨_, _, cap, rfl, rfl, hn, fun i x hi => ⟨g, 0, rfl, ?_⟩⟩
    have hc : ∀ j u, x.vals[j]? = some u → w.cell? ⟨g, 0 + i * 4 + j, none⟩ = some u := fun j u hu => by
      have hc := World.ownsRow.cells h (g := g) rfl (i * 4 + j) u (cellsG_at i hi j u hu)
      rw [addr_add] at hc
      rw [Nat.add_assoc]
      exact hc
    exact ⟨hc 0 _ rfl, hc 1 _ rfl, hc 2 _ rfl, hc 3 _ rfl⟩

/-- what is told of the world behind more of them -/
structure GrewH (base : Nat) (W : World) (v : Value) (xs ys : List RgD) (v' : Value) (w' : World) : Prop where
  own : OwnH w' base v' (xs ++ ys)
  gr : W.grownBy w' v.ownBlock
  old : OwnH W base v xs
theorem GrewH.bel {base : Nat} {W w' : World} {v v' : Value} {xs ys : List RgD} (h : GrewH base W v xs ys v' w') {B : Nat} {a : World} (hb : Below B a W) (h1 : B ≤ base) (h2 : B ≤ W.heap.size) : Below B a w' := by
  refine hb.trans ⟨h.gr.os, h.gr.tape, h.gr.output, h.gr.size, fun k hk => h.gr.block k (by omega) fun e => ?_⟩
  have := (h.old.lt e.symm).1
  omega
theorem runH_row {ty : TypeId} (base : Nat) (W W1 : World) (v : Value) (xs ys : List RgD) (a : Option Addr) (n c : Nat) (hB : W.grownBy W1 none) (hn : n = ys.length) (hown : OwnH W base v xs) (hx : RowG W1 a ys) (hlen : (xs.length + ys.length) * 32 ≤ 140737488355328) (hbase : base ≤ W.heap.size) :
    ∃ v' w', (Builtin.append_ #[23, 23] ty #[v, .slice a n c]).run Tryd.prog W1 = .ok v' w' ∧ GrewH base W v xs ys v' w' := by
  subst hn
  obtain ⟨i0, hi, hz0, hz1, hz2⟩ := info_parts Tryd.info31
  have hown1 : OwnH W1 base v xs := hown.grown hB (by cases h : v.ownBlock <;> simp)
  have hWs := hB.size
  have hgr : ∀ w', W1.grownBy w' v.ownBlock → W.grownBy w' v.ownBlock := fun w' h => ⟨h.os.trans hB.os, h.tape.trans hB.tape, h.output.trans hB.output, Nat.le_trans hB.size h.size, fun k hk hne => (h.block k (Nat.lt_of_lt_of_le hk hB.size) hne).trans (hB.block k hk (by simp))⟩
  by_cases h0 : 0 < ys.length
  · obtain ⟨y, hy⟩ : ∃ y, ys[0]? = some y := ⟨_, List.getElem?_eq_getElem h0⟩
    obtain ⟨b, off, rfl, _⟩ := hx 0 y hy
    obtain ⟨v', w', hr, h2, h3, h4, h5⟩ := run_append_own_at (P := Tryd.prog) W1 base 23 ty 31 i0 _ 4 32 Tryd.underlying23 hi hz0 hz1 hz2 rfl (by decide) v xs.length (cellsG xs) hown1 ⟨b, off, none⟩ ys.length c (cellsG ys) (cellsG_len ys)
      (by
        intro j u hu
        rw [addr_add]
        exact hx.cells j u hu)
      (cellsG_one ys) (by unfold maxLen; omega) hlen (by omega)
    refine ⟨v', w', hr, ?_, hgr _ h3, hown⟩
    unfold OwnH
    rw [List.length_append, cellsG_app]
    exact h2
  · have hy : ys = [] := List.eq_nil_of_length_eq_zero (by omega)
    subst hy
    have hf : ∀ (x : Option Addr), (Builtin.firstCells 4 0 (.slice x 0 c)).run Tryd.prog W1 = .ok #[] W1 := by
      intro x; cases x <;> simp [Builtin.firstCells, loadCells, loadCellsFrom]
    have hrefl : W1.grownBy W1 v.ownBlock := World.grownBy.refl _ _
    rcases hown1.2 with ⟨rfl, hz⟩ | ⟨g, cap, cur, rfl, hg, hh, hnc, hm, hs, htk⟩
    · refine ⟨.slice none 0 0, W1, ?_, by rw [List.append_nil]; exact hown1, hgr _ hrefl, hown⟩
      simp [Builtin.append_, run_underlying Tryd.underlying23, Go.sizeOf, typeInfo, hi, hz1, Builtin.lenOf, hf]
    · refine ⟨.slice (some ⟨g, 0, none⟩) xs.length cap, W1, ?_, by rw [List.append_nil]; exact hown1, hgr _ hrefl, hown⟩
      simp [Builtin.append_, run_underlying Tryd.underlying23, Go.sizeOf, typeInfo, hi, hz1, Builtin.lenOf, hf, hnc, storeCells]
theorem oneH_row (W : World) (x : RgD) : RowG (W.alloc (objH x)) (some ⟨W.heap.size, 0, none⟩) [x] := by
  intro i y hi
  match i, hi with
  | 0, hi =>
    simp only [List.getElem?_cons_zero, Option.some.injEq] at hi
    subst hi
    exact ⟨W.heap.size, 0, rfl, actH_new W x⟩
  | _ + 1, hi => simp at hi

set_option maxHeartbeats 400000 in
theorem wpH_one {ops : Array Oper} {rest : List Oper} {o : Oper} {a : Act} {Q : Exit → Act → World → Prop} (hgd : o.guard = none) (s x : Operand)
    (ho : o.op = .call { callee := .builtin .append, args := #[s, x], argTypes := #[23, 23] }) (base : Nat) (W : World) (v : Value) (xs : List RgD) (z : RgD) (hs : a.eval s = v) (hown : OwnH W base v xs)
    (H : Nat) (hx : a.eval x = .slice (some ⟨H, 0, none⟩) 1 1) (hH : W.heap.size = H) (hlen : (xs.length + 1) * 32 ≤ 140737488355328) (hbase : base ≤ W.heap.size)
    (h : ∀ v' w', GrewH base W v xs [z] v' w' → wpList Tryd.prog ops Q rest (a.put o.dst v') w') : wpList Tryd.prog ops Q (o :: rest) a (W.alloc (objH z)) := by
  subst hH
  obtain ⟨v', w', hr, hg⟩ := runH_row (ty := o.type) base W _ v xs [z] _ 1 1 (World.grownBy_alloc W (objH z) none) rfl hown (oneH_row W z) (by simpa using hlen) hbase
  refine wpList_plain hgd fun _ hK => ?_
  unfold Oper.wp execOp
  simp only [ho, resolve, invoke, builtin, Sem.run_bind, Sem.run_pure, Result.andThen_ok, List.map_toArray, List.map_cons, List.map_nil, hs, hx, hr]
  exact hK _ _ (h v' w' hg)

/-- registers set one by one -/
def setsG (xs : List RgD) : List RgD := xs.foldl (fun L x => mergeG L [x]) []
theorem sets_push (xs : List RgD) (x : RgD) : setsG (xs ++ [x]) = mergeG (setsG xs) [x] := by unfold setsG; rw [List.foldl_append]; rfl
theorem sets_len : ∀ (xs L : List RgD), (xs.foldl (fun L x => mergeG L [x]) L).length ≤ L.length + xs.length
  | [], L => Nat.le_refl _
  | x :: xs, L => by
    have h1 := sets_len xs (mergeG L [x])
    have h2 := mergeG_len L [x]
    rw [List.length_singleton] at h2
    rw [List.foldl_cons, List.length_cons]
    exact Nat.le_trans h1 (by rw [← Nat.add_assoc, Nat.add_right_comm]; exact Nat.add_le_add_right h2 _)
theorem setsG_len (xs : List RgD) : (setsG xs).length ≤ xs.length := by have := sets_len xs []; rw [List.length_nil, Nat.zero_add] at this; exact this
theorem sets_regs : ∀ (xs L : List RgD), regsB L = true → (∀ x ∈ xs, regB x = true) → regsB (xs.foldl (fun L x => mergeG L [x]) L) = true
  | [], L, h, _ => h
  | x :: xs, L, h, hx => sets_regs xs _ (mergeG_regs h (by rw [regs_one]; exact hx x (List.mem_cons_self ..))) fun y hy => hx y (List.mem_cons_of_mem _ hy)
theorem setsG_regs {xs : List RgD} (h : ∀ x ∈ xs, regB x = true) : regsB (setsG xs) = true := sets_regs xs [] rfl h
theorem bel_le {x y : RgD} : (belG x y = true → x.t ≤ y.t) ∧ (belG x y = false → y.t ≤ x.t) := by
  unfold belG St.cmpS St.cmpI
  constructor <;> intro h
  · have := of_decide_eq_true h
    split at this
    · omega
    · split at this <;> omega
  · have := of_decide_eq_false h
    split at this
    · omega
    · split at this
      · omega
      · omega
/-- of a property the one with the greatest time, or none -/
def IsTop (xs : List RgD) (p : Int) : Option RgD → Prop
  | none => ∀ y ∈ xs, ¬ y.p = p
  | some x => x ∈ xs ∧ x.p = p ∧ ∀ y ∈ xs, y.p = p → y.t ≤ x.t
theorem top_merge {xs ys : List RgD} {p : Int} {o o' : Option RgD} (h : IsTop xs p o) (h' : IsTop ys p o') : IsTop (xs ++ ys) p (optG o o') := by
  cases o with
  | none =>
    cases o' with
    | none => intro y hy; rcases List.mem_append.1 hy with hy | hy; exact h y hy; exact h' y hy
    | some y => exact ⟨List.mem_append_right _ h'.1, h'.2.1, fun z hz hp => by rcases List.mem_append.1 hz with hz | hz; exact absurd hp (h z hz); exact h'.2.2 z hz hp⟩
  | some x =>
    cases o' with
    | none => exact ⟨List.mem_append_left _ h.1, h.2.1, fun z hz hp => by rcases List.mem_append.1 hz with hz | hz; exact h.2.2 z hz hp; exact absurd hp (h' z hz)⟩
    | some y =>
      show IsTop _ _ (some (latG x y))
      unfold latG
      cases hb : belG x y
      · have hle := bel_le.2 hb
        exact ⟨List.mem_append_left _ h.1, h.2.1, fun z hz hp => by
          rcases List.mem_append.1 hz with hz | hz
          · exact h.2.2 z hz hp
          · exact Int.le_trans (h'.2.2 z hz hp) hle⟩
      · have hle := bel_le.1 hb
        exact ⟨List.mem_append_right _ h'.1, h'.2.1, fun z hz hp => by
          rcases List.mem_append.1 hz with hz | hz
          · exact Int.le_trans (h.2.2 z hz hp) hle
          · exact h'.2.2 z hz hp⟩
theorem top_one (x : RgD) (p : Int) : IsTop [x] p (getG [x] p) := by
  rw [getG_one]
  by_cases h : x.p = p
  · rw [if_pos h]; exact ⟨List.mem_singleton.2 rfl, h, fun y hy _ => by rw [List.mem_singleton.1 hy]; exact Int.le_refl _⟩
  · rw [if_neg h]; intro y hy; rw [List.mem_singleton.1 hy]; exact h
theorem sets_top (p : Int) : ∀ (xs ys L : List RgD), Asc L → IsTop ys p (getG L p) → IsTop (ys ++ xs) p (getG (xs.foldl (fun L x => mergeG L [x]) L) p)
  | [], ys, L, _, h => by rw [List.append_nil]; exact h
  | x :: xs, ys, L, ha, h => by
    have h1 : IsTop (ys ++ [x]) p (getG (mergeG L [x]) p) := by rw [mergeG_get ha (asc_one x)]; exact top_merge h (top_one x p)
    have h2 := sets_top p xs (ys ++ [x]) (mergeG L [x]) (mergeG_asc ha (asc_one x)) h1
    rw [List.append_assoc] at h2
    exact h2
theorem sets_asc : ∀ (xs L : List RgD), Asc L → Asc (xs.foldl (fun L x => mergeG L [x]) L)
  | [], L, h => h
  | x :: xs, L, h => sets_asc xs _ (mergeG_asc h (asc_one x))
theorem setsG_asc (xs : List RgD) : Asc (setsG xs) := sets_asc xs [] List.Pairwise.nil
theorem setsG_top (xs : List RgD) (p : Int) : IsTop xs p (getG (setsG xs) p) := by
  have := sets_top p xs [] [] List.Pairwise.nil (fun y hy => by simp at hy)
  exact this
theorem top_mem {xs ys : List RgD} {p : Int} {o : Option RgD} (hm : ∀ x, x ∈ xs ↔ x ∈ ys) (h : IsTop xs p o) : IsTop ys p o := by
  cases o with
  | none => exact fun y hy => h y ((hm y).2 hy)
  | some x => exact ⟨(hm x).1 h.1, h.2.1, fun y hy hp => h.2.2 y ((hm y).2 hy) hp⟩
def Dist (xs : List RgD) : Prop := ∀ x ∈ xs, ∀ y ∈ xs, x.t = y.t → x = y
theorem top_uniq {xs : List RgD} {p : Int} {o o' : Option RgD} (hd : Dist xs) (h : IsTop xs p o) (h' : IsTop xs p o') : o = o' := by
  cases o with
  | none =>
    cases o' with
    | none => rfl
    | some y => exact absurd h'.2.1 (h y h'.1)
  | some x =>
    cases o' with
    | none => exact absurd h.2.1 (h' x h.1)
    | some y =>
      have h1 := h.2.2 y h'.1 h'.2.1
      have h2 := h'.2.2 x h.1 h.2.1
      rw [hd x h.1 y h'.1 (by omega)]
/-- every other one: of the first k those with an even place, with an odd one -/
def evL (l : List RgD) : Nat → List RgD
  | 0 => []
  | k + 1 => match l[k]? with | some x => if k % 2 = 0 then evL l k ++ [x] else evL l k | none => evL l k
def odL (l : List RgD) : Nat → List RgD
  | 0 => []
  | k + 1 => match l[k]? with | some x => if k % 2 = 0 then odL l k else odL l k ++ [x] | none => odL l k
theorem evL_yes {l : List RgD} {k : Nat} {x : RgD} (h : l[k]? = some x) (hk : k % 2 = 0) : evL l (k + 1) = evL l k ++ [x] ∧ odL l (k + 1) = odL l k := by
  constructor
  · rw [evL, h]; simp only [hk, if_true]
  · rw [odL, h]; simp only [hk, if_true]
theorem evL_no {l : List RgD} {k : Nat} {x : RgD} (h : l[k]? = some x) (hk : ¬ k % 2 = 0) : evL l (k + 1) = evL l k ∧ odL l (k + 1) = odL l k ++ [x] := by
  constructor
  · rw [evL, h]; simp only [hk, if_false]
  · rw [odL, h]; simp only [hk, if_false]
theorem par_mem (l : List RgD) (x : RgD) : ∀ k, (x ∈ evL l k ++ odL l k ↔ ∃ j, j < k ∧ l[j]? = some x)
  | 0 => by simp [evL, odL]
  | k + 1 => by
    have ih := par_mem l x k
    rw [List.mem_append] at ih ⊢
    cases hx : l[k]? with
    | none =>
      rw [evL, odL, hx]
      constructor
      · intro h; obtain ⟨j, hj, e⟩ := ih.1 h; exact ⟨j, by omega, e⟩
      · rintro ⟨j, hj, e⟩
        refine ih.2 ⟨j, ?_, e⟩
        rcases Nat.lt_or_ge j k with h | h
        · exact h
        · obtain rfl : j = k := by omega
          rw [hx] at e; cases e
    | some y =>
      have key : (∃ j, j < k + 1 ∧ l[j]? = some x) ↔ (∃ j, j < k ∧ l[j]? = some x) ∨ x = y := by
        constructor
        · rintro ⟨j, hj, e⟩
          rcases Nat.lt_or_ge j k with h | h
          · exact .inl ⟨j, h, e⟩
          · obtain rfl : j = k := by omega
            rw [hx] at e; exact .inr (Option.some.inj e).symm
        · rintro (⟨j, hj, e⟩ | e)
          · exact ⟨j, by omega, e⟩
          · exact ⟨k, Nat.lt_succ_self k, by rw [hx, e]⟩
      rw [key, ← ih]
      by_cases hk : k % 2 = 0
      · rw [(evL_yes hx hk).1, (evL_yes hx hk).2, List.mem_append, List.mem_singleton]
        constructor
        · rintro ((h | h) | h)
          · exact .inl (.inl h)
          · exact .inr h
          · exact .inl (.inr h)
        · rintro ((h | h) | h)
          · exact .inl (.inl h)
          · exact .inr h
          · exact .inl (.inr h)
      · rw [(evL_no hx hk).1, (evL_no hx hk).2, List.mem_append, List.mem_singleton]
        constructor
        · rintro (h | (h | h))
          · exact .inl (.inl h)
          · exact .inl (.inr h)
          · exact .inr h
        · rintro ((h | h) | h)
          · exact .inl h
          · exact .inr (.inl h)
          · exact .inr (.inr h)
theorem par_all (l : List RgD) (x : RgD) : x ∈ evL l l.length ++ odL l l.length ↔ x ∈ l := by
  rw [par_mem]
  constructor
  · rintro ⟨j, _, e⟩; exact List.mem_of_getElem? e
  · intro h
    obtain ⟨j, e⟩ := List.getElem?_of_mem h
    exact ⟨j, (List.getElem?_eq_some_iff.1 e).1, e⟩
theorem ev_len (l : List RgD) : ∀ k, (evL l k).length ≤ k ∧ (odL l k).length ≤ k
  | 0 => ⟨Nat.le_refl _, Nat.le_refl _⟩
  | k + 1 => by
    have ih := ev_len l k
    cases hx : l[k]? with
    | none => rw [evL, odL, hx]; exact ⟨Nat.le_succ_of_le ih.1, Nat.le_succ_of_le ih.2⟩
    | some y =>
      by_cases hk : k % 2 = 0
      · rw [(evL_yes hx hk).1, (evL_yes hx hk).2, List.length_append, List.length_singleton]; exact ⟨Nat.succ_le_succ ih.1, Nat.le_succ_of_le ih.2⟩
      · rw [(evL_no hx hk).1, (evL_no hx hk).2, List.length_append, List.length_singleton]; exact ⟨Nat.le_succ_of_le ih.1, Nat.succ_le_succ ih.2⟩
theorem ev_sub {l : List RgD} {k : Nat} {x : RgD} (h : x ∈ evL l k) : x ∈ l := by
  obtain ⟨j, _, e⟩ := (par_mem l x k).1 (List.mem_append_left _ h); exact List.mem_of_getElem? e
theorem od_sub {l : List RgD} {k : Nat} {x : RgD} (h : x ∈ odL l k) : x ∈ l := by
  obtain ⟨j, _, e⟩ := (par_mem l x k).1 (List.mem_append_right _ h); exact List.mem_of_getElem? e
/-- in whatever order, by unlike stamps: the same -/
theorem orders {l : List RgD} (hd : Dist l) : setsG l.reverse = setsG l ∧ mergeG (setsG (evL l l.length)) (setsG (odL l l.length)) = setsG l ∧ mergeG (setsG (odL l l.length)) (setsG (evL l l.length)) = setsG l := by
  refine ⟨asc_ext (setsG_asc _) (setsG_asc _) fun p => ?_, asc_ext (mergeG_asc (setsG_asc _) (setsG_asc _)) (setsG_asc _) fun p => ?_, asc_ext (mergeG_asc (setsG_asc _) (setsG_asc _)) (setsG_asc _) fun p => ?_⟩
  · exact top_uniq hd (top_mem (fun x => List.mem_reverse) (setsG_top l.reverse p)) (setsG_top l p)
  · rw [mergeG_get (setsG_asc _) (setsG_asc _)]
    exact top_uniq hd (top_mem (par_all l) (top_merge (setsG_top _ p) (setsG_top _ p))) (setsG_top l p)
  · rw [mergeG_get (setsG_asc _) (setsG_asc _)]
    exact top_uniq hd (top_mem (fun x => by rw [← par_all l x, List.mem_append, List.mem_append, or_comm]) (top_merge (setsG_top _ p) (setsG_top _ p))) (setsG_top l p)
/-- acts that may be, in ascending time -/
structure ActsG (l : List RgD) (i : Nat) : Prop where
  ok : ∀ x ∈ l, regB x = true
  asc : l.Pairwise fun a b => a.t < b.t
  top : ∀ x ∈ l, x.t ≤ i
  len : l.length ≤ i
theorem ActsG.nil : ActsG [] 0 := ⟨fun x h => by simp at h, List.Pairwise.nil, fun x h => by simp at h, Nat.le_refl _⟩
theorem ActsG.more {l : List RgD} {i : Nat} (h : ActsG l i) : ActsG l (i + 1) := ⟨h.ok, h.asc, fun x hx => by have := h.top x hx; omega, Nat.le_succ_of_le h.len⟩
theorem ActsG.push {l : List RgD} {i : Nat} {x : RgD} (h : ActsG l i) (h1 : regB x = true) (h2 : x.t = (i : Int) + 1) : ActsG (l ++ [x]) (i + 1) := by
  refine ⟨fun y hy => ?_, ?_, fun y hy => ?_, by rw [List.length_append, List.length_singleton]; exact Nat.succ_le_succ h.len⟩
  · rcases List.mem_append.1 hy with hy | hy
    · exact h.ok y hy
    · rw [List.mem_singleton.1 hy]; exact h1
  · rw [List.pairwise_append]
    refine ⟨h.asc, List.pairwise_singleton _ _, fun a ha b hb => ?_⟩
    rw [List.mem_singleton.1 hb]
    have := h.top a ha
    omega
  · rcases List.mem_append.1 hy with hy | hy
    · have := h.top y hy; omega
    · rw [List.mem_singleton.1 hy]; omega
theorem ActsG.dist {l : List RgD} {i : Nat} (h : ActsG l i) : Dist l := fun x hx y hy e => by
  obtain ⟨a, ha⟩ := List.getElem?_of_mem hx
  obtain ⟨b, hb⟩ := List.getElem?_of_mem hy
  obtain ⟨ha1, ha2⟩ := List.getElem?_eq_some_iff.1 ha
  obtain ⟨hb1, hb2⟩ := List.getElem?_eq_some_iff.1 hb
  rcases Nat.lt_trichotomy a b with hh | hh | hh
  · have := List.pairwise_iff_getElem.1 h.asc a b ha1 hb1 hh
    rw [ha2, hb2] at this; omega
  · subst hh; rw [← ha2, ← hb2]
  · have := List.pairwise_iff_getElem.1 h.asc b a hb1 ha1 hh
    rw [ha2, hb2] at this; omega
/-- the last place of a property among the first k -/
def LastG (l : List RgD) (p : Int) (k : Nat) (z : Int) : Prop := (z = -1 ∧ ∀ j y, j < k → l[j]? = some y → ¬ y.p = p) ∨ (∃ j : Nat, z = j ∧ j < k ∧ (∃ y, l[j]? = some y ∧ y.p = p) ∧ ∀ i y, j < i → i < k → l[i]? = some y → ¬ y.p = p)
theorem LastG.zero (l : List RgD) (p : Int) : LastG l p 0 (-1) := .inl ⟨rfl, fun j y h => absurd h (Nat.not_lt_zero _)⟩
theorem LastG.yes {l : List RgD} {p : Int} {k : Nat} {z : Int} {y : RgD} (h : LastG l p k z) (hy : l[k]? = some y) (hp : y.p = p) : LastG l p (k + 1) k :=
  .inr ⟨k, rfl, Nat.lt_succ_self k, ⟨y, hy, hp⟩, fun i x h1 h2 => by omega⟩
theorem LastG.no {l : List RgD} {p : Int} {k : Nat} {z : Int} {y : RgD} (h : LastG l p k z) (hy : l[k]? = some y) (hp : ¬ y.p = p) : LastG l p (k + 1) z := by
  have key : ∀ x, l[k]? = some x → ¬ x.p = p := fun x hx => by rw [hy] at hx; rw [← Option.some.inj hx]; exact hp
  rcases h with ⟨h1, h2⟩ | ⟨j, h1, h2, h3, h4⟩
  · refine .inl ⟨h1, fun j x hj hx => ?_⟩
    rcases Nat.lt_or_ge j k with e | e
    · exact h2 j x e hx
    · obtain rfl : j = k := by omega
      exact key x hx
  · refine .inr ⟨j, h1, by omega, h3, fun i x hi hk hx => ?_⟩
    rcases Nat.lt_or_ge i k with e | e
    · exact h4 i x hi e hx
    · obtain rfl : i = k := by omega
      exact key x hx
theorem last_top {l : List RgD} {p : Int} {i : Nat} {z : Int} (ha : ActsG l i) (h : LastG l p l.length z) : (z = -1 ∧ getG (setsG l) p = none) ∨ (∃ (j : Nat) (y : RgD), z = j ∧ l[j]? = some y ∧ getG (setsG l) p = some y) := by
  have ht := setsG_top l p
  rcases h with ⟨h1, h2⟩ | ⟨j, h1, h2, ⟨y, hy, hp⟩, h4⟩
  · refine .inl ⟨h1, ?_⟩
    cases ho : getG (setsG l) p with
    | none => rfl
    | some x =>
      rw [ho] at ht
      obtain ⟨k, hk⟩ := List.getElem?_of_mem ht.1
      exact absurd ht.2.1 (h2 k x (List.getElem?_eq_some_iff.1 hk).1 hk)
  · refine .inr ⟨j, y, h1, hy, ?_⟩
    refine top_uniq ha.dist ht (o' := some y) ⟨List.mem_of_getElem? hy, hp, fun x hx hxp => ?_⟩
    obtain ⟨k, hk⟩ := List.getElem?_of_mem hx
    obtain ⟨hk1, hk2⟩ := List.getElem?_eq_some_iff.1 hk
    obtain ⟨hj1, hj2⟩ := List.getElem?_eq_some_iff.1 hy
    rcases Nat.lt_trichotomy k j with e | e | e
    · have := List.pairwise_iff_getElem.1 ha.asc k j hk1 hj1 e
      rw [hk2, hj2] at this; omega
    · subst e; rw [hk2] at hj2; rw [hj2]; exact Int.le_refl _
    · exact absurd hxp (h4 k x e hk1 hk)
theorem drop_rev {l : List RgD} {k : Nat} {y : RgD} (hk : k < l.length) (hy : l[l.length - 1 - k]? = some y) : (l.drop (l.length - (k + 1))).reverse = (l.drop (l.length - k)).reverse ++ [y] := by
  have e : l.length - (k + 1) = l.length - 1 - k := by omega
  rw [e, drop_consG hy, List.reverse_cons, show l.length - 1 - k + 1 = l.length - k by omega]
end Go.Proofs.YtjpjjckokonkpaaDoor
