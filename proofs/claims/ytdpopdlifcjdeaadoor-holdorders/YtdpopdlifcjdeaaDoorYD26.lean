/- Joined: D26. -/
import Derived.Test.YtdpopdlifcjdeaaDoorYD17

/- Hold: rows of operations put behind each other; the page's without. -/
namespace Go.Proofs.YtdpopdlifcjdeaaDoor
open Go.RowKit Go.Lib
set_option linter.unusedVariables false

theorem cellsO_append : ∀ {os : List OpD} {dl : List Value} (ys : List OpD) (el : List Value), dl.length = os.length → cellsO (os ++ ys) (dl ++ el) = cellsO os dl ++ cellsO ys el
  | [], [], ys, el, _ => by simp [cellsO]
  | _ :: _, [], _, _, h => by simp at h
  | [], _ :: _, _, _, h => by simp at h
  | y :: r, e :: s, ys, el, h => by
    rw [List.cons_append, List.cons_append, cellsO, cellsO, cellsO_append ys el (by simpa using h), List.append_assoc]
/-- the Deps are rows of the call's own -/
def DepsN (w : World) (base : Nat) (os : List OpD) (dl : List Value) : Prop := ∀ (i : Nat) (x : OpD) (d : Value), os[i]? = some x → dl[i]? = some d → OwnK .i64 3 w base d x.1.ds ∧ x.1.ds.length ≤ 17592186044416
theorem DepsO.N {w : World} {base : Nat} {os : List OpD} {dl : List Value} (h : DepsO w base os dl) : DepsN w base os dl := h.own
theorem DepsN.read {w : World} {base : Nat} {os : List OpD} {dl : List Value} (h : DepsN w base os dl) : DepsR w os dl := fun i x d hi hd => by
  obtain ⟨h1, h2⟩ := h i x d hi hd
  obtain ⟨a, c, e, hr, _⟩ := h1.form
  exact ⟨a, c, e, hr, h2⟩
theorem DepsN.below {w w' : World} {base : Nat} {os : List OpD} {dl : List Value} (h : DepsN w base os dl) (hb : Below w.heap.size w w') : DepsN w' base os dl := fun i x d hi hd => ⟨(h i x d hi hd).1.below hb, (h i x d hi hd).2⟩
theorem DepsN.mono {w : World} {base base' : Nat} {os : List OpD} {dl : List Value} (h : DepsN w base os dl) (hb : base' ≤ base) : DepsN w base' os dl := fun i x d hi hd => ⟨(h i x d hi hd).1.mono hb, (h i x d hi hd).2⟩
theorem DepsN.far {w : World} {base g : Nat} {os : List OpD} {dl : List Value} (h : DepsN w base os dl) (hg : g < base) (i : Nat) (u : Value) : DepsN (w.setCell ⟨g, i, none⟩ u) base os dl := fun j x d hi hd => ⟨(h j x d hi hd).1.far hg i u, (h j x d hi hd).2⟩
theorem DepsN.grown {w w' : World} {base b' : Nat} {os os' : List OpD} {dl dl' : List Value} {v : Value} (h : DepsN w base os dl) (k : OwnO w b' v os' dl') (hg : w.grownBy w' v.ownBlock) : DepsN w' base os dl :=
  fun i x d hi hd => ⟨(h i x d hi hd).1.grown hg (apart_types (h i x d hi hd).1 k), (h i x d hi hd).2⟩
theorem DepsN.nil (w : World) (base : Nat) : DepsN w base [] [] := fun i x d h => by simp at h
theorem DepsN.append {w : World} {base : Nat} {os ys : List OpD} {dl el : List Value} (h : DepsN w base os dl) (k : DepsN w base ys el) (hl : dl.length = os.length) : DepsN w base (os ++ ys) (dl ++ el) := fun i x d hi hd => by
  by_cases hlt : i < os.length
  · rw [List.getElem?_append_left hlt] at hi
    rw [List.getElem?_append_left (by omega)] at hd
    exact h i x d hi hd
  · rw [List.getElem?_append_right (by omega)] at hi
    rw [List.getElem?_append_right (by omega), hl] at hd
    exact k _ x d hi hd
theorem DepsN.one {w : World} {base : Nat} {d : Value} {x : OpD} (hx : OwnK .i64 3 w base d x.1.ds) (hl : x.1.ds.length ≤ 17592186044416) : DepsN w base [x] [d] := fun i y e hi he => by
  match i, hi, he with
  | 0, hi, he =>
    simp only [List.getElem?_cons_zero, Option.some.injEq] at hi he
    subst hi; subst he
    exact ⟨hx, hl⟩
  | i + 1, hi, _ => simp at hi
theorem depsN_one {w : World} {base : Nat} {os : List OpD} {dl : List Value} (h : DepsN w base os dl) (hl : dl.length = os.length) : ∀ d ∈ dl, d.oneCell' = true := fun d hd => by
  obtain ⟨i, hi⟩ := List.getElem?_of_mem hd
  have hi' := (List.getElem?_eq_some_iff.1 hi).1
  obtain ⟨y, hy⟩ : ∃ y, os[i]? = some y := ⟨_, List.getElem?_eq_getElem (by omega)⟩
  obtain ⟨a, c, rfl, _⟩ := (h i y d hy hi).1.form
  rfl
theorem cellsO_ones {os : List OpD} {dl : List Value} : (∀ d ∈ dl, d.oneCell' = true) → ∀ u ∈ cellsO os dl, u.oneCell' = true := by
  intro hd
  induction os generalizing dl with
  | nil => intro u h; simp [cellsO] at h
  | cons y os ih =>
    cases dl with
    | nil => intro u h; simp [cellsO] at h
    | cons e dl =>
      intro u h
      rw [cellsO, List.mem_append] at h
      rcases h with h | h
      · simp only [OpR.cells, List.mem_cons, List.not_mem_nil, or_false] at h
        rcases h with rfl | rfl | rfl | rfl | rfl | rfl | rfl | rfl | rfl | rfl | rfl | rfl
        all_goals first | rfl | exact hd _ (List.mem_cons_self ..)
      · exact ih (fun d hd' => hd d (List.mem_cons_of_mem _ hd')) u h
/-- a row of operations to be put behind another one -/
def SrcO (w : World) (a : Option Addr) (ys : List OpD) (el : List Value) : Prop := el.length = ys.length ∧ (∀ d ∈ el, d.oneCell' = true) ∧ (ys = [] ∨ ∃ b off, a = some ⟨b, off, none⟩ ∧ ∀ j u, (cellsO ys el)[j]? = some u → w.cell? ⟨b, off + j, none⟩ = some u)
theorem OwnO.src {w : World} {base : Nat} {a : Option Addr} {n c : Nat} {os : List OpD} {dl : List Value} (h : OwnO w base (.slice a n c) os dl) (hd : ∀ d ∈ dl, d.oneCell' = true) : SrcO w a os dl := by
  refine ⟨h.len, hd, ?_⟩
  rcases h.own.2 with ⟨_, h0⟩ | ⟨g, cap, cur, e, _⟩
  · exact .inl (List.eq_nil_of_length_eq_zero h0)
  · injection e with e1
    subst e1
    refine .inr ⟨g, 0, rfl, fun j u hu => ?_⟩
    have hc := World.ownsRow.cells h.own (g := g) rfl j u hu
    rw [addr_add] at hc
    exact hc
theorem OwnO.srcRest {w : World} {base : Nat} {a : Option Addr} {n c : Nat} {os : List OpD} {dl : List Value} (h : OwnO w base (.slice a n c) os dl) (hd : ∀ d ∈ dl, d.oneCell' = true) (l : Nat) (hl : l ≤ n) : SrcO w (partO a l c) (os.drop l) (dl.drop l) := by
  have h1 := h.len
  refine ⟨by rw [List.length_drop, List.length_drop]; omega, fun d hd' => hd d (List.mem_of_mem_drop hd'), ?_⟩
  rcases h.own.2 with ⟨_, h0⟩ | ⟨g, cap, cur, e, _, _, hnc, _⟩
  · left
    rw [List.eq_nil_of_length_eq_zero h0, List.drop_nil]
  · injection e with e1 e2 e3
    subst e1 e2 e3
    by_cases hln : l = os.length
    · left; rw [hln]; simp
    · right
      refine ⟨g, l * 12, by unfold partO; rw [if_neg (by omega), Option.map_some, addr_add, Nat.zero_add], fun j u hu => ?_⟩
      have hcd : cellsO os dl = cellsO (os.take l) (dl.take l) ++ cellsO (os.drop l) (dl.drop l) := by
        rw [← cellsO_append _ _ (by rw [List.length_take, List.length_take]; omega), List.take_append_drop, List.take_append_drop]
      have hll : (cellsO (os.take l) (dl.take l)).length = l * 12 := by rw [cellsO_len (by rw [List.length_take, List.length_take]; omega), List.length_take]; omega
      have hc := World.ownsRow.cells h.own (g := g) rfl (l * 12 + j) u (by rw [hcd, List.getElem?_append_right (by omega), hll, show l * 12 + j - l * 12 = j by omega]; exact hu)
      rw [addr_add, Nat.zero_add] at hc
      exact hc
theorem runO_src (base : Nat) (W : World) (v : Value) (os : List OpD) (dl : List Value) (a : Option Addr) (n c : Nat) (ys : List OpD) (el : List Value) (ty : TypeId) (hown : OwnO W base v os dl) (hs : SrcO W a ys el) (hn : n = ys.length) (hlen : (os.length + ys.length) * 120 ≤ 140737488355328) (hbase : base ≤ W.heap.size) :
    ∃ v' w', (Builtin.append_ #[23, 23] ty #[v, .slice a n c]).run Tryd.prog W = .ok v' w' ∧ OwnO w' base v' (os ++ ys) (dl ++ el) ∧ W.grownBy w' v.ownBlock ∧ (v'.ownBlock = v.ownBlock ∨ v'.ownBlock = some W.heap.size) := by
  obtain ⟨i0, hi, hz0, hz1, hz2⟩ := info_parts Tryd.info32
  obtain ⟨hs1, hs2, hs3⟩ := hs
  subst hn
  by_cases h0 : ys = []
  · subst h0
    obtain rfl : el = [] := List.eq_nil_of_length_eq_zero hs1
    have hf : ∀ (x : Option Addr), (Builtin.firstCells 12 0 (.slice x 0 c)).run Tryd.prog W = .ok #[] W := by
      intro x; cases x <;> simp [Builtin.firstCells, loadCells, loadCellsFrom]
    rw [List.append_nil, List.append_nil]
    rcases hown.own.2 with ⟨rfl, hz⟩ | ⟨g, cap, cur, rfl, hg, hh, hnc, hm, hsz, htk⟩
    · refine ⟨.slice none 0 0, W, ?_, hown, ⟨rfl, rfl, rfl, Nat.le_refl _, fun _ _ _ => rfl⟩, .inl rfl⟩
      simp [Builtin.append_, run_underlying Tryd.underlying23, Go.sizeOf, typeInfo, hi, hz1, Builtin.lenOf, hf]
    · refine ⟨.slice (some ⟨g, 0, none⟩) os.length cap, W, ?_, hown, ⟨rfl, rfl, rfl, Nat.le_refl _, fun _ _ _ => rfl⟩, .inl rfl⟩
      simp [Builtin.append_, run_underlying Tryd.underlying23, Go.sizeOf, typeInfo, hi, hz1, Builtin.lenOf, hf, hnc, storeCells]
  · obtain ⟨b, off, rfl, hc⟩ := hs3.resolve_left h0
    obtain ⟨v', w', hr, h2, h3, h4, h5⟩ := run_append_own_at (P := Tryd.prog) W base 23 ty 32 i0 _ 12 120 Tryd.underlying23 hi hz0 hz1 hz2 rfl (by decide) v os.length (cellsO os dl) hown.own ⟨b, off, none⟩ ys.length c (cellsO ys el) (cellsO_len hs1) (fun j u hu => by rw [addr_add]; exact hc j u hu) (cellsO_ones hs2) (by unfold maxLen; omega) hlen hbase
    refine ⟨v', w', hr, ⟨by rw [List.length_append, List.length_append, hown.len, hs1], ?_⟩, h3, h5⟩
    rw [cellsO_append _ _ hown.len, List.length_append]
    exact h2
theorem wpO_src {ops : Array Oper} {rest : List Oper} {o : Oper} {a : Act} {Q : Exit → Act → World → Prop} (hgd : o.guard = none) (s0 x0 : Operand)
    (ho : o.op = .call { callee := .builtin .append, args := #[s0, x0], argTypes := #[23, 23] }) (base : Nat) (W : World) (v : Value) (os : List OpD) (dl : List Value) (ax : Option Addr) (n c : Nat) (ys : List OpD) (el : List Value) (hs : a.eval s0 = v) (hown : OwnO W base v os dl) (hx : a.eval x0 = .slice ax n c) (hsrc : SrcO W ax ys el) (hn : n = ys.length) (hlen : (os.length + ys.length) * 120 ≤ 140737488355328) (hbase : base ≤ W.heap.size)
    (h : ∀ v' w', OwnO w' base v' (os ++ ys) (dl ++ el) → W.grownBy w' v.ownBlock → (v'.ownBlock = v.ownBlock ∨ v'.ownBlock = some W.heap.size) → wpList Tryd.prog ops Q rest (a.put o.dst v') w') : wpList Tryd.prog ops Q (o :: rest) a W := by
  refine wpList_plain hgd fun K hK => ?_
  obtain ⟨v', w', hr, h1, h2, h3⟩ := runO_src base W v os dl ax n c ys el o.type hown hsrc hn hlen hbase
  unfold Oper.wp execOp
  simp only [ho, resolve, invoke, builtin, Sem.run_bind, Sem.run_pure, Result.andThen_ok, List.map_toArray, List.map_cons, List.map_nil, hs, hx, hr]
  exact hK _ _ (h v' w' h1 h2 h3)

def WoPost (os : List OpD) (w : World) (e : Ending) (w' : World) : Prop := ∃ v dl, e = .returned v ∧ OwnO w' w.heap.size v os dl ∧ DepsN w' w.heap.size os dl ∧ Below w.heap.size w w'
set_option maxHeartbeats 4000000 in
set_option maxRecDepth 100000 in
theorem without_any (a : Option Addr) (os : List OpD) (n c i : Nat) (w : World) (hr : RowO w a os) (hn : n = os.length) (hc : n ≤ c) (hin : i < n) (hl : n ≤ 64) : Calls Tryd.prog 47 #[.slice a n c, .int .i64 (i : Int)] w (WoPost (os.take i ++ os.drop (i + 1)) w) := by
  have HN := Lib.hid hn
  have hs1 : ∀ W, (Instr.slice 23 (.slice a n c) none (some (.int .i64 (i : Int))) none).run Tryd.prog W = .ok (.slice a i c) W := fun W => sliceO_h W a n c i i rfl (by omega)
  have hs2 : ∀ W, (Instr.slice 23 (.slice a n c) (some (.int .i64 ((i : Int) + 1))) none none).run Tryd.prog W = .ok (.slice (partO a (i + 1) c) (n - (i + 1)) (c - (i + 1))) W := fun W => sliceO_l W a n c (i + 1) _ (by omega) (by omega)
  have C1 := Lib.hid (copyOps_any a (os.take i) i c w (hr.first i) (by rw [List.length_take]; omega) (by rw [List.length_take]; omega))
  have C2 := Lib.hid (fun W (hb : Below w.heap.size w W) => copyOps_any (partO a (i + 1) c) (os.drop (i + 1)) (n - (i + 1)) (c - (i + 1)) W ((hr.below hb).rest (i + 1) c (by omega)) (by rw [List.length_drop]; omega) (by rw [List.length_drop]; omega))
  have H1 : Hid ((os.take i).length = i) := by show _ = _; rw [List.length_take]; omega
  have H2 : Hid (n - (i + 1) = (os.drop (i + 1)).length) := by show _ = _; rw [List.length_drop]; omega
  clear hr hn
  generalize n - (i + 1) = n2 at *
  generalize c - (i + 1) = c2 at *
  generalize partO a (i + 1) c = pa at *
  go_enter Tryd.func47, Tryd.ntmps47
  go_wp2_with fail
  refine (C1.out).mono ?_
  rintro e w1 ⟨v1, dl1, rfl, ho1, hd1, hb1⟩
  have HO1 := Lib.hid ho1
  have HD1 := Lib.hid hd1
  have HB1 := Lib.hid hb1
  clear ho1 hd1 hb1
  go_wp2_with fail
  refine (C2.out w1 HB1.out).mono ?_
  rintro e w2 ⟨v2, dl2, rfl, ho2, hd2, hb2⟩
  obtain ⟨a2, m2, k2, rfl, hm2, -, -⟩ := ho2.form
  have HO1' := Lib.hid (HO1.out.below hb2)
  have HD1' := Lib.hid (HD1.out.below hb2)
  have HB2 := Lib.hid (HB1.out.trans (hb2.mono HB1.out.size))
  have HZ1 : Hid (w.heap.size ≤ w1.heap.size) := HB1.out.size
  have HS2 := Lib.hid (OwnO.src ho2 (depsN_one hd2.N ho2.len))
  have HD2 := Lib.hid hd2
  have HM2 := Lib.hid hm2
  clear ho2 hd2 hb2 hm2
  go_wp2_with (at_builtin
               refine wpO_src rfl _ _ rfl w.heap.size w2 v1 (os.take i) dl1 a2 m2 k2 (os.drop (i + 1)) dl2 rfl HO1'.out rfl HS2.out HM2.out (by have h1 := H1.out; have h2 := H2.out; have h3 := HN.out; have h4 := List.length_drop (i := i + 1) (l := os); omega) HB2.out.size ?_
               intro v3 w3 ho3 hg3 _
               have HO3 := Lib.hid ho3
               have HG3 := Lib.hid hg3
               clear ho3 hg3)
  go_ret
  refine ⟨_, _, rfl, HO3.out, DepsN.append (HD1'.out.N.grown HO1'.out HG3.out) ((HD2.out.N.mono HZ1.out).grown HO1'.out HG3.out) HO1.out.len, HB2.out.grown HG3.out HB2.out.size (fun g hg => (HO1'.out.lt hg).1)⟩
end Go.Proofs.YtdpopdlifcjdeaaDoor
