/- Joined: TX1 TX3 TX4 TX2. -/
import Derived.Test.YtjlbpmmckgjajaaDoorYS
import Derived.Test.YtjlbpmmckgjajaaDoorZF

/- Trees in memory, told by the moves that they are made of. -/
namespace Go.Proofs.YtjlbpmmckgjajaaDoor
open Go.RowKit Go.Lib Go.Maps
set_option linter.unusedVariables false

/-- a tree made of moves, that can be read -/
structure TrI (w : World) (v : Value) (l : List OpD) : Prop where
  ex : ∃ (na : Option Addr) (nn nc : Nat) (ma : Option Addr) (mn mc : Nat) (zs : List EV), v = valT na nn nc ma mn mc ∧ TrR w na (nodesG l) nn ma zs mn ∧ entsY zs = entsG l ∧ mn ≤ mc
theorem TrI.next {w w' : World} {v : Value} {l : List OpD} (h : TrI w v l) (hb : Below w.heap.size w w') : TrI w' v l := by
  obtain ⟨na, nn, nc, ma, mn, mc, zs, e, ht, he, hm⟩ := h.ex
  exact ⟨na, nn, nc, ma, mn, mc, zs, e, ht.next hb, he, hm⟩
theorem TrI.nil (w : World) : TrI w (valT none 0 0 none 0 0) [] := ⟨none, 0, 0, none, 0, 0, [], rfl, ⟨RowF.nil _ _, rfl, by decide, RowM.nil _ _, rfl⟩, rfl, Nat.le_refl _⟩
theorem treeP_made {l : List OpD} (hm : AllM l) (ha : AscS l) : TreeP (nodesG l) (entsG l) := by
  have h1 : opsE (entsG l) = l := madeG_ops l []
  exact ⟨fun e he => (ents_ok hm he).1, by rw [h1]; exact ha, by rw [h1], by rw [h1]⟩
theorem AppYes.tri {W w' : World} {l : List OpD} {e : Ending} (h : AppYes W l e w') (hl : l.length ≤ 4398046511104) : ∃ (na : Option Addr) (nn nc : Nat) (ma : Option Addr) (mn mc : Nat), e = .returned (.tuple #[valT na nn nc ma mn mc, .int .i64 0]) ∧ TrI w' (valT na nn nc ma mn mc) l := by
  obtain ⟨na, nn, nc, ma, mn, mc, zs, rfl, hn, hm, he, hd⟩ := h
  obtain ⟨a1, n1, c1, e1, hl1, -, hr1, -⟩ := hn.form flatN
  injection e1 with e1 e2 e3
  subst e1 e2 e3
  obtain ⟨a2, n2, c2, e4, hl2, hc2, hr2, -⟩ := hm.form flatE
  injection e4 with e4 e5 e6
  subst e4 e5 e6
  exact ⟨na, nn, nc, ma, mn, mc, rfl, na, nn, nc, ma, mn, mc, zs, rfl, ⟨hr1, hl1, Nat.le_trans (nodes_len l) hl, ⟨hr2, hd.read⟩, hl2⟩, he, hc2⟩
theorem posS_uniq {l : List OpD} {o : OpD} {p q : Nat} (h1 : PosS l o p) (h2 : PosS l o q) : p = q := by
  have key : ∀ {p q : Nat}, PosS l o p → PosS l o q → ¬ p < q := fun {p q} h1 h2 hlt => by
    have hp : p < l.length := Nat.lt_of_lt_of_le hlt h2.1
    have m1 : l[p] ∈ l.take q := by
      rw [List.mem_iff_getElem?]
      exact ⟨p, by rw [List.getElem?_take, if_pos hlt]; exact List.getElem?_eq_getElem hp⟩
    have m2 : l[p] ∈ l.drop p := by
      rw [List.mem_iff_getElem?]
      exact ⟨0, by rw [List.getElem?_drop]; exact List.getElem?_eq_getElem hp⟩
    have a := h2.2.1 _ m1
    rw [h1.2.2 _ m2] at a
    cases a
  have k1 := key h1 h2
  have k2 := key h2 h1
  omega
/-- Apply -/
def ApplyT (W : World) (l : List OpD) (o : OpD) (e : Ending) (w' : World) : Prop :=
  Below W.heap.size W w' ∧ ((hereS l o = true ∧ e = .returned (.tuple #[valT none 0 0 none 0 0, .int .i64 4])) ∨
    (hereS l o = false ∧ ∃ (p : Nat) (na : Option Addr) (nn nc : Nat) (ma : Option Addr) (mn mc : Nat), PosS l o p ∧ e = .returned (.tuple #[valT na nn nc ma mn mc, .int .i64 0]) ∧ TrI w' (valT na nn nc ma mn mc) (insS l o p)))
theorem apply_tri (v : Value) (l : List OpD) (o : OpD) (d : DV) (W : World) (ht : Pr.Tab W) (h : TrI W v l) (hm : AllM l) (ha : AscS l) (ho : moveB o = true) (hd : DepK W o d) (hl : l.length ≤ 160) :
    Calls Tryd.prog 8 #[v, valOy o d] W (ApplyT W l o) := by
  obtain ⟨na, nn, nc, ma, mn, mc, zs, rfl, hr, he, hmc⟩ := h.ex
  have hT := treeP_made hm ha
  have hops : opsE (entsG l) = l := madeG_ops l []
  have hzl : zs.length = l.length := by rw [← entsY_len, he, entsG_len]
  refine (apply_any na _ nn nc ma zs mn mc o d W ht hr hmc hd (by omega)).mono ?_
  rintro e w' ⟨hb, hc⟩
  rw [he, hops] at hc
  refine ⟨hb, ?_⟩
  rcases hc with ⟨h1, _⟩ | ⟨_, _, h1, h2⟩ | ⟨_, _, h1, p, hp, h2⟩
  · exact absurd ⟨hT, ho⟩ h1
  · exact .inl ⟨h1, h2⟩
  · obtain ⟨na', nn', nc', ma', mn', mc', e1, h3⟩ := h2.tri (by rw [insS_len hp.1]; omega)
    exact .inr ⟨h1, p, na', nn', nc', ma', mn', mc', hp, e1, h3⟩
/-- one that goes to a place that is known -/
def ApplyP (W : World) (l' : List OpD) (e : Ending) (w' : World) : Prop :=
  Below W.heap.size W w' ∧ ∃ (na : Option Addr) (nn nc : Nat) (ma : Option Addr) (mn mc : Nat), e = .returned (.tuple #[valT na nn nc ma mn mc, .int .i64 0]) ∧ TrI w' (valT na nn nc ma mn mc) l'
theorem apply_at (v : Value) (l : List OpD) (o : OpD) (d : DV) (W : World) (p : Nat) (ht : Pr.Tab W) (h : TrI W v l) (hm : AllM l) (ha : AscS l) (ho : moveB o = true) (hd : DepK W o d) (hl : l.length ≤ 160) (hh : hereS l o = false) (hp : PosS l o p) {l' : List OpD} (hl' : insS l o p = l') :
    Calls Tryd.prog 8 #[v, valOy o d] W (ApplyP W l') := by
  refine (apply_tri v l o d W ht h hm ha ho hd hl).mono ?_
  rintro e w' ⟨hb, hc⟩
  rcases hc with ⟨h1, _⟩ | ⟨_, q, na, nn, nc, ma, mn, mc, hq, rfl, h3⟩
  · rw [hh] at h1; cases h1
  · rw [posS_uniq hq hp, hl'] at h3
    exact ⟨hb, na, nn, nc, ma, mn, mc, rfl, h3⟩
/-- the places beneath one, in order -/
def kidsG (l : List OpD) (s : Pl) : List Pl := (sortK ((nodesG l).filter (keepB s))).map (·.id)
def KidsT (W : World) (l : List OpD) (s : Pl) (e : Ending) (w' : World) : Prop := Below W.heap.size W w' ∧ ∃ v, e = .returned (.tuple #[v, .int .i64 0]) ∧ OwnF 36 2 encP w' W.heap.size v (kidsG l s)
theorem kids_tri (v : Value) (l : List OpD) (t r : Int) (W : World) (ht : Pr.Tab W) (h : TrI W v l) (hm : AllM l) (ha : AscS l) (hl : l.length ≤ 19) :
    Calls Tryd.prog 13 #[v, .agg #[.int .i64 t, .int .i64 r]] W (KidsT W l (t, r)) := by
  obtain ⟨na, nn, nc, ma, mn, mc, zs, rfl, hr, he, hmc⟩ := h.ex
  have hzl : zs.length = l.length := by rw [← entsY_len, he, entsG_len]
  refine (kids_any na _ nn nc ma zs mn mc t r W ht hr (by omega) (Nat.le_trans (nodes_len l) hl)).mono ?_
  rintro e w' ⟨hb, hc⟩
  rw [he] at hc
  refine ⟨hb, ?_⟩
  rcases hc with ⟨h1, _⟩ | ⟨_, v, e1, h2⟩
  · exact absurd (treeP_made hm ha) h1
  · exact ⟨v, e1, h2⟩
def FindT (W : World) (l : List OpD) (s : Pl) (e : Ending) (w' : World) : Prop := Below W.heap.size W w' ∧ ((findN (nodesG l) s = none ∧ e = .returned (.tuple #[valN zND, .int .i64 3])) ∨ ∃ n, findN (nodesG l) s = some n ∧ e = .returned (.tuple #[valN n, .int .i64 0]))
theorem find_tri (v : Value) (l : List OpD) (t r : Int) (W : World) (ht : Pr.Tab W) (h : TrI W v l) (hm : AllM l) (ha : AscS l) (hl : l.length ≤ 160) (hs : wfP (t, r)) :
    Calls Tryd.prog 16 #[v, .agg #[.int .i64 t, .int .i64 r]] W (FindT W l (t, r)) := by
  obtain ⟨na, nn, nc, ma, mn, mc, zs, rfl, hr, he, hmc⟩ := h.ex
  have hzl : zs.length = l.length := by rw [← entsY_len, he, entsG_len]
  refine (findT_any na _ nn nc ma zs mn mc t r W ht hr (by omega) hs).mono ?_
  rintro e w' ⟨hb, hc⟩
  rw [he] at hc
  refine ⟨hb, ?_⟩
  rcases hc with ⟨h1, _⟩ | ⟨_, h1, h2⟩ | ⟨_, h1⟩
  · exact absurd (treeP_made hm ha) h1
  · exact .inl ⟨h1, h2⟩
  · exact .inr h1
def AboveT (W : World) (l : List OpD) (s : Pl) (e : Ending) (w' : World) : Prop := Below W.heap.size W w' ∧ ((findN (nodesG l) s = none ∧ e = .returned (.tuple #[.slice none 0 0, .int .i64 3])) ∨ ∃ n v, findN (nodesG l) s = some n ∧ e = .returned (.tuple #[v, .int .i64 0]) ∧ OwnF 36 2 encP w' W.heap.size v (upA (nodesG l) s))
theorem above_tri (v : Value) (l : List OpD) (t r : Int) (W : World) (ht : Pr.Tab W) (h : TrI W v l) (hm : AllM l) (ha : AscS l) (hl : l.length ≤ 160) (hs : wfP (t, r)) :
    Calls Tryd.prog 12 #[v, .agg #[.int .i64 t, .int .i64 r]] W (AboveT W l (t, r)) := by
  obtain ⟨na, nn, nc, ma, mn, mc, zs, rfl, hr, he, hmc⟩ := h.ex
  have hzl : zs.length = l.length := by rw [← entsY_len, he, entsG_len]
  refine (above_any na _ nn nc ma zs mn mc t r W ht hr (by omega) hs).mono ?_
  rintro e w' ⟨hb, hc⟩
  rw [he] at hc
  refine ⟨hb, ?_⟩
  rcases hc with ⟨h1, _⟩ | ⟨_, h1, h2⟩ | ⟨_, h1⟩
  · exact absurd (treeP_made hm ha) h1
  · exact .inl ⟨h1, h2⟩
  · exact .inr h1
/-- rows of operations, as flat structs with their Deps apart -/
abbrev OV := OpD × DV
def OV.enc (y : OV) : List Value := y.1.1.cells y.1.2 (.slice y.2.a y.2.n y.2.c)
theorem flatO : Flat 39 26 12 120 OV.enc := by
  obtain ⟨i0, hi, hz0, hz1, hz2⟩ := info_parts Tryd.info39
  refine ⟨fun _ => rfl, fun x u hu => ?_, Tryd.underlying26, ⟨i0, _, hi, hz0, hz1, hz2, rfl⟩, by decide, by decide⟩
  simp only [OV.enc, OpR.cells, List.mem_cons, List.not_mem_nil, or_false] at hu
  rcases hu with rfl | rfl | rfl | rfl | rfl | rfl | rfl | rfl | rfl | rfl | rfl | rfl <;> rfl
/-- their Deps can be read -/
def DepsV (w : World) (ys : List OV) : Prop := ∀ y ∈ ys, DepK w y.1 y.2
theorem DepsV.below {w w' : World} {ys : List OV} (h : DepsV w ys) (hb : Below w.heap.size w w') : DepsV w' ys := fun y hy => (h y hy).below hb
end Go.Proofs.YtjlbpmmckgjajaaDoor

/- Trees: what the law of late moves comes to: mathematics. -/
namespace Go.Proofs.YtjlbpmmckgjajaaDoor
open Go.RowKit Go.Lib
set_option linter.unusedVariables false

/-- a move of the law's own -/
abbrev mvO (t : Int) (n p : Pl) : OpD := (⟨t, 0, [0], 1, n.1, n.2, p.1, p.2, ⟨#[107]⟩, 0, 0⟩, 1)
abbrev mkO' (i : Nat) : OpD := mvO (i : Int) ((i : Int), 0) (0, 0)
def madeL (n : Nat) : List OpD := (List.range n).map fun i => mkO' (i + 1)
theorem madeL_len (n : Nat) : (madeL n).length = n := by simp [madeL]
theorem madeL_succ (n : Nat) : madeL (n + 1) = madeL n ++ [mkO' (n + 1)] := by simp [madeL, List.range_succ]
theorem hereS_take {l : List OpD} (h : AscS l) {i : Nat} {o : OpD} (hi : l[i]? = some o) : hereS (l.take i) o = false := by
  unfold hereS
  rw [List.any_eq_false]
  intro x hx e
  have e1 : l.take i ++ l.drop i = l := List.take_append_drop _ _
  unfold AscS at h
  rw [← e1, List.pairwise_append] at h
  have h1 := h.2.2 x hx o (by rw [List.mem_iff_getElem?]; exact ⟨0, by rw [List.getElem?_drop]; exact hi⟩)
  rw [of_decide_eq_true e, ltP_irr] at h1
  cases h1
theorem hereS_drop {l : List OpD} (h : AscS l) {i : Nat} {o : OpD} (hi : l[i]? = some o) : hereS (l.drop (i + 1)) o = false := by
  unfold hereS
  rw [List.any_eq_false]
  intro x hx e
  have hil := (List.getElem?_eq_some_iff.1 hi).1
  have e2 : l.drop i = o :: l.drop (i + 1) := by
    rw [List.drop_eq_getElem_cons hil]
    rw [List.getElem?_eq_getElem hil] at hi
    injection hi with hi
    rw [hi]
  have h1 : AscS (l.drop i) := List.Pairwise.sublist (List.drop_sublist _ _) h
  rw [e2] at h1
  have h2 := (List.pairwise_cons.1 h1).1 x hx
  rw [of_decide_eq_true e, ltP_irr] at h2
  cases h2
theorem ascS_take {l : List OpD} (h : AscS l) (i : Nat) : AscS (l.take i) := List.Pairwise.sublist (List.take_sublist _ _) h
theorem ascS_drop {l : List OpD} (h : AscS l) (i : Nat) : AscS (l.drop i) := List.Pairwise.sublist (List.drop_sublist _ _) h
theorem allM_take {l : List OpD} (h : AllM l) (i : Nat) : AllM (l.take i) := fun x hx => h x (List.mem_of_mem_take hx)
theorem allM_drop {l : List OpD} (h : AllM l) (i : Nat) : AllM (l.drop i) := fun x hx => h x (List.mem_of_mem_drop hx)
/-- the five trees -/
abbrev pA : Pl := (1, 0)
abbrev pB : Pl := (2, 0)
abbrev pC : Pl := (3, 0)
def late3 : List OpD := [mvO 1 pA (0, 0), mvO 2 pB (0, 0), mvO 3 pC (0, 0)]
def late4 : List OpD := [mvO 1 pA (0, 0), mvO 2 pB (0, 0), mvO 3 pC (0, 0), mvO 20 pA pB]
def late5 : List OpD := [mvO 1 pA (0, 0), mvO 2 pB (0, 0), mvO 3 pC (0, 0), mvO 10 pB pA, mvO 20 pA pB]
def late6 : List OpD := [mvO 1 pA (0, 0), mvO 2 pB (0, 0), mvO 3 pC (0, 0), mvO 10 pB pA, mvO 20 pA pB, mvO 30 pC pB]
def late7 : List OpD := [mvO 1 pA (0, 0), mvO 2 pB (0, 0), mvO 3 pC (0, 0), mvO 5 pA pC, mvO 10 pB pA, mvO 20 pA pB, mvO 30 pC pB]
theorem late3_made : madeL 3 = late3 := rfl
theorem late_mv3 : AllM late3 := by unfold AllM late3; decide
theorem late_mv4 : AllM late4 := by unfold AllM late4; decide
theorem late_mv5 : AllM late5 := by unfold AllM late5; decide
theorem late_mv6 : AllM late6 := by unfold AllM late6; decide
theorem late_asc3 : AscS late3 := by unfold AscS late3; decide
theorem late_asc4 : AscS late4 := by unfold AscS late4; decide
theorem late_asc5 : AscS late5 := by unfold AscS late5; decide
theorem late_asc6 : AscS late6 := by unfold AscS late6; decide
theorem late_pos4 : PosS late3 (mvO 20 pA pB) 3 := by unfold PosS late3; decide
theorem late_pos5 : PosS late4 (mvO 10 pB pA) 3 := by unfold PosS late4; decide
theorem late_pos6 : PosS late5 (mvO 30 pC pB) 5 := by unfold PosS late5; decide
theorem late_pos7 : PosS late6 (mvO 5 pA pC) 3 := by unfold PosS late6; decide
theorem late_nd6 : nodesG late6 = [⟨pA, (0, 0), ⟨#[107]⟩⟩, ⟨pB, pA, ⟨#[107]⟩⟩, ⟨pC, pB, ⟨#[107]⟩⟩] := by kernel_rfl
theorem late_nd7 : nodesG late7 = [⟨pA, pC, ⟨#[107]⟩⟩, ⟨pB, pA, ⟨#[107]⟩⟩, ⟨pC, (0, 0), ⟨#[107]⟩⟩] := by kernel_rfl
theorem late_en6 : (entsG late6).map (·.idle) = [false, false, false, false, true, false] := by kernel_rfl
theorem late_en7 : ((entsG late7)[6]?).map (·.idle) = some true := by kernel_rfl
end Go.Proofs.YtjlbpmmckgjajaaDoor

/- Rows of operations of the law's own: their Deps in memory of their own. -/
namespace Go.Proofs.YtjlbpmmckgjajaaDoor
open Go.RowKit Go.Lib Go.Maps
set_option linter.unusedVariables false

def DepsG (w : World) (base : Nat) (zs : List OV) : Prop := ∀ y ∈ zs, y.2.n = y.1.1.ds.length ∧ OwnK .i64 3 w base (.slice y.2.a y.2.n y.2.c) y.1.1.ds ∧ y.1.1.ds.length ≤ 17592186044416
theorem DepsG.read {w : World} {base : Nat} {zs : List OV} (h : DepsG w base zs) : DepsV w zs := fun y hy => by
  obtain ⟨h1, h2, h3⟩ := h y hy
  obtain ⟨a, c, e, hr, -⟩ := h2.form
  injection e with e1 e2 e3
  subst e1
  exact ⟨h1, hr, h3⟩
theorem apartO {w : World} {b b' : Nat} {d v : Value} {zs : List Int} {es : List OV} (h : OwnK .i64 3 w b d zs) (k : OwnF 39 12 OV.enc w b' v es) : d.ownBlock = none ∨ d.ownBlock ≠ v.ownBlock := by
  rcases h.2 with ⟨rfl, _⟩ | ⟨g, cap, cur, rfl, _, hh, _⟩
  · exact .inl rfl
  · right
    rcases k.2 with ⟨rfl, _⟩ | ⟨g', cap', cur', rfl, _, hh', _⟩
    · simp [Value.ownBlock]
    · intro e
      simp only [Value.ownBlock, Option.some.injEq] at e
      subst e
      rw [hh] at hh'
      injection hh' with hh'
      injection hh' with _ h2
      exact absurd h2 (by decide)
/-- a row of operations of one's own -/
structure OwnV (w : World) (base : Nat) (v : Value) (zs : List OV) : Prop where
  own : OwnF 39 12 OV.enc w base v zs
  dep : DepsG w base zs
theorem OwnV.nil (w : World) (base : Nat) : OwnV w base (.slice none 0 0) [] := ⟨OwnF.nil _ _, fun y hy => by simp at hy⟩
theorem OwnV.next {w w' : World} {base : Nat} {v : Value} {zs : List OV} (h : OwnV w base v zs) (hb : Below w.heap.size w w') : OwnV w' base v zs := ⟨h.own.below hb, fun y hy => ⟨(h.dep y hy).1, (h.dep y hy).2.1.below hb, (h.dep y hy).2.2⟩⟩
theorem OwnV.mono {w : World} {base base' : Nat} {v : Value} {zs : List OV} (h : OwnV w base v zs) (hb : base' ≤ base) : OwnV w base' v zs := ⟨h.own.mono hb, fun y hy => ⟨(h.dep y hy).1, (h.dep y hy).2.1.mono hb, (h.dep y hy).2.2⟩⟩
theorem OwnV.push {W w' : World} {base : Nat} {v v' : Value} {zs : List OV} {o : OpD} {d : DV} (h : OwnV W base v zs) (h1 : d.n = o.1.ds.length) (h2 : OwnK .i64 3 W base (.slice d.a d.n d.c) o.1.ds) (h3 : o.1.ds.length ≤ 17592186044416) (hp : GrewF 39 12 OV.enc base W v zs [(o, d)] v' w') : OwnV w' base v' (zs ++ [(o, d)]) := by
  refine ⟨hp.own, fun y hy => ?_⟩
  rcases List.mem_append.1 hy with hy | hy
  · obtain ⟨k1, k2, k3⟩ := h.dep y hy
    exact ⟨k1, k2.grown hp.gr (apartO k2 hp.old), k3⟩
  · rw [List.mem_singleton] at hy
    subst hy
    exact ⟨h1, h2.grown hp.gr (apartO h2 hp.old), h3⟩
/-- what they read as -/
theorem OwnV.form {w : World} {base : Nat} {v : Value} {zs : List OV} (h : OwnV w base v zs) : ∃ a n cap, v = .slice a n cap ∧ n = zs.length ∧ n ≤ cap ∧ RowF 12 OV.enc w a zs ∧ DepsV w zs := by
  obtain ⟨a, n, cap, e, h1, h2, h3, -⟩ := h.own.form flatO
  exact ⟨a, n, cap, e, h1, h2, h3, h.dep.read⟩
theorem one_rowV (w : World) (o : OpD) (d : DV) : RowF 12 OV.enc (w.alloc (objO o d.a d.n d.c)) (some ⟨w.heap.size, 0, none⟩) [(o, d)] := one_rowF w (o, d) _ rfl
/-- a whole operation read -/
theorem opV_load {w : World} {b o : Nat} {y : OV} (h : CellsAt w b o y.enc) : (loadVar 39 ⟨b, o, none⟩).run Tryd.prog w = .ok (valOy y.1 y.2) w := loadVar_is aggO sizeO rfl h
theorem RowV_cells {w : World} {b off : Nat} {ys : List OV} (h : RowF 12 OV.enc w (some ⟨b, off, none⟩) ys) {i : Nat} {y : OV} (hi : ys[i]? = some y) : CellsAt w b (off + i * 12) y.enc := by
  obtain ⟨b', off', e, hc⟩ := h i y hi
  simp only [Option.some.injEq, Addr.mk.injEq] at e
  obtain ⟨rfl, rfl, _⟩ := e
  exact hc
theorem RowV_addr {w : World} {a : Option Addr} {ys : List OV} (h : RowF 12 OV.enc w a ys) {i : Nat} {y : OV} (hi : ys[i]? = some y) : ∃ b off, a = some ⟨b, off, none⟩ ∧ b < w.heap.size := by
  obtain ⟨b, off, e, hc⟩ := h i y hi
  exact ⟨b, off, e, FAt.lt flatO hc⟩
end Go.Proofs.YtjlbpmmckgjajaaDoor

/- What is handed in, opened: a tree, operations, places, with the bound on lengths. -/
namespace Go.Proofs.YtjlbpmmckgjajaaDoor
open Go.ChangeShapes Go.WideShapes Go.ChangeAt Go.RowKit Go.Deep Go.Lib
set_option linter.unusedVariables false

theorem list_ofT {α : Type} {P : Nat → α → Prop} : ∀ n : Nat, (∀ i, i < n → ∃ x, P i x) → ∃ l : List α, l.length = n ∧ ∀ i x, l[i]? = some x → P i x
  | 0, _ => ⟨[], rfl, fun i x h => by simp at h⟩
  | n + 1, h => by
    obtain ⟨l, hl, hp⟩ := list_ofT n (fun i hi => h i (by omega))
    obtain ⟨y, hy⟩ := h n (by omega)
    refine ⟨l ++ [y], by simp [hl], fun i x hi => ?_⟩
    by_cases hlt : i < l.length
    · rw [List.getElem?_append_left hlt] at hi
      exact hp i x hi
    · rw [List.getElem?_append_right (by omega)] at hi
      by_cases h0 : i - l.length = 0
      · rw [h0] at hi
        simp only [List.getElem?_cons_zero, Option.some.injEq] at hi
        subst hi
        rw [show i = n by omega]
        exact hy
      · rw [List.getElem?_eq_none (by simp; omega)] at hi
        cases hi
/-- what is known of elements that are handed in -/
def Opens (H : Type) (enc : TypeId × Value → H) (w : World) (e : TypeId) (k : Nat) {α : Type} (en : α → List Value) (P : α → Prop) : Prop :=
  ∀ (fuel : Nat) (cs : List Value) (x : DataW H × List MemPlace), cs.length = k → DataW.trod enc Tryd.prog w 0 (fun _ => true) true fuel e cs = some x → (∀ n ∈ x.1.weights Tryd.prog e, n ≤ reachBytes) → ∃ y : α, cs = en y ∧ P y
set_option maxHeartbeats 1000000 in
set_option maxRecDepth 100000 in
theorem rowF_open {α : Type} {e st : TypeId} {k bytes : Nat} {en : α → List Value} (F : Flat e st k bytes en) (hC : Tryd.prog.cellsOf e = k) (hB : Tryd.prog.bytesOf e = bytes) {H : Type} {enc : TypeId × Value → H} {w : World} {P : α → Prop} (ho : Opens H enc w e k en P) {fuel : Nat} {v : Value} {x : DataW H × List MemPlace} (h : DataW.trod enc Tryd.prog w 0 (fun _ => true) true fuel st [v] = some x)
    (hs : ∀ n ∈ x.1.weights Tryd.prog st, n ≤ reachBytes) : ∃ ai xs ci, v = .slice ai (List.length xs) ci ∧ RowF k en w ai xs ∧ (∀ y ∈ xs, P y) ∧ xs.length ≤ ci ∧ xs.length * bytes ≤ 140737488355328 := by
  rcases open_slice F.und h with ⟨hcs, _⟩ | ⟨ad, l, c, m, n, D, Pl, hcs, hb, hl, hm, hmm, hx, hi⟩
  · simp only [List.cons.injEq, and_true] at hcs
    subst hcs
    exact ⟨none, [], 0, rfl, RowF.nil _ _, fun y hy => by simp at hy, by simp, by simp⟩
  · simp only [List.cons.injEq, and_true] at hcs
    subst hcs
    simp only [if_true] at hmm
    have hdx : x.1 = .slice ((List.range l).map D) ((List.range (m - l)).map fun j => D (l + j)) := by rw [hx]
    have hwD : ∀ i, i < l → ∀ q ∈ (D i).weights Tryd.prog e, q ≤ reachBytes := by
      intro i hil q hq
      apply hs
      rw [hdx]
      simp only [DataW.weights, F.und]
      refine List.mem_cons_of_mem _ (List.mem_append.2 (Or.inl ?_))
      exact weights_mem_all (List.mem_map.2 ⟨i, List.mem_range.2 hil, rfl⟩) q hq
    have hbig : l * bytes ≤ 140737488355328 := by
      have h1 := hs ((((List.range l).map D).length + ((List.range (m - l)).map fun j => D (l + j)).length) * Tryd.prog.bytesOf e) (by
        rw [hdx]
        simp [DataW.weights, F.und])
      rw [hB] at h1
      simp only [List.length_map, List.length_range, reachBytes] at h1
      have : l * bytes ≤ (l + (m - l)) * bytes := Nat.mul_le_mul_right _ (by omega)
      omega
    have hk := F.pos
    have hall : ∀ i, i < l → ∃ y : α, P y ∧ ∃ b off, ad = ⟨b, off, none⟩ ∧ FAt en w b (off + i * k) y := by
      intro i hil
      obtain ⟨b, off, spot⟩ := ad
      have hspot : spot = none := by
        obtain ⟨cs0, hc0, _⟩ := hi 0 (by omega)
        rw [hC] at hc0
        obtain ⟨_, hcl0, hat0⟩ := World.cells?_some hc0
        have h1 := hat0 0 (by omega)
        rw [List.getElem?_eq_getElem (by omega)] at h1
        have h2 := World.cell?_spot h1
        simpa [Addr.add] using h2
      subst hspot
      obtain ⟨cs', hc, ht⟩ := hi i (by omega)
      rw [hC] at hc
      obtain ⟨_, hcl, hat⟩ := World.cells?_some hc
      obtain ⟨y, rfl, hP⟩ := ho _ cs' _ hcl ht (hwD i hil)
      refine ⟨y, hP, b, off, rfl, fun j u hu => ?_⟩
      have hj := (List.getElem?_eq_some_iff.1 hu).1
      rw [F.len] at hj
      have h1 := hat j (by omega)
      rw [add_add, addr_add] at h1
      rw [Nat.add_assoc, h1]
      exact hu
    obtain ⟨os, ho1, ho2⟩ := list_ofT l hall
    subst ho1
    refine ⟨some ad, os, c, rfl, fun i y hy => ?_, fun y hy => ?_, hl, hbig⟩
    · obtain ⟨_, b, off, e, h1⟩ := ho2 i y hy
      exact ⟨b, off, by rw [e], h1⟩
    · obtain ⟨i, hi⟩ := List.getElem?_of_mem hy
      exact (ho2 i y hi).1
theorem stampP_opens (H : Type) (enc : TypeId × Value → H) (w : World) : Opens H enc w 36 2 encP (fun _ => True) := by
  intro fuel cs x hl h hs
  match cs, hl with
  | [d0, d1], _ =>
    obtain ⟨t, r, rfl, rfl⟩ := stamp_open h
    exact ⟨(t, r), rfl, trivial⟩
theorem opV_opens (H : Type) (enc : TypeId × Value → H) (w : World) : Opens H enc w 39 12 OV.enc (fun y => DepK w y.1 y.2) := by
  intro fuel cs x hl h hs
  match cs, hl with
  | [d0, d1, d2, d3, d4, d5, d6, d7, d8, d9, d10, d11], _ =>
    obtain ⟨t, r, q, da, ds, dc, k, nt, nr, pt, pr, s, p, v, e, hr, _, hb⟩ := op_open h hs
    exact ⟨((⟨t, r, ds, k, nt, nr, pt, pr, s, p, v⟩, q), ⟨da, ds.length, dc⟩), e, rfl, hr, hb⟩
set_option maxHeartbeats 1000000 in
theorem node_opens (H : Type) (enc : TypeId × Value → H) (w : World) : Opens H enc w 44 5 ND.enc (fun _ => True) := by
  intro fuel cs x hl h hs
  match cs, hl with
  | [d0, d1, d2, d3, d4], _ =>
  obtain ⟨ys, n', _, hD, _, hyl, hf'⟩ := DataW.trod_struct Tryd.underlying44 h
  have f0 : DataW.trod enc Tryd.prog w 0 (fun _ => true) true n' 36 (([d0, d1, d2, d3, d4].drop 0).take (Tryd.prog.cellsOf 36)) = ys[0]? := hf' 0 _ rfl
  have f1 : DataW.trod enc Tryd.prog w 0 (fun _ => true) true n' 36 (([d0, d1, d2, d3, d4].drop 2).take (Tryd.prog.cellsOf 36)) = ys[1]? := hf' 1 _ rfl
  have f2 : DataW.trod enc Tryd.prog w 0 (fun _ => true) true n' 9 (([d0, d1, d2, d3, d4].drop 4).take (Tryd.prog.cellsOf 9)) = ys[2]? := hf' 2 _ rfl
  rw [show Tryd.prog.cellsOf 36 = 2 from by kernel_rfl] at f0 f1
  rw [show Tryd.prog.cellsOf 9 = 1 from by kernel_rfl] at f2
  have hy0 : ys[0]? = some (ys[0]'(by simp at hyl; omega)) := List.getElem?_eq_getElem _
  rw [hy0] at f0
  have hy1 : ys[1]? = some (ys[1]'(by simp at hyl; omega)) := List.getElem?_eq_getElem _
  rw [hy1] at f1
  have hy2 : ys[2]? = some (ys[2]'(by simp at hyl; omega)) := List.getElem?_eq_getElem _
  rw [hy2] at f2
  simp only [List.drop_zero, List.drop_succ_cons, List.take_succ_cons, List.take_zero] at f0 f1 f2
  obtain ⟨t, r, h0, h1⟩ := stamp_open f0
  obtain ⟨pt, pr, h2, h3⟩ := stamp_open f1
  obtain ⟨s, h4, _, _⟩ := DataW.trod_string Tryd.underlying9 f2
  simp only [List.cons.injEq, and_true] at h4
  subst h0 h1 h2 h3 h4
  exact ⟨⟨(t, r), (pt, pr), s⟩, rfl, trivial⟩
set_option maxHeartbeats 1000000 in
theorem entry_opens (H : Type) (enc : TypeId × Value → H) (w : World) : Opens H enc w 54 17 EV.enc (fun y => DepK w y.1.op y.2) := by
  intro fuel cs x hl h hs
  match cs, hl with
  | [d0, d1, d2, d3, d4, d5, d6, d7, d8, d9, d10, d11, d12, d13, d14, d15, d16], _ =>
  obtain ⟨ys, n', _, hD, _, hyl, hf'⟩ := DataW.trod_struct Tryd.underlying54 h
  have f0 : DataW.trod enc Tryd.prog w 0 (fun _ => true) true n' 39 (([d0, d1, d2, d3, d4, d5, d6, d7, d8, d9, d10, d11, d12, d13, d14, d15, d16].drop 0).take (Tryd.prog.cellsOf 39)) = ys[0]? := hf' 0 _ rfl
  have f1 : DataW.trod enc Tryd.prog w 0 (fun _ => true) true n' 4 (([d0, d1, d2, d3, d4, d5, d6, d7, d8, d9, d10, d11, d12, d13, d14, d15, d16].drop 12).take (Tryd.prog.cellsOf 4)) = ys[1]? := hf' 1 _ rfl
  have f2 : DataW.trod enc Tryd.prog w 0 (fun _ => true) true n' 36 (([d0, d1, d2, d3, d4, d5, d6, d7, d8, d9, d10, d11, d12, d13, d14, d15, d16].drop 13).take (Tryd.prog.cellsOf 36)) = ys[2]? := hf' 2 _ rfl
  have f3 : DataW.trod enc Tryd.prog w 0 (fun _ => true) true n' 9 (([d0, d1, d2, d3, d4, d5, d6, d7, d8, d9, d10, d11, d12, d13, d14, d15, d16].drop 15).take (Tryd.prog.cellsOf 9)) = ys[3]? := hf' 3 _ rfl
  have f4 : DataW.trod enc Tryd.prog w 0 (fun _ => true) true n' 4 (([d0, d1, d2, d3, d4, d5, d6, d7, d8, d9, d10, d11, d12, d13, d14, d15, d16].drop 16).take (Tryd.prog.cellsOf 4)) = ys[4]? := hf' 4 _ rfl
  rw [show Tryd.prog.cellsOf 39 = 12 from by kernel_rfl] at f0
  rw [show Tryd.prog.cellsOf 4 = 1 from by kernel_rfl] at f1 f4
  rw [show Tryd.prog.cellsOf 36 = 2 from by kernel_rfl] at f2
  rw [show Tryd.prog.cellsOf 9 = 1 from by kernel_rfl] at f3
  have hy0 : ys[0]? = some (ys[0]'(by simp at hyl; omega)) := List.getElem?_eq_getElem _
  rw [hy0] at f0
  have hy1 : ys[1]? = some (ys[1]'(by simp at hyl; omega)) := List.getElem?_eq_getElem _
  rw [hy1] at f1
  have hy2 : ys[2]? = some (ys[2]'(by simp at hyl; omega)) := List.getElem?_eq_getElem _
  rw [hy2] at f2
  have hy3 : ys[3]? = some (ys[3]'(by simp at hyl; omega)) := List.getElem?_eq_getElem _
  rw [hy3] at f3
  have hy4 : ys[4]? = some (ys[4]'(by simp at hyl; omega)) := List.getElem?_eq_getElem _
  rw [hy4] at f4
  simp only [List.drop_zero, List.drop_succ_cons, List.take_succ_cons, List.take_zero] at f0 f1 f2 f3 f4
  have hxd : x.1 = .agg (ys.map (·.1)) := by rw [hD]
  have hw0 : ∀ n ∈ (ys[0]'(by simp at hyl; omega)).1.weights Tryd.prog 39, n ≤ reachBytes := by
    intro n hn
    apply hs
    rw [hxd]
    simp only [DataW.weights, Tryd.underlying54]
    exact DataW.weights_mem_each (j := 0) (t := 39) (d := (ys[0]'(by simp at hyl; omega)).1) rfl (by rw [List.getElem?_map, hy0]; rfl) n hn
  obtain ⟨t, r, q, da, ds, dc, k, nt, nr, pt, pr, s, p, v, e, hr, _, hb⟩ := op_open f0 hw0
  obtain ⟨b1, h1, _⟩ := DataW.trod_bool Tryd.underlying4 f1
  obtain ⟨ut, ur, h2, h3⟩ := stamp_open f2
  obtain ⟨ks, h4, _, _⟩ := DataW.trod_string Tryd.underlying9 f3
  obtain ⟨b2, h5, _⟩ := DataW.trod_bool Tryd.underlying4 f4
  simp only [List.cons.injEq, and_true] at h1 h4 h5 e
  obtain ⟨rfl, rfl, rfl, rfl, rfl, rfl, rfl, rfl, rfl, rfl, rfl, rfl⟩ := e
  subst h1 h2 h3 h4 h5
  exact ⟨(⟨(⟨t, r, ds, k, nt, nr, pt, pr, s, p, v⟩, q), b1, (ut, ur), ks, b2⟩, ⟨da, ds.length, dc⟩), rfl, rfl, hr, hb⟩
/-- a script: a tree, operations, places -/
structure ScT (w : World) (na : Option Addr) (ns : List ND) (nn nc : Nat) (ma : Option Addr) (ys : List EV) (mn mc : Nat) (la : Option Addr) (ls : List OV) (ln lc : Nat) (ia : Option Addr) (is : List Pl) (im ic : Nat) : Prop where
  nr : RowF 5 ND.enc w na ns
  nl : nn = ns.length
  nm : ns.length * 48 ≤ 140737488355328
  mr : RowM w ma ys
  ml : mn = ys.length
  mc_ : mn ≤ mc
  mm : ys.length * 168 ≤ 140737488355328
  lr : RowF 12 OV.enc w la ls
  ld : DepsV w ls
  ll : ln = ls.length
  lm : ls.length * 120 ≤ 140737488355328
  ir : RowF 2 encP w ia is
  il : im = is.length
  im_ : is.length * 16 ≤ 140737488355328
abbrev valSc (na : Option Addr) (nn nc : Nat) (ma : Option Addr) (mn mc : Nat) (la : Option Addr) (ln lc : Nat) (ia : Option Addr) (im ic : Nat) : Value := .agg #[.slice na nn nc, .slice ma mn mc, .slice la ln lc, .slice ia im ic]
theorem ScT.next {w w' : World} {na : Option Addr} {ns : List ND} {nn nc : Nat} {ma : Option Addr} {ys : List EV} {mn mc : Nat} {la : Option Addr} {ls : List OV} {ln lc : Nat} {ia : Option Addr} {is : List Pl} {im ic : Nat} (h : ScT w na ns nn nc ma ys mn mc la ls ln lc ia is im ic) (hb : Below w.heap.size w w') : ScT w' na ns nn nc ma ys mn mc la ls ln lc ia is im ic :=
  ⟨h.nr.next flatN hb, h.nl, h.nm, h.mr.next hb, h.ml, h.mc_, h.mm, h.lr.next flatO hb, h.ld.below hb, h.ll, h.lm, h.ir.next flatP hb, h.il, h.im_⟩
set_option maxHeartbeats 1000000 in
theorem scriptT_open {H : Type} {enc : TypeId × Value → H} {w : World} {cs : Array Value} {d : DataW H} {p : List MemPlace} (hcs : cs.size = Tryd.prog.cellsOf 29) (h : DataW.Trod enc Tryd.prog w 0 (fun _ => true) true 29 (.agg cs) d p)
    (hs : ∀ n ∈ d.weights Tryd.prog 29, n ≤ reachBytes) : ∃ na ns nn nc ma ys mn mc la ls ln lc ia is im ic, cs = #[.slice na nn nc, .slice ma mn mc, .slice la ln lc, .slice ia im ic] ∧ ScT w na ns nn nc ma ys mn mc la ls ln lc ia is im ic := by
  obtain ⟨fuel, hf⟩ := h
  have hC : Tryd.prog.cellsOf 29 = 4 := by kernel_rfl
  rw [hC] at hcs
  obtain ⟨l⟩ := cs
  match l, hcs with
  | [d0, d1, d2, d3], _ =>
  have hf2 : DataW.trod enc Tryd.prog w 0 (fun _ => true) true fuel 29 [d0, d1, d2, d3] = some (d, p) := by simpa [Value.cells] using hf
  clear hf
  obtain ⟨ys, n', _, hD, _, hyl, hf'⟩ := DataW.trod_struct Tryd.underlying29 hf2
  have f0 : DataW.trod enc Tryd.prog w 0 (fun _ => true) true n' 25 (([d0, d1, d2, d3].drop 0).take (Tryd.prog.cellsOf 25)) = ys[0]? := hf' 0 _ rfl
  have f1 : DataW.trod enc Tryd.prog w 0 (fun _ => true) true n' 26 (([d0, d1, d2, d3].drop 2).take (Tryd.prog.cellsOf 26)) = ys[1]? := hf' 1 _ rfl
  have f2 : DataW.trod enc Tryd.prog w 0 (fun _ => true) true n' 27 (([d0, d1, d2, d3].drop 3).take (Tryd.prog.cellsOf 27)) = ys[2]? := hf' 2 _ rfl
  rw [show Tryd.prog.cellsOf 25 = 2 from by kernel_rfl] at f0
  rw [show Tryd.prog.cellsOf 26 = 1 from by kernel_rfl] at f1
  rw [show Tryd.prog.cellsOf 27 = 1 from by kernel_rfl] at f2
  have hy0 : ys[0]? = some (ys[0]'(by simp at hyl; omega)) := List.getElem?_eq_getElem _
  rw [hy0] at f0
  have hy1 : ys[1]? = some (ys[1]'(by simp at hyl; omega)) := List.getElem?_eq_getElem _
  rw [hy1] at f1
  have hy2 : ys[2]? = some (ys[2]'(by simp at hyl; omega)) := List.getElem?_eq_getElem _
  rw [hy2] at f2
  simp only [List.drop_zero, List.drop_succ_cons, List.take_succ_cons, List.take_zero] at f0 f1 f2
  have hxd : d = .agg (ys.map (·.1)) := by have := congrArg Prod.fst hD; exact this
  have hw0 : ∀ n ∈ (ys[0]'(by simp at hyl; omega)).1.weights Tryd.prog 25, n ≤ reachBytes := by
    intro n hn
    apply hs
    rw [hxd]
    simp only [DataW.weights, Tryd.underlying29]
    exact DataW.weights_mem_each (j := 0) (t := 25) (d := (ys[0]'(by simp at hyl; omega)).1) rfl (by rw [List.getElem?_map, hy0]; rfl) n hn
  have hw1 : ∀ n ∈ (ys[1]'(by simp at hyl; omega)).1.weights Tryd.prog 26, n ≤ reachBytes := by
    intro n hn
    apply hs
    rw [hxd]
    simp only [DataW.weights, Tryd.underlying29]
    exact DataW.weights_mem_each (j := 1) (t := 26) (d := (ys[1]'(by simp at hyl; omega)).1) rfl (by rw [List.getElem?_map, hy1]; rfl) n hn
  have hw2 : ∀ n ∈ (ys[2]'(by simp at hyl; omega)).1.weights Tryd.prog 27, n ≤ reachBytes := by
    intro n hn
    apply hs
    rw [hxd]
    simp only [DataW.weights, Tryd.underlying29]
    exact DataW.weights_mem_each (j := 2) (t := 27) (d := (ys[2]'(by simp at hyl; omega)).1) rfl (by rw [List.getElem?_map, hy2]; rfl) n hn
  obtain ⟨la, ls, lc, h2, l1, l2, l3, l4⟩ := rowF_open flatO (by kernel_rfl) (by kernel_rfl) (opV_opens H enc w) f1 hw1
  obtain ⟨ia, is, ic, h3, i1, i2, i3, i4⟩ := rowF_open flatP (by kernel_rfl) (by kernel_rfl) (stampP_opens H enc w) f2 hw2
  obtain ⟨zs, n2, _, hE, _, hzl, hg'⟩ := DataW.trod_struct Tryd.underlying25 f0
  have g0 : DataW.trod enc Tryd.prog w 0 (fun _ => true) true n2 22 (([d0, d1].drop 0).take (Tryd.prog.cellsOf 22)) = zs[0]? := hg' 0 _ rfl
  have g1 : DataW.trod enc Tryd.prog w 0 (fun _ => true) true n2 23 (([d0, d1].drop 1).take (Tryd.prog.cellsOf 23)) = zs[1]? := hg' 1 _ rfl
  rw [show Tryd.prog.cellsOf 22 = 1 from by kernel_rfl] at g0
  rw [show Tryd.prog.cellsOf 23 = 1 from by kernel_rfl] at g1
  have hz0 : zs[0]? = some (zs[0]'(by simp at hzl; omega)) := List.getElem?_eq_getElem _
  rw [hz0] at g0
  have hz1 : zs[1]? = some (zs[1]'(by simp at hzl; omega)) := List.getElem?_eq_getElem _
  rw [hz1] at g1
  simp only [List.drop_zero, List.drop_succ_cons, List.take_succ_cons, List.take_zero] at g0 g1
  have hyd : (ys[0]'(by simp at hyl; omega)).1 = .agg (zs.map (·.1)) := by rw [hE]
  have hv0 : ∀ n ∈ (zs[0]'(by simp at hzl; omega)).1.weights Tryd.prog 22, n ≤ reachBytes := by
    intro n hn
    apply hw0
    rw [hyd]
    simp only [DataW.weights, Tryd.underlying25]
    exact DataW.weights_mem_each (j := 0) (t := 22) (d := (zs[0]'(by simp at hzl; omega)).1) rfl (by rw [List.getElem?_map, hz0]; rfl) n hn
  have hv1 : ∀ n ∈ (zs[1]'(by simp at hzl; omega)).1.weights Tryd.prog 23, n ≤ reachBytes := by
    intro n hn
    apply hw0
    rw [hyd]
    simp only [DataW.weights, Tryd.underlying25]
    exact DataW.weights_mem_each (j := 1) (t := 23) (d := (zs[1]'(by simp at hzl; omega)).1) rfl (by rw [List.getElem?_map, hz1]; rfl) n hn
  obtain ⟨na, ns, nc, h0, a1, a2, a3, a4⟩ := rowF_open flatN (by kernel_rfl) (by kernel_rfl) (node_opens H enc w) g0 hv0
  obtain ⟨ma, es, mc, h1, b1, b2, b3, b4⟩ := rowF_open flatE (by kernel_rfl) (by kernel_rfl) (entry_opens H enc w) g1 hv1
  subst h0 h1 h2 h3
  exact ⟨na, ns, _, nc, ma, es, _, mc, la, ls, _, lc, ia, is, _, ic, rfl, a1, rfl, a4, ⟨b1, b2⟩, rfl, b3, b4, l1, l2, rfl, l4, i1, rfl, i4⟩
end Go.Proofs.YtjlbpmmckgjajaaDoor
