/- Joined: TE0 TE1 TE2 TM4 TE3. -/
import Derived.Test.YtjlbpmmckgjajaaDoorYD
import Derived.Test.YtjlbpmmckgjajaaDoorYA

/- Entries in memory: flat structs, the place of their Deps among their cells. -/
namespace Go.Proofs.YtjlbpmmckgjajaaDoor
open Go.RowKit Go.Lib Go.Maps
set_option linter.unusedVariables false

/-- where a row of numbers lies -/
structure DV where
  a : Option Addr
  n : Nat
  c : Nat
/-- an entry, and where its Deps lie -/
abbrev EV := ED × DV
def EV.enc (y : EV) : List Value := cellsE y.1 y.2.a y.2.n y.2.c
theorem flatE : Flat 54 23 17 168 EV.enc := by
  refine ⟨fun _ => rfl, fun x u hu => cellsE_one _ _ _ _ u hu, Tryd.underlying23, ?_, by decide, by decide⟩
  have h : (Tryd.prog.info? 54).map (fun i => (i.zero, i.size, i.bytes)) = some (some (.agg #[.int .i64 0, .int .i64 0, .int .i64 0, .slice none 0 0, .int .i64 0, .int .i64 0, .int .i64 0, .int .i64 0, .int .i64 0, .string ⟨#[]⟩, .int .i64 0, .int .i64 0, .bool false, .int .i64 0, .int .i64 0, .string ⟨#[]⟩, .bool false]), 17, 168) := by kernel_rfl
  obtain ⟨i0, hi, hz0, hz1, hz2⟩ := info_parts h
  exact ⟨i0, _, hi, hz0, hz1, hz2, rfl⟩
/-- an operation's Deps can be read -/
def DepK (w : World) (x : OpD) (d : DV) : Prop := d.n = x.1.ds.length ∧ RowK .i64 w d.a x.1.ds ∧ x.1.ds.length ≤ 17592186044416
theorem DepK.below {w w' : World} {x : OpD} {d : DV} (h : DepK w x d) (hb : Below w.heap.size w w') : DepK w' x d := ⟨h.1, h.2.1.below hb (Nat.le_refl _), h.2.2⟩
def DepsK (w : World) (ys : List EV) : Prop := ∀ y ∈ ys, DepK w y.1.op y.2
theorem DepsK.below {w w' : World} {ys : List EV} (h : DepsK w ys) (hb : Below w.heap.size w w') : DepsK w' ys := fun y hy => (h y hy).below hb
/-- a row of entries that can be read -/
structure RowM (w : World) (a : Option Addr) (ys : List EV) : Prop where
  row : RowF 17 EV.enc w a ys
  dep : DepsK w ys
theorem RowM.next {w w' : World} {a : Option Addr} {ys : List EV} (h : RowM w a ys) (hb : Below w.heap.size w w') : RowM w' a ys := ⟨h.row.next flatE hb, h.dep.below hb⟩
theorem RowM.nil (w : World) (a : Option Addr) : RowM w a [] := ⟨RowF.nil w a, fun y hy => by simp at hy⟩
theorem RowM.first {w : World} {a : Option Addr} {ys : List EV} (h : RowM w a ys) (l : Nat) : RowM w a (ys.take l) := ⟨h.row.first l, fun y hy => h.dep y (List.mem_of_mem_take hy)⟩
theorem RowM.rest {w : World} {a : Option Addr} {ys : List EV} (h : RowM w a ys) (l cap : Nat) (hn : ys.length ≤ cap) : RowM w (partF 17 a l cap) (ys.drop l) := ⟨h.row.rest l cap hn, fun y hy => h.dep y (List.mem_of_mem_drop hy)⟩
/-- an entry's cells at a place -/
theorem RowM.cells {w : World} {b off : Nat} {ys : List EV} (h : RowM w (some ⟨b, off, none⟩) ys) {i : Nat} {y : EV} (hi : ys[i]? = some y) : CellsAt w b (off + i * 17) y.enc := by
  obtain ⟨b', off', e, hc⟩ := h.row i y hi
  simp only [Option.some.injEq, Addr.mk.injEq] at e
  obtain ⟨rfl, rfl, _⟩ := e
  exact hc
theorem RowM.addr {w : World} {a : Option Addr} {ys : List EV} (h : RowM w a ys) {i : Nat} {y : EV} (hi : ys[i]? = some y) : ∃ b off, a = some ⟨b, off, none⟩ ∧ b < w.heap.size := by
  obtain ⟨b, off, e, hc⟩ := h.row i y hi
  exact ⟨b, off, e, FAt.lt flatE hc⟩
/-- a whole entry read -/
theorem ent_load {w : World} {b o : Nat} {y : EV} (h : CellsAt w b o y.enc) : (loadVar 54 ⟨b, o, none⟩).run Tryd.prog w = .ok (valE y.1 y.2.a y.2.n y.2.c) w := loadVar_is aggE sizeE rfl h
abbrev valY (y : EV) : Value := valE y.1 y.2.a y.2.n y.2.c
abbrev valOy (x : OpD) (d : DV) : Value := valO x d.a d.n d.c
/-- the entries of operations -/
def opsY (ys : List EV) : List OpD := ys.map (·.1.op)
theorem opsY_at {ys : List EV} {i : Nat} {y : EV} (h : ys[i]? = some y) : (opsY ys)[i]? = some y.1.op := by
  unfold opsY
  rw [List.getElem?_map, h]
  rfl
end Go.Proofs.YtjlbpmmckgjajaaDoor

/- Trees: is it a move; by stamps; the same effect; nodes held against each other. -/
namespace Go.Proofs.YtjlbpmmckgjajaaDoor
open Go.RowKit Go.Lib Go.Maps
set_option linter.unusedVariables false

def moveB (x : OpD) : Bool := decide (x.1.k = 1) && x.ok
set_option maxHeartbeats 1000000 in
theorem isMove_any (x : OpD) (d : DV) (w : World) (ht : Pr.Tab w) (hd : DepK w x d) : Calls Tryd.prog 24 #[valOy x d] w (BoolPost w (moveB x)) := by
  obtain ⟨⟨t, r, ds, k, nt, nr, pt, pr, s, p, v⟩, q⟩ := x
  obtain ⟨da, dn, dc⟩ := d
  have HB := Lib.hid (box_bel w (objO (⟨t, r, ds, k, nt, nr, pt, pr, s, p, v⟩, q) da dn dc))
  have HX := Lib.hid (OpX.new w (⟨t, r, ds, k, nt, nr, pt, pr, s, p, v⟩, q) da dn dc)
  have hl : ds.length ≤ 140737488355328 := by have := hd.2.2; simp only at this; omega
  have C := Lib.hid (fun x h => check_is t r q da ds dn dc k nt nr pt pr s p v (w.alloc (objO (⟨t, r, ds, k, nt, nr, pt, pr, s, p, v⟩, q) da dn dc)) (ht.alloc _) (hd.2.1.alloc _) hd.1 hl x h)
  clear hl hd ht
  unfold moveB OpD.ok OpR.ok valOy valO
  simp only
  by_cases hk : k = 1
  · subst hk
    cases ho : opB t r q ds 1 nt nr pt pr s p v
    · have D := Lib.hid (C.out 1 (by rw [ho]; rfl))
      clear C
      go_enter Tryd.func24, Tryd.ntmps24
      go_wp2_with fail
      refine (D.out).mono ?_
      rintro e w1 ⟨rfl, hb1⟩
      have HB1 := Lib.hid (HB.out.trans (hb1.mono HB.out.size))
      clear hb1
      go_wp2
      go_ret
      exact ⟨by simp, HB1.out⟩
    · have D := Lib.hid (C.out 0 (by rw [ho]; rfl))
      clear C
      go_enter Tryd.func24, Tryd.ntmps24
      go_wp2_with fail
      refine (D.out).mono ?_
      rintro e w1 ⟨rfl, hb1⟩
      have HB1 := Lib.hid (HB.out.trans (hb1.mono HB.out.size))
      clear hb1
      go_wp2
      go_ret
      exact ⟨by simp, HB1.out⟩
  · have hkz : (k == 1) = false := by simpa using hk
    clear C
    go_enter Tryd.func24, Tryd.ntmps24
    go_wp2
    go_ret
    exact ⟨by simp [hk], HB.out⟩
set_option maxHeartbeats 1000000 in
theorem byStamps_any (y : ED) (d : DV) (o : OpD) (f : DV) (w : World) : Calls Tryd.prog 26 #[valE y d.a d.n d.c, valOy o f] w (St.IntBel w (St.cmpS y.op.1.t y.op.1.r o.1.t o.1.r)) := by
  have HB := Lib.hid (St.below2 w (objE y d.a d.n d.c) (objO o f.a f.n f.c))
  have C := Lib.hid (fun W => St.cmp_any y.op.1.t y.op.1.r o.1.t o.1.r W)
  generalize St.cmpS y.op.1.t y.op.1.r o.1.t o.1.r = z at *
  go_enter Tryd.func26, Tryd.ntmps26
  go_wp2_with fail
  refine (C.out _).mono ?_
  rintro e w1 ⟨rfl, hb1⟩
  have HB1 := Lib.hid (HB.out.trans (hb1.mono HB.out.size))
  clear hb1
  go_wp2
  go_ret
  exact ⟨rfl, HB1.out⟩
def sameE (x y : ED) : Bool := (x.was == y.was) && decide (x.par.1 = y.par.1 ∧ x.par.2 = y.par.2) && decide (strN x.key = strN y.key) && (x.idle == y.idle)
theorem sameE_eq {x y : ED} (h : sameE x y = true) (ho : x.op = y.op) : x = y := by
  unfold sameE at h
  simp only [Bool.and_eq_true, beq_iff_eq, decide_eq_true_eq] at h
  obtain ⟨⟨⟨h1, h2, h3⟩, h4⟩, h5⟩ := h
  obtain ⟨o, a, ⟨b1, b2⟩, c, i⟩ := x
  obtain ⟨o', a', ⟨b1', b2'⟩, c', i'⟩ := y
  simp only at h1 h2 h3 h4 h5 ho
  have := Ky.strN_inj h4
  subst h1 h2 h3 h5 ho this
  rfl
theorem sameE_refl (x : ED) : sameE x x = true := by simp [sameE]
set_option maxHeartbeats 2000000 in
theorem sameE_any (x : ED) (da : Option Addr) (dn dc : Nat) (y : ED) (da' : Option Addr) (dn' dc' : Nat) (w : World) : Calls Tryd.prog 45 #[valE x da dn dc, valE y da' dn' dc'] w (BoolPost w (sameE x y)) := by
  have HB := Lib.hid (St.below2 w (objE x da dn dc) (objE y da' dn' dc'))
  obtain ⟨x0, xw, ⟨x1, x2⟩, xk, xi⟩ := x
  obtain ⟨y0, yw, ⟨y1, y2⟩, yk, yi⟩ := y
  have hG := St.st_guard
  unfold sameE
  simp only
  cases xw <;> cases yw
  case false.true | true.false =>
    go_enter Tryd.func45, Tryd.ntmps45
    go_wp2
    go_ret
    exact ⟨by simp, HB.out⟩
  all_goals
    cases h1 : decide (x1 = y1 ∧ x2 = y2)
    · have z3 := st_is x1 x2 y1 y2 false h1
      clear h1
      go_enter Tryd.func45, Tryd.ntmps45
      go_wp2
      go_ret
      exact ⟨by simp, HB.out⟩
    · have z3 := st_is x1 x2 y1 y2 true h1
      clear h1
      by_cases h2 : strN xk = strN yk
      · obtain rfl := Ky.strN_inj h2
        clear h2
        cases xi <;> cases yi
        all_goals
          go_enter Tryd.func45, Tryd.ntmps45
          go_wp2
          go_ret
          exact ⟨by simp, HB.out⟩
      · have e1 : (xk.toList == yk.toList) = false := by rw [Ky.same_strN]; exact decide_eq_false h2
        have e2 : ¬ xk.toList = yk.toList := by simpa using e1
        go_enter Tryd.func45, Tryd.ntmps45
        go_wp2
        go_ret
        exact ⟨by simp [h2], HB.out⟩
def eqN (x y : ND) : Bool := decide (x.id = y.id) && decide (x.par = y.par) && decide (strN x.key = strN y.key)
theorem eqN_iff {x y : ND} : eqN x y = true ↔ x = y := by
  unfold eqN
  simp only [Bool.and_eq_true, decide_eq_true_eq]
  constructor
  · rintro ⟨⟨h1, h2⟩, h3⟩
    obtain ⟨a, b, c⟩ := x
    obtain ⟨a', b', c'⟩ := y
    simp only at h1 h2 h3
    have := Ky.strN_inj h3
    subst h1 h2 this
    rfl
  · rintro rfl
    exact ⟨⟨rfl, rfl⟩, rfl⟩
set_option maxRecDepth 100000 in
theorem nd_equal (x y : ND) (w : World) : (Op.equalIn 10000 44 (valN x) (valN y)).run Tryd.prog w = .ok (eqN x y) w := by
  obtain ⟨⟨a1, a2⟩, ⟨a3, a4⟩, a5⟩ := x
  obtain ⟨⟨b1, b2⟩, ⟨b3, b4⟩, b5⟩ := y
  have u3 := Tryd.underlying3
  have a3' := Tryd.isAgg3
  have z3 := Tryd.sizeOf3
  have u5 := Tryd.underlying36
  have a5' := Tryd.isAgg36
  have z5 := Tryd.sizeOf36
  have hS : Tryd.prog.underlying 44 = some (.struct (Tryd.prog.fieldsOf 44)) := by kernel_rfl
  have hT : Tryd.prog.underlying 36 = some (.struct (Tryd.prog.fieldsOf 36)) := by kernel_rfl
  have hk' : (a5.toList = b5.toList) ↔ strN a5 = strN b5 := by
    have := Ky.same_strN a5 b5
    rw [Bool.eq_iff_iff] at this
    simpa using this
  rw [show (10000 : Nat) = 9999 + 1 from rfl, run_equalIn_agg w 9999 44 _ _ hS (by kernel_rfl)]
  simp only [Program.fieldsOf, Tryd.underlying44]
  go_simp
  by_cases h1 : a1 = b1 <;> by_cases h2 : a2 = b2 <;> by_cases h3 : a3 = b3 <;> by_cases h4 : a4 = b4 <;> by_cases h5 : strN a5 = strN b5 <;> simp [eqN, h1, h2, h3, h4, h5]
end Go.Proofs.YtjlbpmmckgjajaaDoor

/- Trees: rows of nodes held against each other. -/
namespace Go.Proofs.YtjlbpmmckgjajaaDoor
open Go.RowKit Go.Lib Go.Maps
set_option linter.unusedVariables false

theorem nd_neq (x y : ND) (b : Bool) (h : eqN x y = b) (w : World) : (binOp .neq 44 (valN x) (valN y)).run Tryd.prog w = .ok (.bool (!b)) w := by
  rw [run_neq_struct, nd_equal, h]
  rfl
theorem nd_guard (op : BinOp) (x y : Operand) (xs ys : Array Value) (w : World) : (eqGuard op 44 x y (.agg xs) (.agg ys)).run Tryd.prog w = .ok () w := run_eqGuard_agg w op 44 x y xs ys (by kernel_rfl)
theorem take_ext {α : Type} {xs ys : List α} {k : Nat} {x : α} (h : xs.take k = ys.take k) (hx : xs[k]? = some x) (hy : ys[k]? = some x) : xs.take (k + 1) = ys.take (k + 1) := by
  rw [List.take_add_one, List.take_add_one, h, hx, hy]
set_option maxHeartbeats 1000000 in
theorem eqNodes_any (a b : Option Addr) (xs ys : List ND) (n1 n2 c1 c2 : Nat) (w : World) (ha : RowF 5 ND.enc w a xs) (hb : RowF 5 ND.enc w b ys) (h1 : n1 = xs.length) (h2 : n2 = ys.length) (hl : xs.length ≤ 4398046511104) (bb : Bool) (hbb : bb = true ↔ xs = ys) :
    Calls Tryd.prog 47 #[.slice a n1 c1, .slice b n2 c2] w (BoolPost w bb) := by
  have mixed : Tryd.prog.follows .mixedOrders = true := by kernel_rfl
  by_cases e12 : n1 = n2
  · subst e12
    have HA := Lib.hid ha
    have HB := Lib.hid hb
    have HN := Lib.hid h1
    have HN2 := Lib.hid h2
    have HBB := Lib.hid hbb
    have hnl : n1 ≤ 4398046511104 := by omega
    have hG := nd_guard
    clear ha hb h1 h2 hl hbb
    go_enter Tryd.func47, Tryd.ntmps47
    go_wp2
    go_loopg [13] n1 (fun g1 v wr => ∃ k : Nat, v = .int .i64 k ∧ k ≤ n1 ∧ n1 - k ≤ g1 ∧ Hid (xs.take k = ys.take k) ∧ Hid (Below w.heap.size w wr))
    case atStart => exact ⟨0, rfl, by omega, by omega, rfl, Below.refl _ _⟩
    case round =>
      obtain ⟨k, rfl, hk, hg, HT, HI⟩ := hrel
      by_cases hin : k < n1
      · have hinz : (k : Int) < (n1 : Int) := by omega
        obtain ⟨x, hx⟩ : ∃ x, xs[k]? = some x := ⟨_, List.getElem?_eq_getElem (by rw [← HN.out]; exact hin)⟩
        obtain ⟨y, hy⟩ : ∃ y, ys[k]? = some y := ⟨_, List.getElem?_eq_getElem (by rw [← HN2.out]; exact hin)⟩
        obtain ⟨b1, o1, rfl, hat1⟩ := HA.out k x hx
        obtain ⟨b2, o2, rfl, hat2⟩ := HB.out k y hy
        have HX := Lib.hid hx
        have HY := Lib.hid hy
        have hat1' := hat1.below HI.out (hat1.lt flatN)
        have hat2' := hat2.below HI.out (hat2.lt flatN)
        have c0 : wr.cell? ⟨b1, o1 + k * 5, none⟩ = some (.int .i64 x.id.1) := hat1' 0 _ rfl
        have c1' : wr.cell? ⟨b1, o1 + k * 5 + 1, none⟩ = some (.int .i64 x.id.2) := hat1' 1 _ rfl
        have c2' : wr.cell? ⟨b1, o1 + k * 5 + 2, none⟩ = some (.int .i64 x.par.1) := hat1' 2 _ rfl
        have c3 : wr.cell? ⟨b1, o1 + k * 5 + 3, none⟩ = some (.int .i64 x.par.2) := hat1' 3 _ rfl
        have c4 : wr.cell? ⟨b1, o1 + k * 5 + 4, none⟩ = some (.string x.key) := hat1' 4 _ rfl
        have d0 : wr.cell? ⟨b2, o2 + k * 5, none⟩ = some (.int .i64 y.id.1) := hat2' 0 _ rfl
        have d1 : wr.cell? ⟨b2, o2 + k * 5 + 1, none⟩ = some (.int .i64 y.id.2) := hat2' 1 _ rfl
        have d2 : wr.cell? ⟨b2, o2 + k * 5 + 2, none⟩ = some (.int .i64 y.par.1) := hat2' 2 _ rfl
        have d3 : wr.cell? ⟨b2, o2 + k * 5 + 3, none⟩ = some (.int .i64 y.par.2) := hat2' 3 _ rfl
        have d4 : wr.cell? ⟨b2, o2 + k * 5 + 4, none⟩ = some (.string y.key) := hat2' 4 _ rfl
        clear hx hy hat1 hat2 hat1' hat2'
        cases he : eqN x y
        · have hnq : ∀ w, (binOp .neq 44 (.agg #[.int .i64 x.id.1, .int .i64 x.id.2, .int .i64 x.par.1, .int .i64 x.par.2, .string x.key]) (.agg #[.int .i64 y.id.1, .int .i64 y.id.2, .int .i64 y.par.1, .int .i64 y.par.2, .string y.key])).run Tryd.prog w = .ok (.bool true) w := nd_neq x y false he
          have HE : Hid (bb = false) := by
            show bb = false
            rw [Bool.eq_false_iff]
            intro hb
            have h1 := HBB.out.1 hb
            have h2 := HX.out
            rw [h1, HY.out] at h2
            injection h2 with h2
            rw [← h2, eqN_iff.2 rfl] at he
            cases he
          clear he
          go_wp2_with fail
          go_quiet (fail)
          go_wp2_with fail
          go_ret
          exact ⟨by have h := HE.out; subst h; rfl, below_drewN HI.out _⟩
        · have hnq : ∀ w, (binOp .neq 44 (.agg #[.int .i64 x.id.1, .int .i64 x.id.2, .int .i64 x.par.1, .int .i64 x.par.2, .string x.key]) (.agg #[.int .i64 y.id.1, .int .i64 y.id.2, .int .i64 y.par.1, .int .i64 y.par.2, .string y.key])).run Tryd.prog w = .ok (.bool false) w := nd_neq x y true he
          have HT2 : Hid (xs.take (k + 1) = ys.take (k + 1)) := take_ext HT.out HX.out (by rw [eqN_iff.1 he]; exact HY.out)
          clear he
          go_wp2_with fail
          go_quiet (fail)
          go_wp2_with fail
          go_roundg (n1 - (k + 1))
          case measure => omega
          case rel => exact ⟨k + 1, by go_num, by omega, by omega, HT2, below_drewN HI.out _⟩
      · obtain rfl : k = n1 := by omega
        have hinz : ¬ (k : Int) < (k : Int) := by omega
        have HE : Hid (bb = true) := by
          refine HBB.out.2 ?_
          have h := HT.out
          rwa [List.take_of_length_le (by rw [HN.out]; exact Nat.le_refl _), List.take_of_length_le (by rw [HN2.out]; exact Nat.le_refl _)] at h
        go_wp2
        go_ret
        exact ⟨by have h := HE.out; subst h; rfl, HI.out⟩
  · have hne : ¬ (n1 : Int) = (n2 : Int) := by omega
    have hnz : ((n1 : Int) == (n2 : Int)) = false := by simpa using hne
    have hE : bb = false := by
      rw [Bool.eq_false_iff]
      intro hb
      have := hbb.1 hb
      rw [h1, h2, this] at e12
      exact e12 rfl
    rw [hE]
    clear hbb ha hb h1 h2
    go_enter Tryd.func47, Tryd.ntmps47
    go_wp2
    go_ret
    exact ⟨rfl, Below.refl _ _⟩
end Go.Proofs.YtjlbpmmckgjajaaDoor

/- Trees: mathematics: moves by their stamps, one put among them, undone and done again. -/
namespace Go.Proofs.YtjlbpmmckgjajaaDoor
open Go.RowKit Go.Lib
set_option linter.unusedVariables false

abbrev stO (o : OpD) : Pl := (o.1.t, o.1.r)
/-- by their stamps -/
def AscS (l : List OpD) : Prop := l.Pairwise (fun a b => ltP (stO a) (stO b) = true)
/-- where one goes among them: all ahead are below it, none behind is -/
def PosS (l : List OpD) (o : OpD) (p : Nat) : Prop := p ≤ l.length ∧ (∀ x ∈ l.take p, ltP (stO x) (stO o) = true) ∧ (∀ x ∈ l.drop p, ltP (stO x) (stO o) = false)
def hereS (l : List OpD) (o : OpD) : Bool := l.any fun x => decide (stO x = stO o)
theorem here_no {l : List OpD} {o : OpD} (h : hereS l o = false) {x : OpD} (hx : x ∈ l) : stO x ≠ stO o := fun e => by
  unfold hereS at h
  rw [List.any_eq_false] at h
  exact h x hx (by simpa using e)
theorem here_yes {l : List OpD} {o : OpD} (h : hereS l o = true) : ∃ x ∈ l, stO x = stO o := by
  unfold hereS at h
  rw [List.any_eq_true] at h
  obtain ⟨x, hx, e⟩ := h
  exact ⟨x, hx, by simpa using e⟩
def insS (l : List OpD) (o : OpD) (p : Nat) : List OpD := l.take p ++ o :: l.drop p
theorem insS_asc {l : List OpD} {o : OpD} {p : Nat} (h : AscS l) (hp : PosS l o p) (hn : hereS l o = false) : AscS (insS l o p) := by
  unfold insS
  unfold AscS
  rw [List.pairwise_append, List.pairwise_cons]
  refine ⟨List.Pairwise.sublist (List.take_sublist _ _) h, ⟨fun b hb => ?_, List.Pairwise.sublist (List.drop_sublist _ _) h⟩, fun a ha b hb => ?_⟩
  · rcases ltP_tri (stO o) (stO b) with e | e | e
    · exact e
    · exact absurd e.symm (here_no hn (List.mem_of_mem_drop hb))
    · rw [hp.2.2 b hb] at e; cases e
  · rcases List.mem_cons.1 hb with rfl | hb
    · exact hp.2.1 a ha
    · have h1 := hp.2.1 a ha
      have e1 : l.take p ++ l.drop p = l := List.take_append_drop _ _
      unfold AscS at h
      rw [← e1, List.pairwise_append] at h
      exact h.2.2 a ha b hb
theorem insS_mem {l : List OpD} {o : OpD} {p : Nat} {x : OpD} : x ∈ insS l o p ↔ x = o ∨ x ∈ l := by
  unfold insS
  rw [List.mem_append, List.mem_cons]
  conv => rhs; rw [← List.take_append_drop p l]
  rw [List.mem_append]
  constructor
  · rintro (h | h | h)
    · exact .inr (.inl h)
    · exact .inl h
    · exact .inr (.inr h)
  · rintro (h | h | h)
    · exact .inr (.inl h)
    · exact .inl h
    · exact .inr (.inr h)
theorem insS_len {l : List OpD} {o : OpD} {p : Nat} (hp : p ≤ l.length) : (insS l o p).length = l.length + 1 := by
  unfold insS
  rw [List.length_append, List.length_cons, List.length_take, List.length_drop]
  omega
/-- of lists by their stamps, those with the same members are the same -/
theorem ascS_ext : ∀ {a b : List OpD}, AscS a → AscS b → (∀ x, x ∈ a ↔ x ∈ b) → a = b
  | [], [], _, _, _ => rfl
  | [], y :: b, _, _, h => by have := (h y).2 (List.mem_cons_self ..); simp at this
  | x :: a, [], _, _, h => by have := (h x).1 (List.mem_cons_self ..); simp at this
  | x :: a, y :: b, ha, hb, h => by
    obtain ⟨a1, a2⟩ := List.pairwise_cons.1 ha
    obtain ⟨b1, b2⟩ := List.pairwise_cons.1 hb
    have exy : x = y := by
      rcases List.mem_cons.1 ((h x).1 (List.mem_cons_self ..)) with e | e
      · exact e
      · rcases List.mem_cons.1 ((h y).2 (List.mem_cons_self ..)) with e2 | e2
        · exact e2.symm
        · have h1 := ltP_trans (a1 y e2) (b1 x e)
          rw [ltP_irr] at h1
          cases h1
    subst exy
    rw [ascS_ext a2 b2 fun u => ?_]
    have hne : ∀ {l : List OpD}, (∀ b ∈ l, ltP (stO x) (stO b) = true) → x ∉ l := fun hl hm => by
      have := hl x hm
      rw [ltP_irr] at this
      cases this
    constructor
    · intro hu
      rcases List.mem_cons.1 ((h u).1 (List.mem_cons_of_mem _ hu)) with rfl | e
      · exact absurd hu (hne a1)
      · exact e
    · intro hu
      rcases List.mem_cons.1 ((h u).2 (List.mem_cons_of_mem _ hu)) with rfl | e
      · exact absurd hu (hne b1)
      · exact e
theorem ascS_nodup {l : List OpD} (h : AscS l) : l.Nodup := List.Pairwise.imp (fun {a b} hab e => by rw [e, ltP_irr] at hab; cases hab) h
theorem ascS_sub : ∀ {b a : List OpD}, AscS a → AscS b → (∀ x ∈ a, x ∈ b) → a.Sublist b
  | [], a, _, _, hs => by
    cases a with
    | nil => exact List.Sublist.refl _
    | cons x r => have := hs x (List.mem_cons_self ..); simp at this
  | y :: b, [], _, _, _ => List.nil_sublist _
  | y :: b, x :: a, ha, hb, hs => by
    obtain ⟨a1, a2⟩ := List.pairwise_cons.1 ha
    obtain ⟨b1, b2⟩ := List.pairwise_cons.1 hb
    have hin : ∀ z ∈ a, z ≠ y → z ∈ b := fun z hz hne => by
      rcases List.mem_cons.1 (hs z (List.mem_cons_of_mem _ hz)) with e | e
      · exact absurd e hne
      · exact e
    by_cases e : x = y
    · subst e
      exact (ascS_sub a2 b2 fun z hz => hin z hz fun e2 => by
        have h1 := a1 z hz
        rw [e2, ltP_irr] at h1
        cases h1).cons_cons x
    · have hx : x ∈ b := by
        rcases List.mem_cons.1 (hs x (List.mem_cons_self ..)) with e2 | e2
        · exact absurd e2 e
        · exact e2
      refine (ascS_sub ha b2 fun z hz => ?_).cons y
      rcases List.mem_cons.1 hz with rfl | hz
      · exact hx
      · refine hin z hz fun e2 => ?_
        have h1 := a1 z hz
        have h2 := b1 x hx
        rw [e2] at h1
        have h3 := ltP_trans h2 h1
        rw [ltP_irr] at h3
        cases h3
/-- as many of them as there are: all of them -/
theorem ascS_all {a b : List OpD} (ha : AscS a) (hb : AscS b) (hs : ∀ x ∈ a, x ∈ b) (hl : b.length ≤ a.length) : a = b := (ascS_sub ha hb hs).eq_of_length_le hl
/-- a place of one's own is told by where one stands -/
theorem posS_take {l : List OpD} (h : AscS l) {i : Nat} {o : OpD} (hi : l[i]? = some o) {p : Nat} (hp : PosS (l.take i) o p) : insS (l.take i) o p = l.take (i + 1) := by
  have hil := (List.getElem?_eq_some_iff.1 hi).1
  have hlt : ∀ x ∈ l.take i, ltP (stO x) (stO o) = true := fun x hx => by
    have e1 : l.take i ++ l.drop i = l := List.take_append_drop _ _
    unfold AscS at h
    rw [← e1, List.pairwise_append] at h
    refine h.2.2 x hx o ?_
    rw [List.mem_iff_getElem?]
    exact ⟨0, by rw [List.getElem?_drop]; exact hi⟩
  have hp1 : p = (l.take i).length := by
    rcases Nat.lt_or_ge p (l.take i).length with h1 | h1
    · have h2 : (l.take i)[p] ∈ (l.take i).drop p := by
        rw [List.mem_iff_getElem?]
        exact ⟨0, by rw [List.getElem?_drop]; exact List.getElem?_eq_getElem h1⟩
      have h3 := hp.2.2 _ h2
      rw [hlt _ (List.mem_of_mem_drop h2)] at h3
      cases h3
    · have := hp.1
      omega
  unfold insS
  rw [hp1, List.take_length, List.drop_length, List.take_add_one, hi]
  rfl
theorem posS_drop {l : List OpD} (h : AscS l) {i : Nat} {o : OpD} (hi : l[i]? = some o) {p : Nat} (hp : PosS (l.drop (i + 1)) o p) : insS (l.drop (i + 1)) o p = l.drop i := by
  have hil := (List.getElem?_eq_some_iff.1 hi).1
  have e2 : l.drop i = o :: l.drop (i + 1) := by
    rw [List.drop_eq_getElem_cons hil]
    rw [List.getElem?_eq_getElem hil] at hi
    injection hi with hi
    rw [hi]
  have hlt : ∀ x ∈ l.drop (i + 1), ltP (stO x) (stO o) = false := fun x hx => by
    have h1 : AscS (l.drop i) := List.Pairwise.sublist (List.drop_sublist _ _) h
    rw [e2] at h1
    have h2 := (List.pairwise_cons.1 h1).1 x hx
    rw [Bool.eq_false_iff]
    intro h3
    have := ltP_trans h2 h3
    rw [ltP_irr] at this
    cases this
  have hp1 : p = 0 := by
    rcases Nat.eq_zero_or_pos p with h1 | h1
    · exact h1
    · have hpl := hp.1
      have h0 : 0 < (l.drop (i + 1)).length := by omega
      have h2 : (l.drop (i + 1))[0] ∈ (l.drop (i + 1)).take p := by
        rw [List.mem_iff_getElem?]
        exact ⟨0, by rw [List.getElem?_take, if_pos h1]; exact List.getElem?_eq_getElem h0⟩
      have h3 := hp.2.1 _ h2
      rw [hlt _ (List.mem_of_mem_take h2)] at h3
      cases h3
  unfold insS
  rw [hp1, e2]
  rfl
/-- the nodes, the entries of moves that are done from nothing -/
abbrev nodesG (l : List OpD) : List ND := (madeG l []).1
abbrev entsG (l : List OpD) : List ED := (madeG l []).2
theorem entsG_len (l : List OpD) : (entsG l).length = l.length := madeG_len l []
theorem nodesG_asc (l : List OpD) : AscN (nodesG l) := made_asc l List.Pairwise.nil
theorem made_snoc (l : List OpD) (o : OpD) (ns : List ND) : madeG (l ++ [o]) ns = (doneG (madeG l ns).1 o, (madeG l ns).2 ++ [entG (madeG l ns).1 o]) := by rw [madeG_append]; rfl
theorem take_snoc {α : Type} {l : List α} {i : Nat} {x : α} (h : l[i]? = some x) : l.take (i + 1) = l.take i ++ [x] := by
  rw [List.take_add_one, h]; rfl
/-- the nodes when so many of some moves are done, behind others -/
def partG (a b : List OpD) (j : Nat) : List ND := (madeG (b.take j) (nodesG a)).1
theorem partG_asc (a b : List OpD) (j : Nat) : AscN (partG a b j) := made_asc _ (nodesG_asc a)
theorem partG_step {a b : List OpD} {j : Nat} {o : OpD} (h : b[j]? = some o) : partG a b (j + 1) = doneG (partG a b j) o := by
  unfold partG
  rw [take_snoc h, made_snoc]
theorem partG_all (a b : List OpD) : partG a b b.length = nodesG (a ++ b) := by
  unfold partG nodesG
  rw [List.take_length, madeG_append]
theorem partG_zero (a b : List OpD) : partG a b 0 = nodesG a := rfl
/-- the entry of one of them -/
theorem ents_at : ∀ {l : List OpD} {ns : List ND} {j : Nat} {o : OpD}, l[j]? = some o → (madeG l ns).2[j]? = some (entG (madeG (l.take j) ns).1 o)
  | [], _, _, _, h => by simp at h
  | x :: l, ns, 0, o, h => by
    simp only [List.getElem?_cons_zero, Option.some.injEq] at h
    subst h
    rfl
  | x :: l, ns, j + 1, o, h => by
    rw [List.getElem?_cons_succ] at h
    rw [madeG, List.getElem?_cons_succ, ents_at h]
    rfl
theorem partG_undo {a b : List OpD} {j : Nat} {o : OpD} (h : b[j]? = some o) : undoG (partG a b (j + 1)) (entG (partG a b j) o) = partG a b j := by
  rw [partG_step h]
  exact undo_done (partG_asc a b j) o
/-- the entries behind others -/
theorem ents_app (a b : List OpD) : entsG (a ++ b) = entsG a ++ (madeG b (nodesG a)).2 := by
  unfold entsG
  rw [madeG_append]
theorem ents_take (a b : List OpD) : (entsG (a ++ b)).take a.length = entsG a := by
  rw [ents_app, List.take_left' (entsG_len a)]
theorem ents_drop (a b : List OpD) : (entsG (a ++ b)).drop a.length = (madeG b (nodesG a)).2 := by
  rw [ents_app, List.drop_left' (entsG_len a)]
/-- a tree: its nodes, its entries: may it be? -/
def treeP (ns : List ND) (es : List ED) : Prop := (∀ e ∈ es, e.op.1.k = 1 ∧ e.op.1.ok e.op.2 = true) ∧ AscS (es.map (·.op)) ∧ madeG (es.map (·.op)) [] = (ns, es)
end Go.Proofs.YtjlbpmmckgjajaaDoor

/- Trees: which trees may be: mathematics. -/
namespace Go.Proofs.YtjlbpmmckgjajaaDoor
open Go.RowKit Go.Lib
set_option linter.unusedVariables false

theorem st_lt (t r u v : Int) : decide (St.cmpS t r u v < 0) = ltP (t, r) (u, v) := by
  rw [Bool.eq_iff_iff, ltP_iff]
  unfold St.cmpS St.cmpI
  simp only [decide_eq_true_eq]
  constructor
  · intro h
    (repeat (first | omega | split at h))
  · intro h
    (repeat (first | omega | split))
theorem moveB_ok {x : OpD} (h : moveB x = true) : x.1.k = 1 ∧ x.ok = true := by
  unfold moveB at h
  simpa using h
theorem wf_small {z : Int} (h : 0 ≤ z ∧ z ≤ 1099511627776) : (Lit.int .i64 z).wf = true := WalkArith.wf_i64 (by omega)
theorem moveB_wf {x : OpD} (h : moveB x = true) : wfP (nodeO x) ∧ wfP (parO x) := by
  obtain ⟨hk, h⟩ := moveB_ok h
  unfold OpD.ok OpR.ok opB kndB at h
  simp only [hk, if_true, Bool.and_eq_true] at h
  obtain ⟨⟨⟨h1, h2⟩, h3⟩, ⟨⟨h4, h5⟩, h6⟩, h7⟩ := h
  unfold St.stB at h2
  simp only [decide_eq_true_eq] at h2
  have hp : (0 ≤ x.1.pt ∧ x.1.pt ≤ 1099511627776) ∧ (0 ≤ x.1.pr ∧ x.1.pr ≤ 1099511627776) := by
    unfold St.plB St.stB St.rtB at h4
    simp only [Bool.or_eq_true, decide_eq_true_eq] at h4
    omega
  exact ⟨⟨wf_small (by simp only; omega), wf_small (by simp only; omega)⟩, ⟨wf_small hp.1, wf_small hp.2⟩⟩
theorem moveB_key {x : OpD} (h : moveB x = true) : x.1.s.size ≤ 64 := by
  obtain ⟨hk, h⟩ := moveB_ok h
  unfold OpD.ok OpR.ok opB kndB at h
  simp only [hk, if_true, Bool.and_eq_true] at h
  have h5 := h.2.1.1.2
  rw [← strN_len]
  simp only [Ky.keyB, Bool.and_eq_true, decide_eq_true_eq] at h5
  have h6 := h5.2
  omega
theorem moveB_ds {x : OpD} (h : moveB x = true) : 1 ≤ x.1.ds.length ∧ x.1.ds.length ≤ 16 := by
  obtain ⟨hk, h⟩ := moveB_ok h
  unfold OpD.ok OpR.ok opB cntB at h
  simp only [Bool.and_eq_true] at h
  exact Hv.vecB_len h.1.2.1.1.1.1
/-- the operations of entries -/
abbrev opsE (es : List ED) : List OpD := es.map (·.op)
/-- a tree that may be: its moves are moves by their stamps, and did what they say -/
structure TreeP (ns : List ND) (es : List ED) : Prop where
  mv : ∀ e ∈ es, moveB e.op = true
  asc : AscS (opsE es)
  ent : entsG (opsE es) = es
  nds : nodesG (opsE es) = ns
/-- so many of them -/
structure UpTo (es : List ED) (k : Nat) : Prop where
  mv : ∀ e ∈ es.take k, moveB e.op = true
  asc : AscS (opsE (es.take k))
  ent : entsG (opsE (es.take k)) = es.take k
theorem UpTo.zero (es : List ED) : UpTo es 0 := ⟨fun e h => by simp at h, List.Pairwise.nil, rfl⟩
theorem opsE_snoc (es : List ED) (e : ED) : opsE (es ++ [e]) = opsE es ++ [e.op] := by simp
theorem UpTo.step {es : List ED} {k : Nat} {e : ED} (h : UpTo es k) (he : es[k]? = some e) (hm : moveB e.op = true) (hp : ∀ k' p, k = k' + 1 → es[k']? = some p → ltP (stO p.op) (stO e.op) = true) (hs : sameE (entG (nodesG (opsE (es.take k))) e.op) e = true) : UpTo es (k + 1) := by
  have h0 := take_snoc he
  refine ⟨fun x hx => ?_, ?_, ?_⟩
  · rw [h0] at hx
    rcases List.mem_append.1 hx with hx | hx
    · exact h.mv x hx
    · rw [List.mem_singleton] at hx
      rw [hx]; exact hm
  · rw [h0, opsE_snoc]
    unfold AscS
    rw [List.pairwise_append]
    refine ⟨h.asc, List.pairwise_singleton _ _, fun a ha b hb => ?_⟩
    rw [List.mem_singleton] at hb
    subst hb
    cases k with
    | zero => simp at ha
    | succ k' =>
      obtain ⟨p, hpk⟩ : ∃ p, es[k']? = some p := ⟨_, List.getElem?_eq_getElem (by have := (List.getElem?_eq_some_iff.1 he).1; omega)⟩
      have h2 := hp k' p rfl hpk
      have h3 := h.asc
      rw [take_snoc hpk, opsE_snoc] at h3 ha
      rcases List.mem_append.1 ha with ha | ha
      · unfold AscS at h3
        rw [List.pairwise_append] at h3
        exact ltP_trans (h3.2.2 a ha p.op (by simp)) h2
      · rw [List.mem_singleton] at ha
        rw [ha]; exact h2
  · have h1 : entG (nodesG (opsE (es.take k))) e.op = e := sameE_eq hs (entG_op _ _)
    rw [h0, opsE_snoc]
    unfold nodesG at h1
    unfold entsG
    have h2 := h.ent
    unfold entsG at h2
    rw [made_snoc]
    simp only
    rw [h1, h2]
theorem TreeP.at {ns : List ND} {es : List ED} (h : TreeP ns es) {k : Nat} {e : ED} (he : es[k]? = some e) : entG (nodesG (opsE (es.take k))) e.op = e := by
  have h1 : (opsE es)[k]? = some e.op := by
    unfold opsE
    rw [List.getElem?_map, he]
    rfl
  have h2 := ents_at (ns := []) h1
  have h3 := h.ent
  unfold entsG at h3
  rw [h3, he] at h2
  injection h2 with h2
  have e3 : opsE (es.take k) = (opsE es).take k := by simp [opsE, List.map_take]
  rw [e3]
  exact h2.symm
theorem TreeP.not_move {ns : List ND} {es : List ED} {k : Nat} {e : ED} (he : es[k]? = some e) (hm : moveB e.op = false) : ¬ TreeP ns es := fun h => by
  rw [h.mv e (List.mem_of_getElem? he)] at hm
  cases hm
theorem TreeP.not_asc {ns : List ND} {es : List ED} {k : Nat} {e p : ED} (he : es[k + 1]? = some e) (hp : es[k]? = some p) (hm : ltP (stO p.op) (stO e.op) = false) : ¬ TreeP ns es := fun h => by
  have h1 := h.asc
  unfold AscS at h1
  rw [List.pairwise_iff_getElem] at h1
  have hl := (List.getElem?_eq_some_iff.1 he).1
  have h2 := h1 k (k + 1) (by simp; omega) (by simpa using hl) (by omega)
  rw [List.getElem?_eq_getElem hl] at he
  rw [List.getElem?_eq_getElem (by omega)] at hp
  injection he with he
  injection hp with hp
  simp only [opsE, List.getElem_map] at h2
  rw [he, hp, hm] at h2
  cases h2
theorem TreeP.not_same {ns : List ND} {es : List ED} {k : Nat} {e : ED} (he : es[k]? = some e) (hm : sameE (entG (nodesG (opsE (es.take k))) e.op) e = false) : ¬ TreeP ns es := fun h => by
  rw [h.at he, sameE_refl] at hm
  cases hm
theorem TreeP.not_nodes {ns : List ND} {es : List ED} (hm : nodesG (opsE es) ≠ ns) : ¬ TreeP ns es := fun h => hm h.nds
theorem UpTo.all {ns : List ND} {es : List ED} (h : UpTo es es.length) (hn : nodesG (opsE es) = ns) : TreeP ns es := by
  have e1 : es.take es.length = es := List.take_length
  obtain ⟨h1, h2, h3⟩ := h
  rw [e1] at h1 h2 h3
  exact ⟨h1, h2, h3, hn⟩
theorem nodes_step {es : List ED} {k : Nat} {e : ED} (he : es[k]? = some e) : nodesG (opsE (es.take (k + 1))) = doneG (nodesG (opsE (es.take k))) e.op := by
  rw [take_snoc he, opsE_snoc]
  unfold nodesG
  rw [made_snoc]
theorem putN_len (n : ND) : ∀ ns : List ND, (putN ns n).length ≤ ns.length + 1
  | [] => Nat.le_refl _
  | x :: r => by
    rw [putN]
    split
    · simp
    · split
      · simp
      · have := putN_len n r
        simp only [List.length_cons]
        omega
theorem done_len (ns : List ND) (o : OpD) : (doneG ns o).length ≤ ns.length + 1 := by
  unfold doneG
  split
  · omega
  · exact putN_len _ _
theorem made_nodes_len : ∀ (l : List OpD) (ns : List ND), (madeG l ns).1.length ≤ ns.length + l.length
  | [], ns => Nat.le_refl _
  | o :: l, ns => by
    have h1 := made_nodes_len l (doneG ns o)
    have h2 := done_len ns o
    rw [madeG]
    simp only [List.length_cons]
    omega
theorem nodes_len (l : List OpD) : (nodesG l).length ≤ l.length := by
  have := made_nodes_len l []
  simpa using this
theorem acyc_nodes (l : List OpD) : Acyc (nodesG l) := acyc_made l acyc_nil
end Go.Proofs.YtjlbpmmckgjajaaDoor
