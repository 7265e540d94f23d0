/- Joined: D16 D17 D18 D19 D20 D21 D22. -/
import Derived.Test.YtdpopdlifcjdeaaDoorZK
import Derived.Laws.CopyRow
import Derived.Lib.Overlaps
import Derived.Lib.AppendZerosOnto
import Derived.Laws.Externs
import Derived.Shelf.RegionOpenPlain

/- Hold: where one stands among the held ones: mathematics, and the search. -/
namespace Go.Proofs.YtdpopdlifcjdeaaDoor
open Go.RowKit Go.Lib
set_option linter.unusedVariables false

theorem cmpO_lt {x y : OpD} : cmpO x y < 0 ↔ x.1.t < y.1.t ∨ (x.1.t = y.1.t ∧ x.1.r < y.1.r) := by
  unfold cmpO St.cmpS St.cmpI
  split
  · split
    · constructor
      · intro _; right; exact ⟨by assumption, by assumption⟩
      · intro _; decide
    · split <;> constructor <;> intro h <;> omega
  · split
    · constructor
      · intro _; left; assumption
      · intro _; decide
    · split <;> constructor <;> intro h <;> omega
theorem cmpO_eq {x y : OpD} : cmpO x y = 0 ↔ x.1.t = y.1.t ∧ x.1.r = y.1.r := by
  unfold cmpO St.cmpS St.cmpI
  split
  · split
    · constructor <;> intro h <;> omega
    · split <;> constructor <;> intro h <;> omega
  · split
    · constructor <;> intro h <;> omega
    · split <;> constructor <;> intro h <;> omega
theorem cmpO_trans {x y z : OpD} (h1 : cmpO x y < 0) (h2 : cmpO y z < 0) : cmpO x z < 0 := by
  rw [cmpO_lt] at *
  omega
/-- each stands ahead of all behind it -/
def Srt (hs : List OpD) : Prop := ∀ (i j : Nat) (x y : OpD), i < j → hs[i]? = some x → hs[j]? = some y → cmpO x y < 0
theorem held_next {v : List Int} {hs : List OpD} (h : heldB v hs = true) {i : Nat} {x y : OpD} (hx : hs[i]? = some x) (hy : hs[i + 1]? = some y) : cmpO x y < 0 := by
  have h1 := (held_iff.1 h).2.2 (i + 1) (List.getElem?_eq_some_iff.1 hy).1
  rw [heldAt_is hy, prevB_succ hx] at h1
  simp only [Bool.and_eq_true, decide_eq_true_eq] at h1
  exact h1.2
theorem held_srt {v : List Int} {hs : List OpD} (h : heldB v hs = true) : Srt hs := by
  intro i j x y hij hx hy
  obtain ⟨d, rfl⟩ : ∃ d, j = i + 1 + d := ⟨j - (i + 1), by omega⟩
  induction d generalizing y with
  | zero => exact held_next h hx hy
  | succ d ih =>
    obtain ⟨z, hz⟩ : ∃ z, hs[i + 1 + d]? = some z := ⟨_, List.getElem?_eq_getElem (by have := (List.getElem?_eq_some_iff.1 hy).1; omega)⟩
    exact cmpO_trans (ih z (by omega) hz) (held_next h hz hy)
/-- how many stand ahead of it -/
def PosIs (hs : List OpD) (o : OpD) (p : Nat) : Prop := p ≤ hs.length ∧ (∀ k x, k < p → hs[k]? = some x → cmpO x o < 0) ∧ (∀ k x, p ≤ k → hs[k]? = some x → ¬ cmpO x o < 0)
theorem pos_uniq {hs : List OpD} {o : OpD} {p q : Nat} (h1 : PosIs hs o p) (h2 : PosIs hs o q) : p = q := by
  rcases Nat.lt_trichotomy p q with h | h | h
  · obtain ⟨x, hx⟩ : ∃ x, hs[p]? = some x := ⟨_, List.getElem?_eq_getElem (by have := h2.1; omega)⟩
    exact absurd (h2.2.1 p x h hx) (h1.2.2 p x (Nat.le_refl _) hx)
  · exact h
  · obtain ⟨x, hx⟩ : ∃ x, hs[q]? = some x := ⟨_, List.getElem?_eq_getElem (by have := h1.1; omega)⟩
    exact absurd (h1.2.1 q x h hx) (h2.2.2 q x (Nat.le_refl _) hx)
def stampB (hs : List OpD) (o : OpD) : Bool := hs.any fun y => decide (y.1.t = o.1.t ∧ y.1.r = o.1.r)
def hereB (hs : List OpD) (o : OpD) (p : Nat) : Bool := match hs[p]? with | some y => cmpO y o == 0 | none => false
theorem here_stamp {hs : List OpD} {o : OpD} {p : Nat} (hs0 : Srt hs) (hp : PosIs hs o p) : hereB hs o p = stampB hs o := by
  rw [Bool.eq_iff_iff]
  unfold hereB stampB
  rw [List.any_eq_true]
  constructor
  · intro h
    split at h
    · rename_i y hy
      rw [beq_iff_eq, cmpO_eq] at h
      exact ⟨y, List.mem_of_getElem? hy, by rw [decide_eq_true_eq]; exact h⟩
    · cases h
  · rintro ⟨y, hy, h⟩
    rw [decide_eq_true_eq] at h
    obtain ⟨k, hk⟩ := List.getElem?_of_mem hy
    have hyo : cmpO y o = 0 := cmpO_eq.2 h
    have hkp : p ≤ k := by
      rcases Nat.lt_or_ge k p with hlt | hge
      · have := hp.2.1 k y hlt hk; omega
      · exact hge
    rcases Nat.lt_or_ge p k with hlt | hge
    · obtain ⟨z, hz⟩ : ∃ z, hs[p]? = some z := ⟨_, List.getElem?_eq_getElem (by have := (List.getElem?_eq_some_iff.1 hk).1; omega)⟩
      have h1 := hs0 p k z y hlt hz hk
      have h2 := hp.2.2 p z (Nat.le_refl _) hz
      exfalso
      apply h2
      rw [cmpO_lt] at h1 ⊢
      omega
    · obtain rfl : k = p := by omega
      rw [hk]
      simp [hyo]

def CmpPost (z : Int) (w : World) (e : Ending) (w' : World) : Prop := e = .returned (.int .i64 z) ∧ Below w.heap.size w w'
set_option maxHeartbeats 1000000 in
theorem byStamps_any (x : OpD) (da : Option Addr) (dn dc : Nat) (y : OpD) (da' : Option Addr) (dn' dc' : Nat) (w : World) : Calls Tryd.prog 44 #[valO x da dn dc, valO y da' dn' dc'] w (CmpPost (cmpO x y) w) := by
  have HB := Lib.hid (St.below2 w (objO x da dn dc) (objO y da' dn' dc'))
  have C := Lib.hid (fun W => St.cmp_any x.1.t x.1.r y.1.t y.1.r W)
  go_enter Tryd.func44, Tryd.ntmps44
  go_wp2_with fail
  refine (C.out _).mono ?_
  rintro e w1 ⟨rfl, hb⟩
  have HB1 := Lib.hid (HB.out.trans (hb.mono HB.out.size))
  clear hb
  go_wp2
  go_ret
  exact ⟨rfl, HB1.out⟩

def SearchPost (hs : List OpD) (o : OpD) (w : World) (e : Ending) (w' : World) : Prop := ∃ p : Nat, e = .returned (.tuple #[.int .i64 (p : Int), .bool (hereB hs o p)]) ∧ PosIs hs o p ∧ Below w.heap.size w w'
set_option maxHeartbeats 8000000 in
set_option maxRecDepth 100000 in
theorem search_any (ha : Option Addr) (hs : List OpD) (n c : Nat) (o : OpD) (oa : Option Addr) (on oc : Nat) (w : World) (hr : RowO w ha hs) (hn : n = hs.length) (hl : n ≤ 16) (hsr : Srt hs) :
    Calls Tryd.prog 43 #[.slice ha n c, valO o oa on oc, .func (.func 44) #[] #[]] w (SearchPost hs o w) := by
  have mixed : Tryd.prog.follows .mixedOrders = true := by kernel_rfl
  have HA := Lib.hid hr
  have HN := Lib.hid hn
  have HS := Lib.hid hsr
  have HBT := Lib.hid (box_bel w (objO o oa on oc))
  have HO := Lib.hid (OpX.new w o oa on oc)
  clear hr hn hsr
  go_enter Tryd.func43, Tryd.ntmps43
  go_wp2
  go_loopg [9, 10, 11] 16 (fun kx s9 s10 _ wr => ∃ lo hi : Nat, s9 = .int .i64 (lo : Int) ∧ s10 = .int .i64 (hi : Int) ∧ lo ≤ hi ∧ hi ≤ n ∧ hi - lo ≤ kx ∧ Hid ((∀ k x, k < lo → hs[k]? = some x → cmpO x o < 0) ∧ (∀ k x, hi ≤ k → hs[k]? = some x → ¬ cmpO x o < 0)) ∧ Hid (Below (w.alloc (objO o oa on oc)).heap.size (w.alloc (objO o oa on oc)) wr))
  case atStart => exact ⟨0, n, rfl, rfl, Nat.zero_le _, Nat.le_refl _, by omega, ⟨fun k x hk => absurd hk (Nat.not_lt_zero _), fun k x hk hx => by have := (List.getElem?_eq_some_iff.1 hx).1; have := HN.out; omega⟩, Below.refl _ _⟩
  case round =>
    obtain ⟨lo, hi, rfl, rfl, hlh, hin, hg, HI, HB⟩ := hrel
    by_cases hlt : lo < hi
    · have hltz : (lo : Int) < (hi : Int) := by omega
      obtain ⟨m, hm⟩ : ∃ m, (lo + hi) / 2 = m := ⟨_, rfl⟩
      have hmz : ((lo : Int) + (hi : Int)) / 2 = (m : Int) := by omega
      have hmn : m < n := by omega
      have hmnz : (m : Int) < (n : Int) := by omega
      obtain ⟨x, hx⟩ : ∃ x, hs[m]? = some x := ⟨_, List.getElem?_eq_getElem (by rw [← HN.out]; exact hmn)⟩
      have HX := Lib.hid hx
      have HBW := Lib.hid (HBT.out.trans (HB.out.mono HBT.out.size))
      obtain ⟨b, off, rfl, da, dc, hat, hrow, hdm⟩ := (HA.out.below HBW.out) m x hx
      obtain ⟨z, hz⟩ : ∃ z, cmpO x o = z := ⟨_, rfl⟩
      have HZ := Lib.hid hz
      have C := Lib.hid (fun W => byStamps_any x da x.1.ds.length dc o oa on oc W)
      rw [hz] at C
      have x1 : St.RegrownTo wr 44 #[valO x da x.1.ds.length dc, valO o oa on oc] (.int .i64 z) := regrown_at fun W' hb => C.out W'
      obtain ⟨g0, g1, g2, g3, g4, g5, g6, g7, g8, g9, g10, g11⟩ := hat.regrown
      obtain ⟨f0, f1, f2, f3, f4, f5, f6, f7, f8, f9, f10, f11⟩ := (HO.out.next HB.out).regrown
      have HM := Lib.hid hm
      clear hx hat hrow hdm hz C hm
      generalize x.1.ds.length = dn at *
      go_wp2_with fail
      refine wp_region_quiet_below (by assumption) (by kernel_rfl) ?_
      repeat (go_big_quiet_step ((first | (go_at_call 44; with_reducible exact x1 _ _))))
      refine wpQuiet_nil ?_
      intro _ hw'
      obtain ⟨⟨dq, osq⟩, hw''⟩ := hw'
      subst hw''
      have HB1 := Lib.hid (HB.out.trans ((below_regrown _ dq osq).mono HB.out.size))
      generalize Go.Sort.grow (redrawn wr dq) osq = w1 at *
      clear g0 g1 g2 g3 g4 g5 g6 g7 g8 g9 g10 g11 f0 f1 f2 f3 f4 f5 f6 f7 f8 f9 f10 f11 x1
      cases hd : decide (z < 0)
      · have hz0 : ¬ z < 0 := of_decide_eq_false hd
        have HI2 : Hid ((∀ k x, k < lo → hs[k]? = some x → cmpO x o < 0) ∧ (∀ k x, m ≤ k → hs[k]? = some x → ¬ cmpO x o < 0)) := ⟨HI.out.1, fun k y hk hy hyo => by
          rcases Nat.lt_or_ge m k with h | h
          · exact hz0 (by rw [← HZ.out]; exact cmpO_trans (HS.out m k x y h HX.out hy) hyo)
          · obtain rfl : k = m := by omega
            rw [HX.out] at hy
            injection hy with hy
            rw [← hy, HZ.out] at hyo
            exact hz0 hyo⟩
        clear hz0
        go_wp2_with fail
        go_roundg (m - lo)
        case measure => omega
        case rel => exact ⟨lo, m, rfl, rfl, by have := HM.out; omega, by omega, by omega, HI2.out, HB1.out⟩
      · have hz0 : z < 0 := of_decide_eq_true hd
        have HI2 : Hid ((∀ k x, k < m + 1 → hs[k]? = some x → cmpO x o < 0) ∧ (∀ k x, hi ≤ k → hs[k]? = some x → ¬ cmpO x o < 0)) := ⟨fun k y hk hy => by
          rcases Nat.lt_or_ge k m with h | h
          · exact cmpO_trans (HS.out k m y x h hy HX.out) (by rw [HZ.out]; exact hz0)
          · obtain rfl : k = m := by omega
            rw [HX.out] at hy
            injection hy with hy
            rw [← hy, HZ.out]
            exact hz0, fun k y hk hy => by have := HI.out.2 k y hk hy; omega⟩
        clear hz0
        go_wp2_with fail
        go_roundg (hi - (m + 1))
        case measure => omega
        case rel => exact ⟨m + 1, hi, by go_num, rfl, by omega, by omega, by omega, HI2.out, HB1.out⟩
    · obtain rfl : hi = lo := by omega
      have hltz : ¬ (hi : Int) < (hi : Int) := by omega
      have HP : Hid (PosIs hs o hi) := ⟨by have := HN.out; omega, HI.out.1, fun k y hk hy => by have := HI.out.2 k y hk hy; omega⟩
      have HBE := Lib.hid HBT.out.size
      by_cases hin2 : hi < n
      · have hinz : (hi : Int) < (n : Int) := by omega
        obtain ⟨x, hx⟩ : ∃ x, hs[hi]? = some x := ⟨_, List.getElem?_eq_getElem (by rw [← HN.out]; exact hin2)⟩
        have HBW := Lib.hid (HBT.out.trans (HB.out.mono HBT.out.size))
        obtain ⟨b, off, rfl, da, dc, hat, hrow, hdm⟩ := (HA.out.below HBW.out) hi x hx
        obtain ⟨z, hz⟩ : ∃ z, cmpO x o = z := ⟨_, rfl⟩
        have HH : Hid (hereB hs o hi = (z == 0)) := by show _ = _; unfold hereB; rw [hx, ← hz]
        have C := Lib.hid (fun W => byStamps_any x da x.1.ds.length dc o oa on oc W)
        rw [hz] at C
        have x1 : St.RegrownTo wr 44 #[valO x da x.1.ds.length dc, valO o oa on oc] (.int .i64 z) := regrown_at fun W' hb => C.out W'
        obtain ⟨g0, g1, g2, g3, g4, g5, g6, g7, g8, g9, g10, g11⟩ := hat.regrown
        obtain ⟨f0, f1, f2, f3, f4, f5, f6, f7, f8, f9, f10, f11⟩ := (HO.out.next HB.out).regrown
        obtain ⟨e0, he0⟩ : ∃ e0, (z == 0) = e0 := ⟨_, rfl⟩
        rw [he0] at HH
        clear hx hat hrow hdm hz C
        generalize x.1.ds.length = dn at *
        go_wp2_with fail
        refine wp_region_quiet_below (by assumption) (by kernel_rfl) ?_
        repeat (go_big_quiet_step ((first | (go_at_call 44; with_reducible exact x1 _ _))))
        refine wpQuiet_nil ?_
        intro _ hw'
        obtain ⟨⟨dq, osq⟩, hw''⟩ := hw'
        subst hw''
        have HB1 := Lib.hid (HB.out.trans ((below_regrown _ dq osq).mono HB.out.size))
        generalize Go.Sort.grow (redrawn wr dq) osq = w1 at *
        clear g0 g1 g2 g3 g4 g5 g6 g7 g8 g9 g10 g11 f0 f1 f2 f3 f4 f5 f6 f7 f8 f9 f10 f11 x1
        go_wp2
        go_ret2
        exact ⟨hi, by rw [HH.out]; rfl, HP.out, HBT.out.trans (HB1.out.mono HBT.out.size)⟩
      · have hinz : ¬ (hi : Int) < (n : Int) := by omega
        have hinz' : decide ((hi : Int) < (n : Int)) = false := decide_eq_false hinz
        have HH : Hid (hereB hs o hi = false) := by show _ = _; unfold hereB; rw [List.getElem?_eq_none (by have := HN.out; omega)]
        go_wp2_with fail
        go_quiet (fail)
        go_wp2
        go_ret2
        exact ⟨hi, by rw [HH.out]; rfl, HP.out, HBT.out.trans ((below_drewN HB.out _).mono HBT.out.size)⟩
end Go.Proofs.YtdpopdlifcjdeaaDoor

/- Hold: an operation laid into a row: copying within rows of operations. -/
namespace Go.Proofs.YtdpopdlifcjdeaaDoor
open Go.RowKit Go.Lib
set_option linter.unusedVariables false

theorem copyO_run (w : World) (ty : TypeId) (g o dLen dCap : Nat) (a : Addr) (sLen sCap : Nat) (cur : Array Value) (cs : List Value) (k : Nat) (hk : k = Nat.min sLen dLen) (hg : w.heap[g]? = some (.cells cur 32 (0, 0))) (hn : cs.length = k * 12)
    (hsrc : ∀ j v, cs[j]? = some v → w.cell? (a.add j) = some v) (hfit : o + cs.length ≤ cur.size) (h1 : ∀ v ∈ cs, v.oneCell' = true) :
    (Builtin.copy_ #[23, 23] ty #[.slice (some ⟨g, o, none⟩) dLen dCap, .slice (some a) sLen sCap]).run Tryd.prog w = .ok (goInt k) (w.setRow g (cur.toList.take o ++ cs ++ cur.toList.drop (o + cs.length)).toArray) := by
  have hl := run_loadCells_list (P := Tryd.prog) w a cs hsrc
  have hst := run_storeCells_at Tryd.prog g o 32 cs 0 cur w hg (by simpa using hfit) h1
  obtain ⟨i0, hi, hz0, hz1, hz2⟩ := info_parts Tryd.info32
  rw [hn] at hl
  simp [Builtin.copy_, run_underlying Tryd.underlying23, Builtin.lenOf, Builtin.firstCells, sizeOf, typeInfo, hi, hz1, ← hk, hl, hst, hn]
theorem wpList_copyO (w : World) {ops : Array Oper} {rest : List Oper} {o : Oper} {a : Act} {Q : Exit → Act → World → Prop} (hgd : o.guard = none) (d s : Operand)
    (ho : o.op = .call { callee := .builtin .copy, args := #[d, s], argTypes := #[23, 23] }) (v u : Value) (hd : a.eval d = v) (hs : a.eval s = u) {v' : Value} {w' : World}
    (hr : (Builtin.copy_ #[23, 23] o.type #[v, u]).run Tryd.prog w = .ok v' w') (h : wpList Tryd.prog ops Q rest (a.put o.dst v') w') : wpList Tryd.prog ops Q (o :: rest) a w := by
  refine wpList_plain hgd fun _ hK => ?_
  unfold Oper.wp execOp
  simp only [ho, resolve, invoke, builtin, Sem.run_bind, Sem.run_pure, Result.andThen_ok, List.map_toArray, List.map_cons, List.map_nil, hd, hs, hr]
  exact hK _ _ h
theorem step_copyO {ops : Array Oper} {o : Oper} {a : Act} {w : World} {K : Act → World → Prop} {Q : Exit → Act → World → Prop} {E : Prop} (hgd : o.guard = none) (d s : Operand)
    (ho : o.op = .call { callee := .builtin .copy, args := #[d, s], argTypes := #[23, 23] }) (v u : Value) (hd : a.eval d = v) (hs : a.eval s = u) {v' : Value} {w' : World}
    (hr : (Builtin.copy_ #[23, 23] o.type #[v, u]).run Tryd.prog w = .ok v' w') (h : K (a.put o.dst v') w') : if Region.wanted o (yielded ops a.tmps) = true then Oper.wp Tryd.prog o a w K Q else E := by
  have hw : Region.wanted o (yielded ops a.tmps) = true := by simp [Region.wanted, hgd]
  rw [if_pos hw]
  unfold Oper.wp execOp
  simp only [ho, resolve, invoke, builtin, Sem.run_bind, Sem.run_pure, Result.andThen_ok, List.map_toArray, List.map_cons, List.map_nil, hd, hs, hr]
  exact h
theorem cellsO_ins : ∀ {os : List OpD} {dl : List Value} (i : Nat) (x : OpD) (d : Value), dl.length = os.length → i ≤ os.length → cellsO (os.take i ++ x :: os.drop i) (dl.take i ++ d :: dl.drop i) = (cellsO os dl).take (i * 12) ++ x.1.cells x.2 d ++ (cellsO os dl).drop (i * 12)
  | os, dl, 0, x, d, _, _ => by simp [cellsO]
  | [], dl, i + 1, x, d, _, h => by simp at h
  | y :: os, [], i + 1, x, d, h, _ => by simp at h
  | y :: os, e :: dl, i + 1, x, d, h1, h2 => by
    have ih := cellsO_ins (os := os) (dl := dl) i x d (by simpa using h1) (by simpa using h2)
    rw [List.take_succ_cons, List.take_succ_cons, List.drop_succ_cons, List.drop_succ_cons, List.cons_append, List.cons_append, cellsO, ih, cellsO]
    have h12 : (y.1.cells y.2 e).length = 12 := rfl
    rw [show (i + 1) * 12 = (y.1.cells y.2 e).length + i * 12 by rw [h12]; omega, List.take_length_add_append, List.drop_length_add_append]
    simp
theorem cells_one (x : OpD) (da : Option Addr) (dn dc : Nat) : ∀ u ∈ x.1.cells x.2 (.slice da dn dc), u.oneCell' = true := by
  intro u hu
  simp only [OpR.cells, List.mem_cons, List.not_mem_nil, or_false] at hu
  rcases hu with rfl | rfl | rfl | rfl | rfl | rfl | rfl | rfl | rfl | rfl | rfl | rfl <;> rfl
/-- a row that the call owns, opened -/
theorem OwnO.heap {w : World} {base g n cap : Nat} {os : List OpD} {dl : List Value} (h : OwnO w base (.slice (some ⟨g, 0, none⟩) n cap) os dl) : n = os.length ∧ base ≤ g ∧ n ≤ cap ∧ cap ≤ maxLen ∧ ∃ cur : Array Value, w.heap[g]? = some (.cells cur 32 (0, 0)) ∧ cur.size = cap * 12 ∧ cur.toList.take (n * 12) = cellsO os dl := by
  rcases h.own.2 with ⟨e, _⟩ | ⟨g', cap', cur, e, h1, h2, h3, h4, h5, h6⟩
  · cases e
  · injection e with e1 e2 e3
    injection e1 with e1
    injection e1 with e1
    subst e1 e2 e3
    exact ⟨rfl, h1, h3, h4, cur, h2, h5, h6⟩
end Go.Proofs.YtdpopdlifcjdeaaDoor

/- Hold: an operation laid into a row: Insert. -/
namespace Go.Proofs.YtdpopdlifcjdeaaDoor
open Go.RowKit Go.Lib
set_option linter.unusedVariables false

def InsPost (base : Nat) (sv : Value) (os : List OpD) (dl : List Value) (x : OpD) (d : Value) (i : Nat) (W0 : World) (e : Ending) (w' : World) : Prop := ∃ tv, e = .returned tv ∧ OwnO w' base tv (os.take i ++ x :: os.drop i) (dl.take i ++ d :: dl.drop i) ∧ W0.grownBy w' sv.ownBlock
set_option maxHeartbeats 4000000 in
set_option maxRecDepth 100000 in
theorem insert_end (base : Nat) (a : Option Addr) (n cap : Nat) (os : List OpD) (dl : List Value) (x : OpD) (da : Option Addr) (dn dc : Nat) (W0 : World) (ho : OwnO W0 base (.slice a n cap) os dl) (hn : n = os.length) (hnc : n ≤ cap) (hl : n ≤ 16) (hbase : base ≤ W0.heap.size) :
    Calls Tryd.prog 45 #[.slice a n cap, .int .i64 (n : Int), .slice (some ⟨W0.heap.size, 0, none⟩) 1 1] (W0.alloc (objO x da dn dc)) (InsPost base (.slice a n cap) os dl x (.slice da dn dc) n W0) := by
  have HO := Lib.hid ho
  have HN := Lib.hid hn
  have hs1 : ∀ W, (Instr.slice 23 (.slice a n cap) (some (.int .i64 (n : Int))) none none).run Tryd.prog W = .ok (.slice (partO a n cap) 0 (cap - n)) W := fun W => by rw [sliceO_l W a n cap n n rfl (Nat.le_refl _), Nat.sub_self]
  clear ho hn
  generalize partO a n cap = pa at *
  generalize cap - n = pc at *
  go_enter Tryd.func45, Tryd.ntmps45
  go_wp2_with (at_builtin
               refine wpO_one rfl _ _ rfl base W0 (.slice a n cap) os dl x.1.t x.1.r x.2 da x.1.ds dn dc x.1.k x.1.nt x.1.nr x.1.pt x.1.pr x.1.s x.1.p x.1.v rfl HO.out _ rfl rfl (by have := HN.out; omega) hbase ?_
               intro v6 w6 hp6
               have HP := Lib.hid hp6
               clear hp6)
  go_ret
  refine ⟨_, rfl, ?_, HP.out.gr⟩
  have h1 := HP.out.own
  have h2 := HO.out.len
  rw [HN.out, List.take_of_length_le (Nat.le_refl _), List.drop_of_length_le (Nat.le_refl _), List.take_of_length_le (by omega), List.drop_of_length_le (by omega)]
  exact h1
theorem grown_setRow (w : World) (g : Nat) (arr : Array Value) : w.grownBy (w.setRow g arr) (some g) := ⟨rfl, rfl, rfl, by simp, fun k hk hne => setRow_other _ _ _ _ (fun e => hne (by rw [e]))⟩
theorem cell_setRow (w : World) (g b o : Nat) (arr : Array Value) (h : b ≠ g) : (w.setRow g arr).cell? ⟨b, o, none⟩ = w.cell? ⟨b, o, none⟩ := by
  unfold World.cell?
  rw [show (w.setRow g arr).heap[(⟨b, o, none⟩ : Addr).block]? = w.heap[(⟨b, o, none⟩ : Addr).block]? from setRow_other _ _ _ _ h]
theorem cell_row {w : World} {g : Nat} {cur : Array Value} (hg : w.heap[g]? = some (.cells cur 32 (0, 0))) (j : Nat) (v : Value) (h : cur.toList[j]? = some v) : w.cell? ⟨g, j, none⟩ = some v := by
  rw [Array.getElem?_toList] at h
  simp [World.cell?, hg, h]
theorem ins_list (l xs ns : List Value) (i n cap : Nat) (hin : i < n) (hroom : n + 1 ≤ cap) (hl : l.length = cap * 12) (hx : l.take (n * 12) = xs) (hns : ns.length = 12) :
    ((l.take ((i + 1) * 12) ++ xs.drop (i * 12) ++ l.drop ((i + 1) * 12 + (xs.drop (i * 12)).length)).take (i * 12) ++ ns ++ (l.take ((i + 1) * 12) ++ xs.drop (i * 12) ++ l.drop ((i + 1) * 12 + (xs.drop (i * 12)).length)).drop (i * 12 + ns.length)).take ((n + 1) * 12) = xs.take (i * 12) ++ ns ++ xs.drop (i * 12) ∧
    ((l.take ((i + 1) * 12) ++ xs.drop (i * 12) ++ l.drop ((i + 1) * 12 + (xs.drop (i * 12)).length)).take (i * 12) ++ ns ++ (l.take ((i + 1) * 12) ++ xs.drop (i * 12) ++ l.drop ((i + 1) * 12 + (xs.drop (i * 12)).length)).drop (i * 12 + ns.length)).length = cap * 12 := by
  have hxl : xs.length = n * 12 := by rw [← hx, List.length_take]; omega
  have e1 : (l.take ((i + 1) * 12) ++ xs.drop (i * 12) ++ l.drop ((i + 1) * 12 + (xs.drop (i * 12)).length)).take (i * 12) = xs.take (i * 12) := by
    rw [List.append_assoc, List.take_append_of_le_length (by rw [List.length_take]; omega), List.take_take, ← hx, List.take_take]
    congr 1
    omega
  have e2 : (l.take ((i + 1) * 12) ++ xs.drop (i * 12) ++ l.drop ((i + 1) * 12 + (xs.drop (i * 12)).length)).drop (i * 12 + ns.length) = xs.drop (i * 12) ++ l.drop ((i + 1) * 12 + (xs.drop (i * 12)).length) := by
    rw [List.append_assoc, show i * 12 + ns.length = (l.take ((i + 1) * 12)).length by rw [List.length_take]; omega, List.drop_left]
  rw [e1, e2]
  constructor
  · rw [← List.append_assoc, List.take_append_of_le_length (by simp; omega), List.take_of_length_le (by simp; omega)]
  · simp
    omega
end Go.Proofs.YtdpopdlifcjdeaaDoor

/- Hold: an operation laid into a row: Insert where there is room. -/
namespace Go.Proofs.YtdpopdlifcjdeaaDoor
open Go.RowKit Go.Lib
set_option linter.unusedVariables false

theorem grown_setRow_drew (w : World) (g : Nat) (arr : Array Value) : w.grownBy (w.drew.setRow g arr) (some g) := ⟨rfl, rfl, rfl, by simp, fun k hk hne => setRow_other _ _ _ _ (fun e => hne (by rw [e]))⟩
theorem cellsO_one : ∀ {os : List OpD} {dl : List Value}, (∀ d ∈ dl, d.oneCell' = true) → ∀ u ∈ cellsO os dl, u.oneCell' = true
  | [], _, _, u, h => by simp [cellsO] at h
  | _ :: _, [], _, u, h => by simp [cellsO] at h
  | y :: os, e :: dl, hd, u, h => by
    rw [cellsO, List.mem_append] at h
    rcases h with h | h
    · simp only [OpR.cells, List.mem_cons, List.not_mem_nil, or_false] at h
      rcases h with rfl | rfl | rfl | rfl | rfl | rfl | rfl | rfl | rfl | rfl | rfl | rfl
      all_goals first | rfl | exact hd _ (List.mem_cons_self ..)
    · exact cellsO_one (fun d hd' => hd d (List.mem_cons_of_mem _ hd')) u h
set_option maxHeartbeats 4000000 in
set_option maxRecDepth 100000 in
theorem insert_room (base : Nat) (g n cap i : Nat) (os : List OpD) (dl : List Value) (x : OpD) (da : Option Addr) (dn dc : Nat) (W0 : World) (ho : OwnO W0 base (.slice (some ⟨g, 0, none⟩) n cap) os dl) (hin : i < n) (hroom : n + 1 ≤ cap) (hl : n ≤ 16) (hd1 : ∀ d ∈ dl, d.oneCell' = true) :
    Calls Tryd.prog 45 #[.slice (some ⟨g, 0, none⟩) n cap, .int .i64 (i : Int), .slice (some ⟨W0.heap.size, 0, none⟩) 1 1] (W0.alloc (objO x da dn dc)) (InsPost base (.slice (some ⟨g, 0, none⟩) n cap) os dl x (.slice da dn dc) i W0) := by
  have mixed : Tryd.prog.follows .mixedOrders = true := by kernel_rfl
  obtain ⟨hn, hbg, hnc, hcm, cur, hh, hcs, htk⟩ := ho.heap
  have hglt : g < W0.heap.size := (ho.lt (g := g) rfl).2
  have HB := Lib.hid (box_bel W0 (objO x da dn dc))
  obtain ⟨H, hH⟩ : ∃ H, W0.heap.size = H := ⟨_, rfl⟩
  obtain ⟨ns, hns⟩ : ∃ ns, x.1.cells x.2 (.slice da dn dc) = ns := ⟨_, rfl⟩
  have hnl : ns.length = 12 := by rw [← hns]; rfl
  have hn1 : ∀ u ∈ ns, u.oneCell' = true := by rw [← hns]; exact cells_one x da dn dc
  obtain ⟨xs, hxs⟩ : ∃ xs, cellsO os dl = xs := ⟨_, rfl⟩
  rw [hxs] at htk
  have hxl : xs.length = n * 12 := by rw [← hxs, cellsO_len ho.len, hn]
  have hx1 : ∀ u ∈ xs, u.oneCell' = true := by rw [← hxs]; exact cellsO_one hd1
  obtain ⟨W, hW⟩ : ∃ W, W = W0.alloc (objO x da dn dc) := ⟨_, rfl⟩
  have hgW : W.heap[g]? = some (.cells cur 32 (0, 0)) := by rw [hW]; have := HB.out.block g hglt; rw [this]; exact hh
  have hvW : ∀ j u, ns[j]? = some u → W.cell? ⟨H, j, none⟩ = some u := fun j u hu => by rw [hW, ← hH]; rw [← hns] at hu; exact (blkX_new W0 x da dn dc).cell j u hu
  obtain ⟨cs1, hcs1⟩ : ∃ cs1, xs.drop (i * 12) = cs1 := ⟨_, rfl⟩
  have hc1l : cs1.length = (n - i) * 12 := by rw [← hcs1, List.length_drop, hxl]; omega
  obtain ⟨c1, hc1⟩ : ∃ c1, cur.toList.take ((i + 1) * 12) ++ cs1 ++ cur.toList.drop ((i + 1) * 12 + cs1.length) = c1 := ⟨_, rfl⟩
  have hc1s : c1.length = cap * 12 := by rw [← hc1]; simp; omega
  obtain ⟨c2, hc2⟩ : ∃ c2, c1.take (i * 12) ++ ns ++ c1.drop (i * 12 + ns.length) = c2 := ⟨_, rfl⟩
  have hfin := ins_list cur.toList xs ns i n cap hin hroom (by simpa using hcs) htk hnl
  rw [hcs1, hc1, hc2] at hfin
  have hcp1 : ∀ ty dc' sc, (Builtin.copy_ #[23, 23] ty #[.slice (some ⟨g, (i + 1) * 12, none⟩) (n - i) dc', .slice (some ⟨g, i * 12, none⟩) (n + 1 - i) sc]).run Tryd.prog W.drew = .ok (goInt ((n - i : Nat))) (W.drew.setRow g c1.toArray) := fun ty dc' sc => by
    have h := copyO_run W.drew ty g ((i + 1) * 12) (n - i) dc' ⟨g, i * 12, none⟩ (n + 1 - i) sc cur cs1 (n - i) (by simp only [Nat.min_def]; split <;> omega) hgW hc1l (fun j u hu => by
      rw [addr_add]
      refine cell_row (w := W.drew) hgW (i * 12 + j) u ?_
      rw [← hcs1, List.getElem?_drop, ← htk, List.getElem?_take] at hu
      split at hu
      · exact hu
      · cases hu) (by rw [hc1l, hcs]; omega) (fun u hu => hx1 u (by rw [← hcs1] at hu; exact List.mem_of_mem_drop hu))
    rw [hc1] at h
    exact h
  obtain ⟨W1, hW1⟩ : ∃ W1, W1 = W.drew.setRow g c1.toArray := ⟨_, rfl⟩
  have hgW1 : W1.heap[g]? = some (.cells c1.toArray 32 (0, 0)) := by rw [hW1]; exact setRow_heap _ _ cur _ 32 (0, 0) hgW
  have hcp2 : ∀ ty dc', (Builtin.copy_ #[23, 23] ty #[.slice (some ⟨g, i * 12, none⟩) (n + 1 - i) dc', .slice (some ⟨H, 0, none⟩) 1 1]).run Tryd.prog W1 = .ok (goInt 1) (W1.setRow g c2.toArray) := fun ty dc' => by
    have h := copyO_run W1 ty g (i * 12) (n + 1 - i) dc' ⟨H, 0, none⟩ 1 1 c1.toArray ns 1 (by simp only [Nat.min_def]; split <;> omega) hgW1 (by rw [hnl]) (fun j u hu => by
      rw [addr_add, Nat.zero_add, hW1, cell_setRow _ _ _ _ _ (by omega)]
      exact hvW j u hu) (by simp [hc1s]; omega) hn1
    rw [List.toList_toArray, hc2] at h
    exact h
  have hov : ∀ lb cb, (callFunc 65 #[.slice (some ⟨H, 0, none⟩) 1 1, .slice (some ⟨g, (i + 1) * 12, none⟩) lb cb]).run Tryd.prog W = .ok (.value (.bool false)) W := fun lb cb => by
    rw [run_callFunc_extern Tryd.func65 (by kernel_rfl) (by kernel_rfl) (by kernel_rfl) (e := Extern.SlicesOverlaps.overlaps #[23, 23] #[4]) (by kernel_rfl),
      Lib.run_overlaps_apart W 23 4 32 Tryd.underlying23 12 size32 ⟨H, 0, none⟩ ⟨g, (i + 1) * 12, none⟩ 1 1 lb cb (by show H ≠ g; omega) 32 32 12 (cap * 12) (by rw [hW, ← hH]; unfold World.shape?; rw [show (W0.alloc (objO x da dn dc)).heap[(⟨W0.heap.size, 0, none⟩ : Addr).block]? = some (objO x da dn dc) from heap_alloc_new W0 _]; rfl) (by unfold World.shape?; rw [show W.heap[(⟨g, (i + 1) * 12, none⟩ : Addr).block]? = some (.cells cur 32 (0, 0)) from hgW]; show some (32, cur.size) = _; rw [hcs]) (by omega) (by rw [hW, ← hH]; exact (blkX_new W0 x da dn dc).free 0 _ rfl) (by rw [hW]; exact World.frozen?_alloc_at (w := W0) _ _ _ _ hH.symm)]
    rfl
  have hs1 : ∀ W, (Instr.slice 23 (.slice (some ⟨g, 0, none⟩) n cap) (some (.int .i64 (i : Int))) none none).run Tryd.prog W = .ok (.slice (some ⟨g, i * 12, none⟩) (n - i) (cap - i)) W := fun W => by
    rw [sliceO_l W _ n cap i i rfl (by omega)]
    unfold partO
    rw [if_neg (by omega), Option.map_some, addr_add, Nat.zero_add]
  have hs2 : ∀ W, (Instr.slice 23 (.slice (some ⟨g, 0, none⟩) n cap) none (some (.int .i64 ((n : Int) + 1))) none).run Tryd.prog W = .ok (.slice (some ⟨g, 0, none⟩) (n + 1) cap) W := fun W => sliceO_h W _ n cap (n + 1) _ (by omega) hroom
  have hs3 : ∀ W, (Instr.slice 23 (.slice (some ⟨g, 0, none⟩) (n + 1) cap) (some (.int .i64 ((i : Int) + 1))) none none).run Tryd.prog W = .ok (.slice (some ⟨g, (i + 1) * 12, none⟩) (n - i) (cap - (i + 1))) W := fun W => by
    rw [sliceO_l W _ (n + 1) cap (i + 1) _ (by omega) (by omega)]
    unfold partO
    rw [if_neg (by omega), Option.map_some, addr_add, Nat.zero_add, show n + 1 - (i + 1) = n - i by omega]
  have hs4 : ∀ W, (Instr.slice 23 (.slice (some ⟨g, 0, none⟩) (n + 1) cap) (some (.int .i64 (i : Int))) none none).run Tryd.prog W = .ok (.slice (some ⟨g, i * 12, none⟩) (n + 1 - i) (cap - i)) W := fun W => by
    rw [sliceO_l W _ (n + 1) cap i i rfl (by omega)]
    unfold partO
    rw [if_neg (by omega), Option.map_some, addr_add, Nat.zero_add]
  have HE : Hid (OwnO (W1.setRow g c2.toArray) base (.slice (some ⟨g, 0, none⟩) (n + 1) cap) (os.take i ++ x :: os.drop i) (dl.take i ++ .slice da dn dc :: dl.drop i) ∧ W0.grownBy (W1.setRow g c2.toArray) (some g)) := by
    refine ⟨⟨?_, ?_, .inr ⟨g, cap, c2.toArray, ?_, hbg, setRow_heap _ _ c1.toArray _ 32 (0, 0) hgW1, ?_, hcm, ?_, ?_⟩⟩, ?_⟩
    · have := ho.len
      simp [List.length_take, List.length_drop]
      omega
    · rw [cellsO_ins i x _ ho.len (by omega), hxs, hns]
      simp
      omega
    · rw [show (os.take i ++ x :: os.drop i).length = n + 1 by simp; omega]
    · rw [show (os.take i ++ x :: os.drop i).length = n + 1 by simp; omega]; exact hroom
    · have := hfin.2
      simpa using this
    · rw [show (os.take i ++ x :: os.drop i).length = n + 1 by simp; omega, cellsO_ins i x _ ho.len (by omega), hxs, hns, hcs1, List.toList_toArray]
      exact hfin.1
    · refine World.grownBy.trans (b := W) ?_ (World.grownBy.trans (b := W1) ?_ (grown_setRow W1 g c2.toArray))
      · rw [hW]; exact World.grownBy_alloc W0 _ _
      · rw [hW1]; exact grown_setRow_drew W g c1.toArray
  have hine : ((i : Int) == (n : Int)) = false := beq_eq_false_iff_ne.2 (by omega)
  have hine2 : ¬ (i : Int) = (n : Int) := by omega
  have hrz : ¬ (cap : Int) < (n : Int) + 1 := by omega
  clear hfin hc1 hc2 hcs1 htk hcs hh hx1 hn1 hvW hgW hgW1 hn hxs hns hc1s hc1l hxl hnl ho
  have HW : Hid (W0.alloc (objO x da dn dc) = W) := hW.symm
  rw [← hW, hH]
  clear hW hd1
  have hw1 : IntKind.i64.wrap ((i : Int) + 1) = (i : Int) + 1 := IntWalk.i64_in _ (by omega)
  have hb1 : (0 : Int) ≤ (i : Int) + 1 := by omega
  have hb3 : (i : Int) + 1 ≤ (n : Int) + 1 := by omega
  have htn : ((i : Int) + 1).toNat = i + 1 := by omega
  have hb2 : ¬ cap = i + 1 := by omega
  have hb4 : ¬ cap = i := by omega
  have hb5 : (i : Int) ≤ (n : Int) + 1 := by omega
  rw [← hW1] at hcp1
  clear hW1
  go_enter Tryd.func45, Tryd.ntmps45
  go_wp2_with (first | simp only [hov] | fail)
  go_region_law_o (refine step_copyO rfl _ _ rfl (.slice (some ⟨g, (i + 1) * 12, none⟩) (n - i) (cap - (i + 1))) (.slice (some ⟨g, i * 12, none⟩) (n + 1 - i) (cap - i)) (by simp [Act.eval, Act.put]) (by simp [Act.eval, Act.put]) (hcp1 _ _ _) ?_)
  go_wp2_with (at_builtin; refine wpList_copyO _ rfl _ _ rfl _ _ rfl rfl (hcp2 _ _) ?_)
  go_ret
  exact ⟨_, rfl, HE.out.1, HE.out.2⟩
end Go.Proofs.YtdpopdlifcjdeaaDoor

/- Hold: an operation laid into a row: Insert where there is none. -/
namespace Go.Proofs.YtdpopdlifcjdeaaDoor
open Go.RowKit Go.Lib
set_option linter.unusedVariables false

theorem ins_list2 (xs ns rest : List Value) (i n : Nat) (row : List Value) (hin : i < n) (hxl : xs.length = n * 12) (hns : ns.length = 12) (hrow : row = xs.take (i * 12) ++ rest) (hrl : (n + 1) * 12 ≤ row.length) (c1 c2 : List Value)
    (h1 : row.take (i * 12) ++ ns ++ row.drop (i * 12 + ns.length) = c1) (h2 : c1.take ((i + 1) * 12) ++ xs.drop (i * 12) ++ c1.drop ((i + 1) * 12 + (xs.drop (i * 12)).length) = c2) :
    c2.take ((n + 1) * 12) = xs.take (i * 12) ++ ns ++ xs.drop (i * 12) ∧ c2.length = row.length ∧ c1.length = row.length := by
  have hl1 : (xs.take (i * 12)).length = i * 12 := by rw [List.length_take]; omega
  have e1 : row.take (i * 12) = xs.take (i * 12) := by rw [hrow, List.take_append_of_le_length (by omega), List.take_of_length_le (by omega)]
  have hc1l : c1.length = row.length := by rw [← h1]; simp; omega
  have e2 : c1.take ((i + 1) * 12) = xs.take (i * 12) ++ ns := by
    rw [← h1, e1, List.take_append_of_le_length (by simp; omega), List.take_of_length_le (by simp; omega)]
  have hd : (xs.drop (i * 12)).length = (n - i) * 12 := by rw [List.length_drop]; omega
  refine ⟨?_, ?_, hc1l⟩
  · rw [← h2, e2, List.take_append_of_le_length (by simp; omega), List.take_of_length_le (by simp; omega)]
  · rw [← h2]; simp; omega
theorem wpList_appO (w : World) {ops : Array Oper} {rest : List Oper} {o : Oper} {a : Act} {Q : Exit → Act → World → Prop} (hgd : o.guard = none) (d s : Operand)
    (ho : o.op = .call { callee := .builtin .append, args := #[d, s], argTypes := #[23, 3] }) (v u : Value) (hd : a.eval d = v) (hs : a.eval s = u) {v' : Value} {w' : World}
    (hr : (Builtin.append_ #[23, 3] o.type #[v, u]).run Tryd.prog w = .ok v' w') (h : wpList Tryd.prog ops Q rest (a.put o.dst v') w') : wpList Tryd.prog ops Q (o :: rest) a w := by
  refine wpList_plain hgd fun _ hK => ?_
  unfold Oper.wp execOp
  simp only [ho, resolve, invoke, builtin, Sem.run_bind, Sem.run_pure, Result.andThen_ok, List.map_toArray, List.map_cons, List.map_nil, hd, hs, hr]
  exact hK _ _ h
set_option maxHeartbeats 4000000 in
set_option maxRecDepth 100000 in
theorem insert_grow (base : Nat) (g n cap i : Nat) (os : List OpD) (dl : List Value) (x : OpD) (da : Option Addr) (dn dc : Nat) (W0 : World) (ho : OwnO W0 base (.slice (some ⟨g, 0, none⟩) n cap) os dl) (hin : i < n) (hroom : cap < n + 1) (hl : n ≤ 16) (hbase : base ≤ W0.heap.size) (hd1 : ∀ d ∈ dl, d.oneCell' = true) :
    Calls Tryd.prog 45 #[.slice (some ⟨g, 0, none⟩) n cap, .int .i64 (i : Int), .slice (some ⟨W0.heap.size, 0, none⟩) 1 1] (W0.alloc (objO x da dn dc)) (InsPost base (.slice (some ⟨g, 0, none⟩) n cap) os dl x (.slice da dn dc) i W0) := by
  have mixed : Tryd.prog.follows .mixedOrders = true := by kernel_rfl
  obtain ⟨hn, hbg, hnc, hcm, cur, hh, hcs, htk⟩ := ho.heap
  obtain rfl : cap = n := by omega
  have hglt : g < W0.heap.size := (ho.lt (g := g) rfl).2
  have HB := Lib.hid (box_bel W0 (objO x da dn dc))
  obtain ⟨H, hH⟩ : ∃ H, W0.heap.size = H := ⟨_, rfl⟩
  obtain ⟨ns, hns⟩ : ∃ ns, x.1.cells x.2 (.slice da dn dc) = ns := ⟨_, rfl⟩
  have hnl : ns.length = 12 := by rw [← hns]; rfl
  have hn1 : ∀ u ∈ ns, u.oneCell' = true := by rw [← hns]; exact cells_one x da dn dc
  obtain ⟨xs, hxs⟩ : ∃ xs, cellsO os dl = xs := ⟨_, rfl⟩
  rw [hxs] at htk
  have hxl : xs.length = cap * 12 := by rw [← hxs, cellsO_len ho.len, hn]
  have hx1 : ∀ u ∈ xs, u.oneCell' = true := by rw [← hxs]; exact cellsO_one hd1
  obtain ⟨W, hW⟩ : ∃ W, W = W0.alloc (objO x da dn dc) := ⟨_, rfl⟩
  have hWs : W.heap.size = H + 1 := by rw [hW, World.size_alloc, hH]
  have hgW : W.heap[g]? = some (.cells cur 32 (0, 0)) := by rw [hW]; have := HB.out.block g hglt; rw [this]; exact hh
  have hvW : ∀ j u, ns[j]? = some u → W.cell? ⟨H, j, none⟩ = some u := fun j u hu => by rw [hW, ← hH]; rw [← hns] at hu; exact (blkX_new W0 x da dn dc).cell j u hu
  have hxW : ∀ j u, xs[j]? = some u → W.cell? ⟨g, j, none⟩ = some u := fun j u hu => by
    refine cell_row hgW j u ?_
    rw [← htk, List.getElem?_take] at hu
    split at hu
    · exact hu
    · cases hu
  obtain ⟨i0, hi0, hz0, hzs, hzb⟩ := info_parts Tryd.info32
  have hold : (Builtin.firstCells i0.size i (.slice (some ⟨g, 0, none⟩) i cap)).run Tryd.prog W.drew = .ok (xs.take (i * 12)).toArray W.drew := by
    have hl2 := run_loadCells_list (P := Tryd.prog) W.drew ⟨g, 0, none⟩ (xs.take (i * 12)) (fun j u hu => by
      rw [addr_add, Nat.zero_add]
      rw [List.getElem?_take] at hu
      split at hu
      · exact hxW j u hu
      · cases hu)
    rw [List.length_take, Nat.min_eq_left (by omega)] at hl2
    rw [hzs]
    simp [Builtin.firstCells, hl2]
  obtain ⟨G, hG⟩ : ∃ G, grownCap W (cap + 1) cap 32 = G := ⟨_, rfl⟩
  have hGn : cap + 1 ≤ G := by rw [← hG]; exact grownCap_ge W _ _ _
  have hGm : G ≤ maxLen := by
    rw [← hG]
    exact grownCap_le_maxLen W (cap + 1) cap 32 (by unfold maxLen; omega)
  obtain ⟨ROW, hROW⟩ : ∃ ROW : Array Value, (xs.take (i * 12)).toArray ++ Builtin.zeroCells (Value.agg #[.int .i64 0, .int .i64 0, .int .i64 0, .slice none 0 0, .int .i64 0, .int .i64 0, .int .i64 0, .int .i64 0, .int .i64 0, .string ⟨#[]⟩, .int .i64 0, .int .i64 0]).cells (cap + 1 - i) ++ Builtin.zeroCells (Value.agg #[.int .i64 0, .int .i64 0, .int .i64 0, .slice none 0 0, .int .i64 0, .int .i64 0, .int .i64 0, .int .i64 0, .int .i64 0, .string ⟨#[]⟩, .int .i64 0, .int .i64 0]).cells (G - (cap + 1)) = ROW := ⟨_, rfl⟩
  have hkk : (cap : Int) + 1 - (i : Int) = ((cap + 1 - i : Nat) : Int) := by omega
  have hik : i + (cap + 1 - i) = cap + 1 := by omega
  have hrz : ∀ ty, (Builtin.append_ #[23, 3] ty #[.slice (some ⟨g, 0, none⟩) i cap, .int .i64 ((cap : Int) + 1 - (i : Int))]).run Tryd.prog W = .ok (.slice (some ⟨H + 1, 0, none⟩) (cap + 1) G) (W.drew.alloc (.cells ROW 32)) := fun ty => by
    have h := Lib.run_append_grow_zeros W 23 3 ty 32 i0 _ .i64 .i64 Tryd.underlying23 Tryd.underlying3 hi0 hz0 (some ⟨g, 0, none⟩) i cap (xs.take (i * 12)) hold (cap + 1 - i) (by omega) (by rw [hzs]; omega) (by omega) (by omega) (by rw [hzb]; omega) (by rw [hzb, hik]; exact growslice_fits (by omega) (by omega))
    rw [hik, hG, hROW, hWs] at h
    rw [hkk]
    exact h
  have hRs : ROW.size = G * 12 := by
    rw [← hROW]
    simp [Builtin.zeroCells, Value.cells]
    omega
  obtain ⟨rest, hrest⟩ : ∃ rest, ROW.toList = xs.take (i * 12) ++ rest := ⟨_, by rw [← hROW, Array.append_assoc, Array.toList_append, List.toList_toArray]⟩
  obtain ⟨W1, hW1⟩ : ∃ W1, W1 = W.drew.alloc (.cells ROW 32) := ⟨_, rfl⟩
  have hg1 : W1.heap[H + 1]? = some (.cells ROW 32 (0, 0)) := by rw [hW1, ← hWs]; exact heap_alloc_new W.drew _
  have hb1 : Below (H + 1) W W1 := by rw [hW1]; exact ((Below.refl (H + 1) W).drew).alloc (by show H + 1 ≤ W.heap.size; omega) _
  obtain ⟨c1, hc1⟩ : ∃ c1, ROW.toList.take (i * 12) ++ ns ++ ROW.toList.drop (i * 12 + ns.length) = c1 := ⟨_, rfl⟩
  obtain ⟨cs, hcs1⟩ : ∃ cs, xs.drop (i * 12) = cs := ⟨_, rfl⟩
  obtain ⟨c2, hc2⟩ : ∃ c2, c1.take ((i + 1) * 12) ++ cs ++ c1.drop ((i + 1) * 12 + cs.length) = c2 := ⟨_, rfl⟩
  have hcl : cs.length = (cap - i) * 12 := by rw [← hcs1, List.length_drop, hxl]; omega
  have hfin := ins_list2 xs ns rest i cap ROW.toList hin hxl hnl hrest (by rw [Array.length_toList, hRs]; omega) c1 c2 hc1 (by rw [hcs1]; exact hc2)
  rw [hcs1] at hfin
  have hc1l : c1.length = G * 12 := by rw [hfin.2.2, Array.length_toList, hRs]
  have hc2l : c2.length = G * 12 := by rw [hfin.2.1, Array.length_toList, hRs]
  have hcpA : ∀ ty dc', (Builtin.copy_ #[23, 23] ty #[.slice (some ⟨H + 1, i * 12, none⟩) (cap + 1 - i) dc', .slice (some ⟨H, 0, none⟩) 1 1]).run Tryd.prog W1 = .ok (goInt 1) (W1.setRow (H + 1) c1.toArray) := fun ty dc' => by
    have h := copyO_run W1 ty (H + 1) (i * 12) (cap + 1 - i) dc' ⟨H, 0, none⟩ 1 1 ROW ns 1 (by simp only [Nat.min_def]; split <;> omega) hg1 (by rw [hnl]) (fun j u hu => by
      rw [addr_add, Nat.zero_add]
      exact (hb1.cell (p := ⟨H, j, none⟩) (by show H < H + 1; omega)).trans (hvW j u hu)) (by rw [hnl, hRs]; omega) hn1
    rw [hc1] at h
    exact h
  obtain ⟨W2, hW2⟩ : ∃ W2, W2 = W1.setRow (H + 1) c1.toArray := ⟨_, rfl⟩
  rw [← hW2] at hcpA
  have hg2 : W2.heap[H + 1]? = some (.cells c1.toArray 32 (0, 0)) := by rw [hW2]; exact setRow_heap _ _ ROW _ 32 (0, 0) hg1
  have hb2 : Below (H + 1) W W2 := by rw [hW2]; exact hb1.trans ⟨rfl, rfl, rfl, by simp, fun k hk => setRow_other _ _ _ _ (by omega)⟩
  have hcpB : ∀ ty dc' sc, (Builtin.copy_ #[23, 23] ty #[.slice (some ⟨H + 1, (i + 1) * 12, none⟩) (cap - i) dc', .slice (some ⟨g, i * 12, none⟩) (cap - i) sc]).run Tryd.prog W2.drew = .ok (goInt ((cap - i : Nat))) (W2.drew.setRow (H + 1) c2.toArray) := fun ty dc' sc => by
    have h := copyO_run W2.drew ty (H + 1) ((i + 1) * 12) (cap - i) dc' ⟨g, i * 12, none⟩ (cap - i) sc c1.toArray cs (cap - i) (by simp only [Nat.min_def]; split <;> omega) hg2 hcl (fun j u hu => by
      rw [addr_add]
      rw [← hcs1, List.getElem?_drop] at hu
      exact (hb2.cell (p := ⟨g, i * 12 + j, none⟩) (by show g < H + 1; omega)).trans (hxW _ u hu)) (by simp [hcl, hc1l]; omega) (fun u hu => hx1 u (by rw [← hcs1] at hu; exact List.mem_of_mem_drop hu))
    rw [List.toList_toArray, hc2] at h
    exact h
  obtain ⟨W3, hW3⟩ : ∃ W3, W3 = W2.drew.setRow (H + 1) c2.toArray := ⟨_, rfl⟩
  rw [← hW3] at hcpB
  have hg3 : W3.heap[H + 1]? = some (.cells c2.toArray 32 (0, 0)) := by rw [hW3]; exact setRow_heap _ _ c1.toArray _ 32 (0, 0) hg2
  have hb3 : Below (H + 1) W W3 := by rw [hW3]; exact hb2.trans ⟨rfl, rfl, rfl, by simp, fun k hk => setRow_other _ _ _ _ (by omega)⟩
  have hb4 : Below W0.heap.size W0 W3 := by
    have h1 := HB.out
    rw [← hW] at h1
    exact h1.trans (hb3.mono (by omega))
  have hlen : (os.take i ++ x :: os.drop i).length = cap + 1 := by simp; omega
  have HE : Hid (OwnO W3 base (.slice (some ⟨H + 1, 0, none⟩) (cap + 1) G) (os.take i ++ x :: os.drop i) (dl.take i ++ .slice da dn dc :: dl.drop i) ∧ W0.grownBy W3 (some g)) := by
    refine ⟨⟨?_, ?_, .inr ⟨H + 1, G, c2.toArray, ?_, by omega, hg3, ?_, hGm, ?_, ?_⟩⟩, ⟨hb4.os, hb4.tape, hb4.output, hb4.size, fun k hk _ => hb4.block k hk⟩⟩
    · have := ho.len
      simp [List.length_take, List.length_drop]
      omega
    · rw [cellsO_ins i x _ ho.len (by omega), hxs, hns, hlen]
      simp
      omega
    · rw [hlen]
    · rw [hlen]; exact hGn
    · simp [hc2l]
    · rw [hlen, cellsO_ins i x _ ho.len (by omega), hxs, hns, hcs1, List.toList_toArray]
      exact hfin.1
  have hs1 : ∀ W, (Instr.slice 23 (.slice (some ⟨g, 0, none⟩) cap cap) (some (.int .i64 (i : Int))) none none).run Tryd.prog W = .ok (.slice (some ⟨g, i * 12, none⟩) (cap - i) (cap - i)) W := fun W => by
    rw [sliceO_l W _ cap cap i i rfl (by omega)]
    unfold partO
    rw [if_neg (by omega), Option.map_some, addr_add, Nat.zero_add]
  have hs2 : ∀ W, (Instr.slice 23 (.slice (some ⟨g, 0, none⟩) cap cap) none (some (.int .i64 (i : Int))) none).run Tryd.prog W = .ok (.slice (some ⟨g, 0, none⟩) i cap) W := fun W => sliceO_h W _ cap cap i _ rfl (by omega)
  have hs3 : ∀ W, (Instr.slice 23 (.slice (some ⟨H + 1, 0, none⟩) (cap + 1) G) (some (.int .i64 (i : Int))) none none).run Tryd.prog W = .ok (.slice (some ⟨H + 1, i * 12, none⟩) (cap + 1 - i) (G - i)) W := fun W => by
    rw [sliceO_l W _ (cap + 1) G i i rfl (by omega)]
    unfold partO
    rw [if_neg (by omega), Option.map_some, addr_add, Nat.zero_add]
  have hine : ((i : Int) == (cap : Int)) = false := beq_eq_false_iff_ne.2 (by omega)
  have hine2 : ¬ (i : Int) = (cap : Int) := by omega
  have hrz2 : (cap : Int) < (cap : Int) + 1 := by omega
  have hw1 : IntKind.i64.wrap ((i : Int) + 1) = (i : Int) + 1 := IntWalk.i64_in _ (by omega)
  have hq1 : (0 : Int) ≤ (i : Int) + 1 := by omega
  have hq3 : (i : Int) + 1 ≤ (cap : Int) + 1 := by omega
  have htn : ((i : Int) + 1).toNat = i + 1 := by omega
  have hq2 : ¬ G = i + 1 := by omega
  have hq4 : ¬ cap = i := by omega
  have hq5 : (i : Int) ≤ (cap : Int) := by omega
  have hq6 : ((cap : Int) == (0 : Int)) = false := beq_eq_false_iff_ne.2 (by omega)
  have hGz : G ≤ 9223372036854775807 := by unfold maxLen at hGm; omega
  rw [← hW1] at hrz
  rw [← hW, hH]
  clear hfin hc1 hc2 hcs1 htk hcs hh hx1 hn1 hvW hgW hn hxs hns hc1l hc2l hxl hnl ho hW hd1 hW1 hW2 hW3 hg1 hg2 hg3 hb1 hb2 hb3 hb4 hlen hrest hRs hROW hG hold hxW hkk hik hcl hWs
  go_enter Tryd.func45, Tryd.ntmps45
  go_wp2_with (first
    | (at_builtin; refine wpList_appO _ rfl _ _ rfl _ _ rfl rfl (hrz _) ?_)
    | (at_builtin; refine wpList_copyO _ rfl _ _ rfl _ _ rfl rfl (hcpA _ _) ?_))
  go_region_law_o (refine step_copyO rfl _ _ rfl (.slice (some ⟨H + 1, (i + 1) * 12, none⟩) (cap - i) (G - (i + 1))) (.slice (some ⟨g, i * 12, none⟩) (cap - i) (cap - i)) (by simp [Act.eval, Act.put]) (by simp [Act.eval, Act.put]) (hcpB _ _ _) ?_)
  go_wp2
  go_ret
  exact ⟨_, rfl, HE.out.1, HE.out.2⟩
end Go.Proofs.YtdpopdlifcjdeaaDoor

/- Hold: Take, what is held; Insert at any place. -/
namespace Go.Proofs.YtdpopdlifcjdeaaDoor
open Go.RowKit Go.Lib
set_option linter.unusedVariables false

theorem ownK_one {w : World} {base : Nat} {v : Value} {zs : List Int} (h : OwnK .i64 3 w base v zs) : v.oneCell' = true := by
  obtain ⟨a, c, rfl, _⟩ := h.form
  rfl
theorem depsO_one {w : World} {base : Nat} {os : List OpD} {dl : List Value} (h : DepsO w base os dl) (hl : dl.length = os.length) : ∀ d ∈ dl, d.oneCell' = true := fun d hd => by
  obtain ⟨i, hi⟩ := List.getElem?_of_mem hd
  have hi' := (List.getElem?_eq_some_iff.1 hi).1
  obtain ⟨y, hy⟩ : ∃ y, os[i]? = some y := ⟨_, List.getElem?_eq_getElem (by omega)⟩
  exact ownK_one (h.own i y d hy hi).1
theorem DepsO.insert {w : World} {base : Nat} {os : List OpD} {dl : List Value} {x : OpD} {d : Value} (h : DepsO w base os dl) (hlen : dl.length = os.length) (hx : OwnK .i64 3 w base d x.1.ds) (hl : x.1.ds.length ≤ 17592186044416) (hnew : ∀ g, d.ownBlock = some g → ∀ e ∈ dl, e.ownBlock ≠ some g) (p : Nat) (hp : p ≤ os.length) : DepsO w base (os.take p ++ x :: os.drop p) (dl.take p ++ d :: dl.drop p) := by
  constructor
  · intro i y e hi he
    have h1 : (os.take p).length = p := by rw [List.length_take]; omega
    have h2 : (dl.take p).length = p := by rw [List.length_take]; omega
    rcases Nat.lt_trichotomy i p with hlt | rfl | hgt
    · rw [List.getElem?_append_left (by omega), List.getElem?_take, if_pos hlt] at hi he
      exact h.own i y e hi he
    · rw [List.getElem?_append_right (by omega), h1, Nat.sub_self, List.getElem?_cons_zero] at hi
      rw [List.getElem?_append_right (by omega), h2, Nat.sub_self, List.getElem?_cons_zero] at he
      injection hi with hi
      injection he with he
      subst hi
      subst he
      exact ⟨hx, hl⟩
    · rw [List.getElem?_append_right (by omega), h1, show i - p = (i - p - 1) + 1 by omega, List.getElem?_cons_succ, List.getElem?_drop] at hi
      rw [List.getElem?_append_right (by omega), h2, show i - p = (i - p - 1) + 1 by omega, List.getElem?_cons_succ, List.getElem?_drop] at he
      exact h.own _ y e hi he
  · have ha := h.apart
    rw [← List.take_append_drop p dl, List.pairwise_append] at ha
    rw [List.pairwise_append, List.pairwise_cons]
    refine ⟨ha.1, ⟨fun e he => ?_, ha.2.1⟩, fun a hA b hB => ?_⟩
    · cases hd : d.ownBlock with
      | none => exact .inl rfl
      | some g => exact .inr fun q => hnew g hd e (List.mem_of_mem_drop he) q.symm
    · rcases List.mem_cons.1 hB with rfl | hB
      · cases hd : a.ownBlock with
        | none => exact .inl rfl
        | some g => exact .inr fun q => hnew g q.symm a (List.mem_of_mem_take hA) hd
      · exact ha.2.2 a hA b hB
theorem insert_any (base : Nat) (sv : Value) (os : List OpD) (dl : List Value) (x : OpD) (da : Option Addr) (dn dc : Nat) (W0 : World) (ho : OwnO W0 base sv os dl) (hl : os.length ≤ 16) (hbase : base ≤ W0.heap.size) (hd1 : ∀ d ∈ dl, d.oneCell' = true) (p : Nat) (hp : p ≤ os.length) :
    Calls Tryd.prog 45 #[sv, .int .i64 (p : Int), .slice (some ⟨W0.heap.size, 0, none⟩) 1 1] (W0.alloc (objO x da dn dc)) (InsPost base sv os dl x (.slice da dn dc) p W0) := by
  obtain ⟨a, n, cap, rfl, hn, hnc, hf⟩ := ho.form
  by_cases hpn : p = n
  · subst hpn
    exact insert_end base a p cap os dl x da dn dc W0 ho hn hnc (by omega) hbase
  · rcases ho.own.2 with ⟨e, h0⟩ | ⟨g, cap', cur, e, h1, h2⟩
    · omega
    · injection e with e1 e2 e3
      subst e1
      by_cases hr : n + 1 ≤ cap
      · exact insert_room base g n cap p os dl x da dn dc W0 ho (by omega) hr (by omega) hd1
      · exact insert_grow base g n cap p os dl x da dn dc W0 ho (by omega) (by omega) (by omega) hbase hd1
set_option maxHeartbeats 8000000 in
set_option maxRecDepth 100000 in
theorem take_full (va : Option Addr) (v : List Int) (vn vc : Nat) (ha : Option Addr) (hs : List OpD) (n c : Nat) (o : OpD) (oa : Option Addr) (oc : Nat) (w : World) (ht : Pr.Tab w) (hv : RowK .i64 w va v) (hvn : vn = v.length) (hvl : v.length ≤ 140737488355328) (hr : RowO w ha hs) (hn : n = hs.length) (hl : hs.length * 120 ≤ 140737488355328) (hnc : n ≤ c) (hro : RowK .i64 w oa o.1.ds) (hol : o.1.ds.length ≤ 17592186044416) (hh : heldB v hs = true) (hf : fitsB v o = true) (hk : knownB v hs o = false) (hrd : readyB v o = false) (hfull : (decide (16 ≤ hs.length) || stampB hs o) = true) :
    Calls Tryd.prog 18 #[.slice va vn vc, .slice ha n c, valO o oa o.1.ds.length oc] w (TakeErr 5 w) := by
  have mixed : Tryd.prog.follows .mixedOrders = true := by kernel_rfl
  have HB0 := Lib.hid (box_bel w (objO o oa o.1.ds.length oc))
  have HA0 := Lib.hid (OpX.new w o oa o.1.ds.length oc)
  have HV := Lib.hid (fun W (hb : Below w.heap.size w W) => hv.below hb (Nat.le_refl _))
  have HT := Lib.hid (fun W (hb : Below w.heap.size w W) => ht.below hb ht.lt)
  have HR := Lib.hid (fun W (hb : Below w.heap.size w W) => hr.below hb)
  have HRO := Lib.hid (fun W (hb : Below w.heap.size w W) => hro.below hb (Nat.le_refl _))
  have C1 := Lib.hid (hcheck_any va v vn vc ha hs n c (w.alloc (objO o oa o.1.ds.length oc)) (HT.out _ HB0.out) (HV.out _ HB0.out) hvn hvl (HR.out _ HB0.out) hn hl hnc)
  rw [hh] at C1
  have C2 := Lib.hid (fun W (hb : Below w.heap.size w W) => ready_yes va v vn vc o oa o.1.ds.length oc W (HT.out W hb) (HV.out W hb) hvn (HRO.out W hb) rfl hf)
  have C3 := Lib.hid (fun W (hb : Below w.heap.size w W) => known_any va v vn vc ha hs n c o oa o.1.ds.length oc W (HV.out W hb) hvn (HR.out W hb) hn hl hf)
  rw [hk] at C3
  rw [hrd] at C2
  have h16 := (held_iff.1 hh).2.1
  have C4 := Lib.hid (fun W (hb : Below w.heap.size w W) => search_any ha hs n c o oa o.1.ds.length oc W (HR.out W hb) hn (by omega) (held_srt hh))
  have hsrt := held_srt hh
  have HST := Lib.hid (fun p (hp : PosIs hs o p) => here_stamp hsrt hp)
  obtain ⟨sb, hsb⟩ : ∃ sb, stampB hs o = sb := ⟨_, rfl⟩
  rw [hsb] at HST hfull
  have hnz : sb = true ∨ (sb = false ∧ ((n : Int) == 16) = true) := by
    cases sb
    · right
      rw [Bool.or_false, decide_eq_true_eq] at hfull
      exact ⟨rfl, by rw [beq_iff_eq]; omega⟩
    · left; rfl
  clear hv ht hr hro hvl hl hol hvn hn hh hf hk hrd h16 hsb hfull hsrt
  go_enter Tryd.func18, Tryd.ntmps18
  go_wp2_with fail
  refine (C1.out).mono ?_
  rintro e w1 ⟨rfl, hb⟩
  have HA1 := Lib.hid (HA0.out.next hb)
  have HB1 := Lib.hid (HB0.out.trans (hb.mono HB0.out.size))
  clear hb
  obtain ⟨c0, c1, c2, c3, c4, c5, c6, c7, c8, c9, c10, c11⟩ := HA1.out
  go_wp2_with fail
  refine (C2.out _ HB1.out).mono ?_
  rintro e w2 ⟨rfl, hb⟩
  have HA2 := Lib.hid (HA1.out.next hb)
  have HB2 := Lib.hid (HB1.out.trans (hb.mono HB1.out.size))
  clear hb c0 c1 c2 c3 c4 c5 c6 c7 c8 c9 c10 c11
  obtain ⟨c0, c1, c2, c3, c4, c5, c6, c7, c8, c9, c10, c11⟩ := HA2.out
  go_wp2_with fail
  refine (C3.out _ HB2.out).mono ?_
  rintro e w3 ⟨rfl, hb⟩
  have HA3 := Lib.hid (HA2.out.next hb)
  have HB3 := Lib.hid (HB2.out.trans (hb.mono HB2.out.size))
  clear hb c0 c1 c2 c3 c4 c5 c6 c7 c8 c9 c10 c11
  obtain ⟨c0, c1, c2, c3, c4, c5, c6, c7, c8, c9, c10, c11⟩ := HA3.out
  go_wp2_with fail
  refine (C4.out _ HB3.out).mono ?_
  rintro e w4 ⟨p, rfl, hp, hb4⟩
  have HP := Lib.hid hp
  have HB4 := Lib.hid (HB3.out.trans (hb4.mono HB3.out.size))
  have HA4 := Lib.hid (HA3.out.next hb4)
  clear hb4 hp c0 c1 c2 c3 c4 c5 c6 c7 c8 c9 c10 c11
  obtain ⟨c0, c1, c2, c3, c4, c5, c6, c7, c8, c9, c10, c11⟩ := HA4.out
  rw [HST.out p HP.out]
  rcases hnz with rfl | ⟨rfl, hnz⟩
  · go_wp2
    refine bodyPost_ret (Pr.results_tmp4 rfl _ _ _) rfl ?_
    exact ⟨rfl, HB4.out⟩
  · go_wp2
    refine bodyPost_ret (Pr.results_tmp4 rfl _ _ _) rfl ?_
    exact ⟨rfl, HB4.out⟩
theorem heldS_mk {w w4 W : World} {o : OpD} {oa : Option Addr} {on oc : Nat} (h : OpX w4 w.heap.size 0 o oa on oc) (hb : Below w4.heap.size w4 W) : W.cell? ⟨w.heap.size, 0, none⟩ = some (.int .i64 o.1.t) ∧ W.cell? ⟨w.heap.size, 0 + 1, none⟩ = some (.int .i64 o.1.r) ∧ W.cell? ⟨w.heap.size, 0 + 2, none⟩ = some (.int .i64 o.2) ∧ W.cell? ⟨w.heap.size, 0 + 3, none⟩ = some (.slice oa on oc) ∧ W.cell? ⟨w.heap.size, 0 + 4, none⟩ = some (.int .i64 o.1.k) ∧ W.cell? ⟨w.heap.size, 0 + 5, none⟩ = some (.int .i64 o.1.nt) ∧ W.cell? ⟨w.heap.size, 0 + 6, none⟩ = some (.int .i64 o.1.nr) ∧ W.cell? ⟨w.heap.size, 0 + 7, none⟩ = some (.int .i64 o.1.pt) ∧ W.cell? ⟨w.heap.size, 0 + 8, none⟩ = some (.int .i64 o.1.pr) ∧ W.cell? ⟨w.heap.size, 0 + 9, none⟩ = some (.string o.1.s) ∧ W.cell? ⟨w.heap.size, 0 + 10, none⟩ = some (.int .i64 o.1.p) ∧ W.cell? ⟨w.heap.size, 0 + 11, none⟩ = some (.int .i64 o.1.v) ∧ Hid (Below w4.heap.size w4 W) := by
  have a := h.next hb
  exact ⟨a.c0, a.c1, a.c2, a.c3, a.c4, a.c5, a.c6, a.c7, a.c8, a.c9, a.c10, a.c11, hb⟩
set_option maxHeartbeats 8000000 in
set_option maxRecDepth 100000 in
theorem take_held (va : Option Addr) (v : List Int) (vn vc : Nat) (ha : Option Addr) (hs : List OpD) (n c : Nat) (o : OpD) (oa : Option Addr) (oc : Nat) (w : World) (ht : Pr.Tab w) (hv : RowK .i64 w va v) (hvn : vn = v.length) (hvl : v.length ≤ 140737488355328) (hr : RowO w ha hs) (hn : n = hs.length) (hl : hs.length * 120 ≤ 140737488355328) (hnc : n ≤ c) (hro : RowK .i64 w oa o.1.ds) (hol : o.1.ds.length ≤ 17592186044416) (hh : heldB v hs = true) (hf : fitsB v o = true) (hk : knownB v hs o = false) (hrd : readyB v o = false) (hfull : (decide (16 ≤ hs.length) || stampB hs o) = false) (q : Nat) (hpos : PosIs hs o q) :
    Calls Tryd.prog 18 #[.slice va vn vc, .slice ha n c, valO o oa o.1.ds.length oc] w (HTake v (hs.take q ++ o :: hs.drop q) [] w) := by
  have mixed : Tryd.prog.follows .mixedOrders = true := by kernel_rfl
  have HB0 := Lib.hid (box_bel w (objO o oa o.1.ds.length oc))
  have HA0 := Lib.hid (OpX.new w o oa o.1.ds.length oc)
  have HV := Lib.hid (fun W (hb : Below w.heap.size w W) => hv.below hb (Nat.le_refl _))
  have HT := Lib.hid (fun W (hb : Below w.heap.size w W) => ht.below hb ht.lt)
  have HR := Lib.hid (fun W (hb : Below w.heap.size w W) => hr.below hb)
  have HRO := Lib.hid (fun W (hb : Below w.heap.size w W) => hro.below hb (Nat.le_refl _))
  have C1 := Lib.hid (hcheck_any va v vn vc ha hs n c (w.alloc (objO o oa o.1.ds.length oc)) (HT.out _ HB0.out) (HV.out _ HB0.out) hvn hvl (HR.out _ HB0.out) hn hl hnc)
  rw [hh] at C1
  have C2 := Lib.hid (fun W (hb : Below w.heap.size w W) => ready_yes va v vn vc o oa o.1.ds.length oc W (HT.out W hb) (HV.out W hb) hvn (HRO.out W hb) rfl hf)
  have C3 := Lib.hid (fun W (hb : Below w.heap.size w W) => known_any va v vn vc ha hs n c o oa o.1.ds.length oc W (HV.out W hb) hvn (HR.out W hb) hn hl hf)
  rw [hk] at C3
  rw [hrd] at C2
  have h16 := (held_iff.1 hh).2.1
  have C4 := Lib.hid (fun W (hb : Below w.heap.size w W) => search_any ha hs n c o oa o.1.ds.length oc W (HR.out W hb) hn (by omega) (held_srt hh))
  have hsrt := held_srt hh
  have hst0 : stampB hs o = false := by cases h1 : stampB hs o <;> simp [h1] at hfull ⊢
  have HST := Lib.hid (fun p (hp : PosIs hs o p) => here_stamp hsrt hp)
  rw [hst0] at HST
  have hnz : ((n : Int) == 16) = false := by
    rw [hst0, Bool.or_false, decide_eq_false_iff_not] at hfull
    exact beq_eq_false_iff_ne.2 (by omega)
  have HPQ := Lib.hid hpos
  have hvl1 := Hv.vecB_len (fits_iff.1 hf).1
  have hok := (fits_iff.1 hf).2.1
  have C5 := Lib.hid (fun W (hb : Below w.heap.size w W) => clone_any va v vn vc W (HV.out W hb) hvn hvl1.1 (by omega))
  have C6 := Lib.hid (fun W (hb : Below w.heap.size w W) => above_any va v vn vc ha hs n c W (HV.out W hb) hvn (HR.out W hb) hn hl (held_sizes hh))
  rw [held_new hh] at C6
  have C7 := Lib.hid (fun W (hb : Below w.heap.size w W) => copied_any o oa oc W (HRO.out W hb) hok)
  have H16 := Lib.hid h16
  have HOL := Lib.hid hol
  obtain ⟨on, hon⟩ : ∃ on, o.1.ds.length = on := ⟨_, rfl⟩
  have HON := Lib.hid hon
  rw [hon] at C2 C3 C4 HA0 HB0 C1 C7 ⊢
  clear hv ht hr hro hvl hl hol hvn hn hh hf hk hrd h16 hsrt hst0 hfull hvl1 hok hpos hon
  go_enter Tryd.func18, Tryd.ntmps18
  go_wp2_with fail
  refine (C1.out).mono ?_
  rintro e w1 ⟨rfl, hb⟩
  have HA1 := Lib.hid (HA0.out.next hb)
  have HB1 := Lib.hid (HB0.out.trans (hb.mono HB0.out.size))
  clear hb
  obtain ⟨c0, c1, c2, c3, c4, c5, c6, c7, c8, c9, c10, c11⟩ := HA1.out
  go_wp2_with fail
  refine (C2.out _ HB1.out).mono ?_
  rintro e w2 ⟨rfl, hb⟩
  have HA2 := Lib.hid (HA1.out.next hb)
  have HB2 := Lib.hid (HB1.out.trans (hb.mono HB1.out.size))
  clear hb c0 c1 c2 c3 c4 c5 c6 c7 c8 c9 c10 c11
  obtain ⟨c0, c1, c2, c3, c4, c5, c6, c7, c8, c9, c10, c11⟩ := HA2.out
  go_wp2_with fail
  refine (C3.out _ HB2.out).mono ?_
  rintro e w3 ⟨rfl, hb⟩
  have HA3 := Lib.hid (HA2.out.next hb)
  have HB3 := Lib.hid (HB2.out.trans (hb.mono HB2.out.size))
  clear hb c0 c1 c2 c3 c4 c5 c6 c7 c8 c9 c10 c11
  obtain ⟨c0, c1, c2, c3, c4, c5, c6, c7, c8, c9, c10, c11⟩ := HA3.out
  go_wp2_with fail
  refine (C4.out _ HB3.out).mono ?_
  rintro e w4 ⟨p, rfl, hp, hb4⟩
  have HP := Lib.hid hp
  have HB4 := Lib.hid (HB3.out.trans (hb4.mono HB3.out.size))
  have HA4 := Lib.hid (HA3.out.next hb4)
  clear hb4 hp c0 c1 c2 c3 c4 c5 c6 c7 c8 c9 c10 c11
  obtain ⟨c0, c1, c2, c3, c4, c5, c6, c7, c8, c9, c10, c11⟩ := HA4.out
  rw [HST.out p HP.out]
  obtain rfl : p = q := pos_uniq HP.out HPQ.out
  have HS := Lib.hid (fun W (hb : Below w4.heap.size w4 W) => (heldS_mk HA4.out hb : W.cell? ⟨w.heap.size, 0, none⟩ = some (.int .i64 o.1.t) ∧ W.cell? ⟨w.heap.size, 0 + 1, none⟩ = some (.int .i64 o.1.r) ∧ W.cell? ⟨w.heap.size, 0 + 2, none⟩ = some (.int .i64 o.2) ∧ W.cell? ⟨w.heap.size, 0 + 3, none⟩ = some (.slice oa on oc) ∧ W.cell? ⟨w.heap.size, 0 + 4, none⟩ = some (.int .i64 o.1.k) ∧ W.cell? ⟨w.heap.size, 0 + 5, none⟩ = some (.int .i64 o.1.nt) ∧ W.cell? ⟨w.heap.size, 0 + 6, none⟩ = some (.int .i64 o.1.nr) ∧ W.cell? ⟨w.heap.size, 0 + 7, none⟩ = some (.int .i64 o.1.pt) ∧ W.cell? ⟨w.heap.size, 0 + 8, none⟩ = some (.int .i64 o.1.pr) ∧ W.cell? ⟨w.heap.size, 0 + 9, none⟩ = some (.string o.1.s) ∧ W.cell? ⟨w.heap.size, 0 + 10, none⟩ = some (.int .i64 o.1.p) ∧ W.cell? ⟨w.heap.size, 0 + 11, none⟩ = some (.int .i64 o.1.v) ∧ Hid (Below w4.heap.size w4 W)))
  have HBT := Lib.hid (fun W (hb : Below w4.heap.size w4 W) => HB4.out.trans (hb.mono HB4.out.size))
  have hS0 := HS.out _ (Below.refl w4.heap.size w4).drew
  clear c0 c1 c2 c3 c4 c5 c6 c7 c8 c9 c10 c11
  go_wp2_with fail
  go_region_held3 (fun W => W.cell? ⟨w.heap.size, 0, none⟩ = some (.int .i64 o.1.t) ∧ W.cell? ⟨w.heap.size, 0 + 1, none⟩ = some (.int .i64 o.1.r) ∧ W.cell? ⟨w.heap.size, 0 + 2, none⟩ = some (.int .i64 o.2) ∧ W.cell? ⟨w.heap.size, 0 + 3, none⟩ = some (.slice oa on oc) ∧ W.cell? ⟨w.heap.size, 0 + 4, none⟩ = some (.int .i64 o.1.k) ∧ W.cell? ⟨w.heap.size, 0 + 5, none⟩ = some (.int .i64 o.1.nt) ∧ W.cell? ⟨w.heap.size, 0 + 6, none⟩ = some (.int .i64 o.1.nr) ∧ W.cell? ⟨w.heap.size, 0 + 7, none⟩ = some (.int .i64 o.1.pt) ∧ W.cell? ⟨w.heap.size, 0 + 8, none⟩ = some (.int .i64 o.1.pr) ∧ W.cell? ⟨w.heap.size, 0 + 9, none⟩ = some (.string o.1.s) ∧ W.cell? ⟨w.heap.size, 0 + 10, none⟩ = some (.int .i64 o.1.p) ∧ W.cell? ⟨w.heap.size, 0 + 11, none⟩ = some (.int .i64 o.1.v) ∧ Hid (Below w4.heap.size w4 W)) (with_reducible assumption) (first
    | (go_at_call 40
       (with_reducible refine (C5.out _ (HBT.out _ (Below.refl w4.heap.size w4).drew)).mono ?_)
       rintro e w5 ⟨wv, rfl, ho5, hb5⟩
       have HE5 := Lib.hid ((Below.refl w4.heap.size w4).drew.trans hb5)
       have HO5 := Lib.hid ho5
       have hS5 := HS.out w5 HE5.out
       clear ho5 hb5)
    | (go_at_call 41
       (with_reducible refine (C6.out _ (HBT.out _ HE5.out)).mono ?_)
       rintro e w6 ⟨lv, dl, rfl, ho6, hd6, hb6⟩
       have HE6 := Lib.hid (HE5.out.trans (hb6.mono HE5.out.size))
       have HO6 := Lib.hid (HO5.out.below hb6)
       have HL6 := Lib.hid ho6
       have HD6 := Lib.hid hd6
       have hS6 := HS.out w6 HE6.out
       have HZ6 : Hid (w5.heap.size ≤ w6.heap.size) := hb6.size
       clear ho6 hd6 hb6)
    | (go_at_call 46
       (with_reducible refine (C7.out _ (HBT.out _ HE6.out)).mono ?_)
       rintro e w7 ⟨oa7, oc7, rfl, ho7, hb7⟩
       have HE7 := Lib.hid (HE6.out.trans (hb7.mono HE6.out.size))
       have HO7 := Lib.hid (HO6.out.below hb7)
       have HL7 := Lib.hid (HL6.out.below hb7)
       have HD7 := Lib.hid (HD6.out.below hb7)
       have HX7 := Lib.hid ho7
       have hS7 := HS.out w7 HE7.out
       have hS8 := HS.out (w7.alloc (objO o oa7 o.1.ds.length oc7)) (HE7.out.alloc HE7.out.size _)
       have C8 := Lib.hid (insert_any w5.heap.size lv hs dl o oa7 o.1.ds.length oc7 w7 HL7.out H16.out (by have h1 := HZ6.out; have h2 := hb7.size; omega) (depsO_one HD7.out HL7.out.len) p HP.out.1)
       clear ho7 hb7)
    | (go_at_call 45
       (with_reducible refine (C8.out).mono ?_)
       rintro e w8 ⟨tv, rfl, ho8, hg8⟩
       have HE8 := Lib.hid (HE7.out.grown hg8 HE7.out.size (fun g hg => by have h1 := (HL7.out.lt hg).1; have h2 := HE5.out.size; omega))
       have HT8 := Lib.hid ho8
       have HG8 := Lib.hid hg8
       have hS9 := HS.out w8 HE8.out
       clear ho8 hg8))
  go_wp2
  refine bodyPost_ret (Pr.results_tmp4 rfl _ _ _) rfl ?_
  have ha1 := apart_types HO7.out HL7.out
  have ha2 := apart_types HX7.out HL7.out
  have hz6 := HZ6.out
  have hz4 := HB4.out.size
  have hb56 : w4.heap.size ≤ w5.heap.size := HE5.out.size
  refine ⟨wv, tv, _, rfl, w5.heap.size, dl.take p ++ _ :: dl.drop p, [], (HO7.out.grown HG8.out ha1).mono hz4, HT8.out, DepsO.insert (HD7.out.grown HL7.out HG8.out) HL7.out.len ((HX7.out.grown HG8.out ha2).mono hz6) HOL.out (fun g hg e he hge => ?_) p HP.out.1, OwnO.nil _ _, DepsO.nil _ _, fun x hx => by simp at hx, fun g hg => (HO5.out.lt hg).2, fun g hg => by simp [Value.ownBlock] at hg, fun x hx => by simp at hx, by omega, HBT.out w8 HE8.out⟩
  have h1 := (HX7.out.lt hg).1
  have h2 := deps_lt HD6.out HL6.out.len he hge
  omega
end Go.Proofs.YtdpopdlifcjdeaaDoor

/- Hold: mathematics of HoldFull. -/
namespace Go.Proofs.YtdpopdlifcjdeaaDoor
open Go.RowKit Go.Lib
set_option linter.unusedVariables false

def oF (z : Int) : OpD := (⟨z, 0, [z - 1, 0], 1, z, 0, 0, 0, ⟨#[107]⟩, 0, 0⟩, z)
def hsF (k : Nat) : List OpD := (List.range k).map fun (j : Nat) => oF ((j : Int) + 2)
def oF1 : OpD := (⟨1, 0, [0, 0], 1, 1, 0, 0, 0, ⟨#[107]⟩, 0, 0⟩, 1)
theorem hsF_len (k : Nat) : (hsF k).length = k := by simp [hsF]
theorem hsF_at {k j : Nat} {x : OpD} (h : (hsF k)[j]? = some x) : x = oF ((j : Int) + 2) := by
  unfold hsF at h
  rw [List.getElem?_map] at h
  by_cases hj : j < k
  · rw [List.getElem?_range hj] at h
    simpa using h.symm
  · rw [List.getElem?_eq_none (by simpa using hj)] at h
    cases h
theorem hsF_next (k : Nat) : (hsF k).take k ++ oF ((k : Int) + 2) :: (hsF k).drop k = hsF (k + 1) := by
  rw [List.take_of_length_le (by rw [hsF_len]; exact Nat.le_refl _), List.drop_of_length_le (by rw [hsF_len]; exact Nat.le_refl _)]
  unfold hsF
  rw [List.range_succ, List.map_append]
  rfl
theorem hsF_pos (k : Nat) : PosIs (hsF k) (oF ((k : Int) + 2)) k := by
  refine ⟨by rw [hsF_len]; exact Nat.le_refl _, fun j x hj hx => ?_, fun j x hj hx => ?_⟩
  · rw [hsF_at hx, cmpO_lt]
    left
    show (j : Int) + 2 < (k : Int) + 2
    omega
  · have := (List.getElem?_eq_some_iff.1 hx).1
    rw [hsF_len] at this
    omega
theorem hsF_held : ∀ k : Nat, k < 17 → heldB [0, 0] (hsF k) = true := by decide +kernel
theorem oF_fits : ∀ k : Nat, k < 18 → fitsB [0, 0] (oF ((k : Int) + 2)) = true := by decide +kernel
theorem oF_known : ∀ k : Nat, k < 17 → knownB [0, 0] (hsF k) (oF ((k : Int) + 2)) = false := by decide +kernel
theorem oF_known' : knownB [0, 0] (hsF 16) (oF (17 + 2)) = false := by decide +kernel
theorem oF_ready : ∀ k : Nat, k < 18 → readyB [0, 0] (oF ((k : Int) + 2)) = false := by decide +kernel
theorem oF_room : ∀ k : Nat, k < 16 → (decide (16 ≤ (hsF k).length) || stampB (hsF k) (oF ((k : Int) + 2))) = false := by decide +kernel
theorem o1_fits : fitsB [0, 0] oF1 = true := by decide +kernel
theorem o1_known : knownB [0, 0] (hsF 16) oF1 = false := by decide +kernel
theorem o1_ready : readyB [0, 0] oF1 = true := by decide +kernel
theorem o1_free1 : (freeG (hsF 16) (hsF 16).length (setV [0, 0] oF1) [oF1]).1 = [17, 0] := by decide +kernel
theorem o1_free2 : (freeG (hsF 16) (hsF 16).length (setV [0, 0] oF1) [oF1]).2.length = 17 := by decide +kernel
theorem o1_above : (aboveL [17, 0] (hsF 16)).length = 0 := by decide +kernel
end Go.Proofs.YtdpopdlifcjdeaaDoor
