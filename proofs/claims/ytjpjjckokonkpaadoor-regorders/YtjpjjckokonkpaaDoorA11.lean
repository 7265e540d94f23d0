/- Registers: not too heavy; the law wakes; registers written over. -/
import Derived.Test.YtjpjjckokonkpaaDoorA9
import Derived.Test.YtjpjjckokonkpaaDoorA10
namespace Go.Proofs.YtjpjjckokonkpaaDoor
open Go.RowKit Go.Lib
set_option linter.unusedVariables false

set_option maxHeartbeats 1000000 in
theorem heavy15_any (ra : Option Addr) (rs : List RgD) (rn rc : Nat) (qa : Option Addr) (qs : List RgD) (qn qc : Nat) (la : Option Addr) (ls : List RgD) (ln lc : Nat) (w : World) (h : ScG w ra rs rn rc qa qs qn qc la ls ln lc) :
    Calls Tryd.prog 8 #[.agg #[.slice ra rn rc, .slice qa qn qc, .slice la ln lc]] w (BoolPost w (decide (2000 < rn + qn + ln))) := by
  have HB := Lib.hid (bel1 w (scG ra rn rc qa qn qc la ln lc))
  obtain ⟨c0, c1, c2⟩ := ScB.new w ra rn rc qa qn qc la ln lc
  have h1 := h.rl
  have h2 := h.rm
  have h3 := h.ql
  have h4 := h.qm
  have h5 := h.ll
  have h6 := h.lm
  have e1 : IntKind.i64.wrap ((rn : Int) + (qn : Int)) = (rn : Int) + (qn : Int) := IntWalk.i64_in _ (by omega)
  have e1' : wrap64 ((rn : Int) + (qn : Int)) = (rn : Int) + (qn : Int) := IntWalk.wrap64_in _ (by omega)
  have e2 : IntKind.i64.wrap ((rn : Int) + (qn : Int) + (ln : Int)) = (rn : Int) + (qn : Int) + (ln : Int) := IntWalk.i64_in _ (by omega)
  have e2' : wrap64 ((rn : Int) + (qn : Int) + (ln : Int)) = (rn : Int) + (qn : Int) + (ln : Int) := IntWalk.wrap64_in _ (by omega)
  have e3 : decide ((2000 : Int) < (rn : Int) + (qn : Int) + (ln : Int)) = decide (2000 < rn + qn + ln) := by
    by_cases h : 2000 < rn + qn + ln
    · rw [decide_eq_true h, decide_eq_true (by omega)]
    · rw [decide_eq_false h, decide_eq_false (by omega)]
  clear h h1 h2 h3 h4 h5 h6
  go_enter Tryd.func8, Tryd.ntmps8
  go_wp2
  go_ret
  exact ⟨by rw [← e3]; rfl, HB.out⟩
theorem st_build_t (a : Int) (w : World) : (Instr.build 29 #[(0, .int .i64 a)]).run Tryd.prog w = .ok (.agg #[.int .i64 a, .int .i64 0]) w := run_build w 29 _ _ (by kernel_rfl)
theorem merge_one {x y : RgD} (h : x.p = y.p) : mergeG [x] [y] = [latG x y] := by rw [mergeG_eq h, mergeG_nil_l]
theorem merge_nil (y : RgD) : mergeG [] [y] = [y] := mergeG_nil_l _
theorem get_one (x : RgD) : getG [x] x.p = some x := by rw [getG_one, if_pos rfl]
/-- a list of one register that the program has made -/
def OneG (W : World) (base : Nat) (v : Value) (x : RgD) : Prop := ∃ a c, v = .slice a 1 c ∧ 1 ≤ c ∧ OwnG W base v [x]
theorem OneG.of {W : World} {base : Nat} {v : Value} {x : RgD} (h : OwnG W base v [x]) : OneG W base v x := by
  obtain ⟨a, n, c, rfl, hn, hc, -⟩ := h.form
  have hn1 : n = 1 := hn
  subst hn1
  exact ⟨a, c, rfl, hc, h⟩
theorem OneG.row {W : World} {base : Nat} {a : Option Addr} {n c : Nat} {x : RgD} (h : OwnG W base (.slice a n c) [x]) : RowG W a [x] := by
  obtain ⟨a', n', c', e, -, -, hr⟩ := h.form
  simp only [Value.slice.injEq] at e
  rw [e.1]
  exact hr
def SetOne (w : World) (x : RgD) (e : Ending) (w' : World) : Prop := ∃ a c, e = .returned (.tuple #[.slice a 1 c, .int .i64 0]) ∧ 1 ≤ c ∧ RowG w' a [x] ∧ Below w.heap.size w w'
theorem set_first (x : RgD) (w : World) (ht : Pr.Tab w) (h : regB x = true) : Calls Tryd.prog 15 #[.slice none 0 0, .int .i64 x.p, .int .i64 x.v, .agg #[.int .i64 x.t, .int .i64 x.r]] w (SetOne w x) := by
  refine (set_yes none [] 0 0 x w ht (RowG.nil _ _) rfl (Nat.le_refl _) (by decide) (by rw [h]; rfl)).mono ?_
  rintro e w' ⟨v, rfl, ho, hb⟩
  rw [merge_nil] at ho
  obtain ⟨a, c, rfl, hc, ho⟩ := OneG.of ho
  exact ⟨a, c, rfl, hc, OneG.row ho, hb⟩
theorem set_again (a : Option Addr) (c : Nat) (x y : RgD) (w : World) (ht : Pr.Tab w) (hr : RowG w a [x]) (hc : 1 ≤ c) (h1 : regB x = true) (h2 : regB y = true) (hp : x.p = y.p) : Calls Tryd.prog 15 #[.slice a 1 c, .int .i64 y.p, .int .i64 y.v, .agg #[.int .i64 y.t, .int .i64 y.r]] w (SetOne w (latG x y)) := by
  refine (set_yes a [x] 1 c y w ht hr rfl hc (by simp) (by rw [regs_one, h1, h2]; rfl)).mono ?_
  rintro e w' ⟨v, rfl, ho, hb⟩
  rw [merge_one hp] at ho
  obtain ⟨a, c, rfl, hc, ho⟩ := OneG.of ho
  exact ⟨a, c, rfl, hc, OneG.row ho, hb⟩
theorem get_first (a : Option Addr) (c : Nat) (x : RgD) (w : World) (ht : Pr.Tab w) (hr : RowG w a [x]) (h1 : regB x = true) : Calls Tryd.prog 13 #[.slice a 1 c, .int .i64 x.p] w (GetPost x.v 0 w) := by
  have := get_yes a [x] 1 c x.p w ht hr rfl (by decide) (by rw [regs_one, h1])
  rw [get_one] at this
  exact this
set_option maxHeartbeats 2000000 in
theorem wakes15_any (w : World) (ht : Pr.Tab w) : Calls Tryd.prog 21 #[] w (BoolPost w true) := by
  have HT := Lib.hid (fun W (hb : Below w.heap.size w W) => ht.below hb ht.lt)
  have C1 := Lib.hid (set_first ⟨17, 1, 5, 0⟩ w ht (by decide))
  have C2 := Lib.hid (fun a c W (hb : Below w.heap.size w W) hr hc => set_again a c ⟨17, 1, 5, 0⟩ ⟨17, 2, 4, 0⟩ W (HT.out W hb) hr hc (by decide) (by decide) rfl)
  rw [show latG ⟨17, 1, 5, 0⟩ ⟨17, 2, 4, 0⟩ = ⟨17, 1, 5, 0⟩ by decide] at C2
  have C3 := Lib.hid (fun a c W (hb : Below w.heap.size w W) hr => get_first a c ⟨17, 1, 5, 0⟩ W (HT.out W hb) hr (by decide))
  have hb5 := st_build_t 5
  have hb4 := st_build_t 4
  clear ht
  go_enter Tryd.func21, Tryd.ntmps21
  go_wp2_with fail
  refine (C1.out).mono ?_
  rintro e w1 ⟨a1, c1, rfl, hc1, hr1, hb⟩
  have HB1 := Lib.hid hb
  have HR1 := Lib.hid hr1
  have HC1 := Lib.hid hc1
  clear hb hr1 hc1
  go_wp2_with fail
  refine (C2.out a1 c1 _ HB1.out HR1.out HC1.out).mono ?_
  rintro e w2 ⟨a2, c2, rfl, hc2, hr2, hb⟩
  have HB2 := Lib.hid (HB1.out.trans (hb.mono HB1.out.size))
  have HR2 := Lib.hid hr2
  clear hb hr2 hc2
  go_wp2_with fail
  refine (C3.out a2 c2 _ HB2.out HR2.out).mono ?_
  rintro e w3 ⟨rfl, hb⟩
  have HB3 := Lib.hid (HB2.out.trans (hb.mono HB2.out.size))
  clear hb
  go_wp2_with fail
  refine (num15_any 0 _).mono ?_
  rintro e wn ⟨rfl, rfl⟩
  go_wp2_with fail
  refine (num15_any 0 _).mono ?_
  rintro e wn ⟨rfl, rfl⟩
  go_wp2_with fail
  refine (num15_any 0 _).mono ?_
  rintro e wn ⟨rfl, rfl⟩
  go_wp2
  go_ret
  exact ⟨rfl, HB3.out⟩
theorem cellsG_set : ∀ (xs : List RgD) (i : Nat) (z : RgD), cellsG (xs.set i z) = ((((cellsG xs).set (i * 4) (.int .i64 z.p)).set (i * 4 + 1) (.int .i64 z.v)).set (i * 4 + 2) (.int .i64 z.t)).set (i * 4 + 3) (.int .i64 z.r)
  | [], i, z => by simp [cellsG]
  | x :: xs, 0, z => by simp [cellsG, RgD.vals]
  | x :: xs, i + 1, z => by
    rw [List.set_cons_succ, cellsG, cellsG_set xs i z, cellsG]
    simp only [RgD.vals, List.cons_append, List.nil_append]
    rw [show (i + 1) * 4 = i * 4 + 1 + 1 + 1 + 1 by omega]
    simp only [List.set_cons_succ, show ∀ a b : Nat, a + 1 + 1 + 1 + 1 + b = (a + b) + 1 + 1 + 1 + 1 from fun a b => by omega]
abbrev put4 (w : World) (g o : Nat) (z : RgD) : World := (((w.setCell ⟨g, o, none⟩ (.int .i64 z.p)).setCell ⟨g, o + 1, none⟩ (.int .i64 z.v)).setCell ⟨g, o + 2, none⟩ (.int .i64 z.t)).setCell ⟨g, o + 3, none⟩ (.int .i64 z.r)
theorem OwnG.put {w : World} {base g n cap : Nat} {xs : List RgD} (h : OwnG w base (.slice (some ⟨g, 0, none⟩) n cap) xs) (i : Nat) (z : RgD) : OwnG (put4 w g (i * 4) z) base (.slice (some ⟨g, 0, none⟩) n cap) (xs.set i z) := by
  have hn : n = xs.length := by obtain ⟨a, n', c, e, hn, -, -⟩ := h.form; simp only [Value.slice.injEq] at e; omega
  subst hn
  unfold OwnG
  rw [cellsG_set, List.length_set]
  exact (World.ownsRow.stored (World.ownsRow.stored (World.ownsRow.stored (World.ownsRow.stored h (i * 4) (.int .i64 z.p)).1 (i * 4 + 1) (.int .i64 z.v)).1 (i * 4 + 2) (.int .i64 z.t)).1 (i * 4 + 3) (.int .i64 z.r)).1
theorem put4_grown (w : World) (g o : Nat) (z : RgD) : w.grownBy (put4 w g o z) (some g) :=
  (((grown_setCell w ⟨g, o, none⟩ _).trans (grown_setCell _ ⟨g, o + 1, none⟩ _)).trans (grown_setCell _ ⟨g, o + 2, none⟩ _)).trans (grown_setCell _ ⟨g, o + 3, none⟩ _)
theorem reg_build9 (w : World) : (Instr.build 51 #[(0, .int .i64 (-9))]).run Tryd.prog w = .ok (valG ⟨-9, 0, 0, 0⟩) w := run_build w 51 _ _ (by kernel_rfl)
theorem reg_build0 (w : World) : (Instr.build 51 #[]).run Tryd.prog w = .ok (valG ⟨0, 0, 0, 0⟩) w := run_build w 51 _ _ (by kernel_rfl)
def SpoilG (w : World) (v : Value) (e : Ending) (w' : World) : Prop := e = .returned (.tuple #[]) ∧ w.grownBy w' v.ownBlock
set_option maxHeartbeats 4000000 in
theorem spoilRegs_any (v : Value) (xs : List RgD) (base : Nat) (w : World) (ho : OwnG w base v xs) (hl : (xs.length + 1) * 32 ≤ 140737488355328) (hbase : base ≤ w.heap.size) : Calls Tryd.prog 19 #[v] w (SpoilG w v) := by
  have hb9 := reg_build9
  have hb0 := reg_build0
  rcases ho.2 with ⟨rfl, h0⟩ | ⟨g, cap, cur, e, hg, hh, hnc, hcm, hcs, htk⟩
  · have HO := Lib.hid ho
    clear ho h0
    go_enter Tryd.func19, Tryd.ntmps19
    go_wp2
    refine wp_loop_rounds 1 ?_
    rw [rounds_succ]
    go_wp2_with (at_builtin
                 refine wpG_one rfl _ _ rfl base w (.slice none 0 0) xs ⟨0, 0, 0, 0⟩ rfl HO.out _ rfl rfl hl hbase ?_
                 intro v6 w6 hp6
                 have HG := Lib.hid hp6.gr
                 clear hp6)
    go_end0
    exact ⟨rfl, HG.out⟩
  · subst e
    obtain ⟨n, hn⟩ : ∃ n, n = xs.length := ⟨_, rfl⟩
    have HN := Lib.hid hn
    have HL := Lib.hid hl
    have HO := Lib.hid ho
    have hnl : n ≤ 4398046511104 := by omega
    have HBS := Lib.hid hbase
    rw [← hn] at HO ⊢
    have HI0 : Hid (∃ ys : List RgD, OwnG w base (.slice (some ⟨g, 0, none⟩) n cap) ys) := ⟨xs, HO.out⟩
    clear ho hl hh hcs htk hcm hg hnc hbase hn
    go_enter Tryd.func19, Tryd.ntmps19
    go_wp2
    go_loopg [2] n (fun gg s2 wr => ∃ k : Nat, s2 = .int .i64 k ∧ k ≤ n ∧ n - k ≤ gg ∧ Hid (∃ ys : List RgD, OwnG wr base (.slice (some ⟨g, 0, none⟩) n cap) ys) ∧ Hid (w.grownBy wr (some g)))
    case atStart => exact ⟨0, rfl, Nat.zero_le _, by omega, HI0, World.grownBy.refl _ _⟩
    case round =>
      obtain ⟨k, rfl, hk, hgk, HY, HG⟩ := hrel
      clear HI0 HO
      by_cases hin : k < n
      · have hinz : (k : Int) < (n : Int) := by omega
        obtain ⟨ys, hys⟩ := HY.out
        have HYS := Lib.hid hys
        have hyl : ys.length = n := by obtain ⟨a', n', c', e, hn', -, -⟩ := hys.form; simp only [Value.slice.injEq] at e; omega
        have hown : wr.ownsRow base 51 4 (.slice (some ⟨g, 0, none⟩) n cap) n (cellsG ys) := by have := hys; unfold OwnG at this; rw [hyl] at this; exact this
        have hce := fun j (hj : j < n * 4) => World.ownsRow.cellAt hown j hj
        have hfr := fun j => World.ownsRow.frozenAt hown j
        have hcx : ∀ j, j < n * 4 → ∃ u, wr.cell? ⟨g, j, none⟩ = some u := fun j hj => ⟨_, (hce j hj).trans (List.getElem?_eq_getElem (by rw [cellsG_len, hyl]; exact hj))⟩
        obtain ⟨z0, e0⟩ := hcx (k * 4) (by omega)
        have f0 := hfr (k * 4)
        obtain ⟨z1, e1⟩ := hcx (k * 4 + 1) (by omega)
        have f1 := hfr (k * 4 + 1)
        obtain ⟨z2, e2⟩ := hcx (k * 4 + 2) (by omega)
        have f2 := hfr (k * 4 + 2)
        obtain ⟨z3, e3⟩ := hcx (k * 4 + 3) (by omega)
        have f3 := hfr (k * 4 + 3)
        have HY2 : Hid (∃ ys : List RgD, OwnG (put4 wr g (k * 4) ⟨-9, 0, 0, 0⟩) base (.slice (some ⟨g, 0, none⟩) n cap) ys) := ⟨_, hys.put k ⟨-9, 0, 0, 0⟩⟩
        have HG2 : Hid (w.grownBy (put4 wr g (k * 4) ⟨-9, 0, 0, 0⟩) (some g)) := HG.out.trans (put4_grown wr g (k * 4) ⟨-9, 0, 0, 0⟩)
        clear hys hyl hown hce hfr hcx
        go_wp2
        go_roundg (n - (k + 1))
        case measure => omega
        case rel => exact ⟨k + 1, by go_num, by omega, by omega, HY2, HG2⟩
      · obtain rfl : k = n := by omega
        have hinz : ¬ (k : Int) < (k : Int) := by omega
        obtain ⟨ys, hys⟩ := HY.out
        have HYS := Lib.hid hys
        have hyl : ys.length = k := by obtain ⟨a', n', c', e, hn', -, -⟩ := hys.form; simp only [Value.slice.injEq] at e; omega
        have HL1 : Hid ((ys.length + 1) * 32 ≤ 140737488355328) := by show _ ≤ _; rw [hyl, HN.out]; exact HL.out
        have hsz : base ≤ wr.heap.size := Nat.le_trans HBS.out HG.out.size
        clear hys hyl
        go_wp2_with (at_builtin
                     refine wpG_one rfl _ _ rfl base wr (.slice (some ⟨g, 0, none⟩) k cap) ys ⟨0, 0, 0, 0⟩ rfl HYS.out _ rfl rfl HL1.out hsz ?_
                     intro v6 w6 hp6
                     have HG6 := Lib.hid hp6.gr
                     clear hp6)
        go_end0
        exact ⟨rfl, HG.out.trans HG6.out⟩
end Go.Proofs.YtjpjjckokonkpaaDoor
