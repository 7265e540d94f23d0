/- Registers: two lists made one (goto); Merge, Set. -/
import Derived.Test.YtjpjjckokonkpaaDoorA4
namespace Go.Proofs.YtjpjjckokonkpaaDoor
open Go.RowKit Go.Lib
set_option linter.unusedVariables false

def lenOfG : Value → Nat
  | .slice _ n _ => n
  | _ => 0
def RegsPost (w : World) (zs : List RgD) (e : Ending) (w' : World) : Prop := ∃ v, e = .returned v ∧ OwnG w' w.heap.size v zs ∧ Below w.heap.size w w'
set_option maxHeartbeats 400000 in
theorem stepG_one {ops : Array Oper} {o : Oper} {a : Act} {K : Act → World → Prop} {Q : Exit → Act → World → Prop} {E : Prop} (hgd : o.guard = none) (s x : Operand)
    (ho : o.op = .call { callee := .builtin .append, args := #[s, x], argTypes := #[22, 22] }) (base : Nat) (W : World) (v : Value) (zs : List RgD) (z : RgD) (hs : a.eval s = v) (hown : OwnG W base v zs)
    (H : Nat) (hx : a.eval x = .slice (some ⟨H, 0, none⟩) 1 1) (hH : W.heap.size = H) (hlen : (zs.length + 1) * 32 ≤ 140737488355328) (hbase : base ≤ W.heap.size)
    (h : ∀ v' w', GrewG base W v zs [z] v' w' → K (a.put o.dst v') w') : if Region.wanted o (yielded ops a.tmps) = true then Oper.wp Tryd.prog o a (W.alloc (objG z)) K Q else E := by
  subst hH
  have hw : Region.wanted o (yielded ops a.tmps) = true := by simp [Region.wanted, hgd]
  rw [if_pos hw]
  obtain ⟨v', w', hr, hg⟩ := runG_row (ty := o.type) base W _ v zs [z] _ 1 1 (World.grownBy_alloc W (objG z) none) rfl hown (oneG_row W z) (by simpa using hlen) hbase
  unfold Oper.wp execOp
  simp only [ho, resolve, invoke, builtin, Sem.run_bind, Sem.run_pure, Result.andThen_ok, List.map_toArray, List.map_cons, List.map_nil, hs, hx, hr]
  exact h v' w' hg
/-- where the merging stands -/
structure MgI (w W : World) (X Y : List RgD) (v : Value) (zs : List RgD) (a : Option Addr) (xs : List RgD) (n c : Nat) (b : Option Addr) (ys : List RgD) (m d : Nat) : Prop where
  own : OwnG W w.heap.size v zs
  bel : Below w.heap.size w W
  rx : RowG w a xs
  ry : RowG w b ys
  nx : n = xs.length
  ny : m = ys.length
  cx : n ≤ c
  cy : m ≤ d
  tot : zs ++ mergeG xs ys = mergeG X Y
  len : (zs.length + xs.length + ys.length) * 32 ≤ 140737488355328
section
variable {w W : World} {X Y : List RgD} {v : Value} {zs : List RgD} {a : Option Addr} {xs : List RgD} {n c : Nat} {b : Option Addr} {ys : List RgD} {m d : Nat}
theorem MgI.drewN (h : MgI w W X Y v zs a xs n c b ys m d) (k : Nat) : MgI w (W.drewN k) X Y v zs a xs n c b ys m d := ⟨h.own, below_drewN h.bel k, h.rx, h.ry, h.nx, h.ny, h.cx, h.cy, h.tot, h.len⟩
theorem MgI.drew (h : MgI w W X Y v zs a xs n c b ys m d) : MgI w W.drew X Y v zs a xs n c b ys m d := ⟨h.own, h.bel.drew, h.rx, h.ry, h.nx, h.ny, h.cx, h.cy, h.tot, h.len⟩
theorem MgI.endL (h : MgI w W X Y v zs a [] n c b ys m d) {v' : Value} {w' : World} (hg : GrewG w.heap.size W v zs ys v' w') : RegsPost w (mergeG X Y) (.returned v') w' := by
  have e := h.tot
  rw [mergeG_nil_l] at e
  exact ⟨v', rfl, by rw [← e]; exact hg.own, hg.bel h.bel (Nat.le_refl _) h.bel.size⟩
theorem MgI.endR (h : MgI w W X Y v zs a xs n c b [] m d) {v' : Value} {w' : World} (hg : GrewG w.heap.size W v zs xs v' w') : RegsPost w (mergeG X Y) (.returned v') w' := by
  have e := h.tot
  rw [mergeG_nil_r] at e
  exact ⟨v', rfl, by rw [← e]; exact hg.own, hg.bel h.bel (Nat.le_refl _) h.bel.size⟩
theorem MgI.stepL {x y : RgD} {r s : List RgD} (h : MgI w W X Y v zs a (x :: r) n c b (y :: s) m d) (hp : x.p < y.p) {v' : Value} {w' : World} (hg : GrewG w.heap.size W v zs [x] v' w') : MgI w w' X Y v' (zs ++ [x]) (partG a 1 c) r (n - 1) (c - 1) b (y :: s) m d := by
  have e := h.tot
  have hn := h.nx
  have hc := h.cx
  have hl := h.len
  simp only [List.length_cons] at hn hl
  refine ⟨hg.own, hg.bel h.bel (Nat.le_refl _) h.bel.size, h.rx.rest 1 c (by simp only [List.length_cons]; omega), h.ry, by omega, h.ny, by omega, h.cy, ?_, by simp only [List.length_append, List.length_cons, List.length_nil]; omega⟩
  rw [mergeG_lt hp] at e
  rw [← e, List.append_assoc]
  rfl
theorem MgI.stepR {x y : RgD} {r s : List RgD} (h : MgI w W X Y v zs a (x :: r) n c b (y :: s) m d) (hp : y.p < x.p) {v' : Value} {w' : World} (hg : GrewG w.heap.size W v zs [y] v' w') : MgI w w' X Y v' (zs ++ [y]) a (x :: r) n c (partG b 1 d) s (m - 1) (d - 1) := by
  have e := h.tot
  have hn := h.ny
  have hc := h.cy
  have hl := h.len
  simp only [List.length_cons] at hn hl
  refine ⟨hg.own, hg.bel h.bel (Nat.le_refl _) h.bel.size, h.rx, h.ry.rest 1 d (by simp only [List.length_cons]; omega), h.nx, by omega, h.cx, by omega, ?_, by simp only [List.length_append, List.length_cons, List.length_nil]; omega⟩
  rw [mergeG_gt hp] at e
  rw [← e, List.append_assoc]
  rfl
theorem MgI.stepE {x y : RgD} {r s : List RgD} {W1 : World} (h : MgI w W X Y v zs a (x :: r) n c b (y :: s) m d) (hp : x.p = y.p) (hb : Below W.heap.size W W1) {v' : Value} {w' : World} (hg : GrewG w.heap.size W1 v zs [latG x y] v' w') : MgI w w' X Y v' (zs ++ [latG x y]) (partG a 1 c) r (n - 1) (c - 1) (partG b 1 d) s (m - 1) (d - 1) := by
  have e := h.tot
  have hn := h.nx
  have hc := h.cx
  have hm := h.ny
  have hd := h.cy
  have hl := h.len
  have hs := h.bel.size
  simp only [List.length_cons] at hn hm hl
  refine ⟨hg.own, hg.bel (h.bel.trans (hb.mono hs)) (Nat.le_refl _) (by have := hb.size; omega), h.rx.rest 1 c (by simp only [List.length_cons]; omega), h.ry.rest 1 d (by simp only [List.length_cons]; omega), by omega, by omega, by omega, by omega, ?_, by simp only [List.length_append, List.length_cons, List.length_nil]; omega⟩
  rw [mergeG_eq hp] at e
  rw [← e, List.append_assoc]
  rfl
end
def MgJ (w : World) (X Y : List RgD) (act : Act) (w' : World) : Prop :=
  ∃ (v : Value) (zs : List RgD) (a : Option Addr) (xs : List RgD) (n c : Nat) (b : Option Addr) (ys : List RgD) (m d : Nat) (u2 u3 u4 u6 u7 u8 u9 u10 u11 u12 u13 u14 u15 u16 u17 u18 u19 u20 u21 u22 u23 u24 u25 u26 u27 u28 u29 u30 u31 u32 u33 u34 u35 u36 u37 u38 u39 u40 u41 u42 u43 u44 u45 u46 u47 u48 u49 u50 u51 u52 u53 u54 u55 u56 u57 u58 u59 u60 u61 u62 u63 u64 u65 u66 u67 u68 u69 : Value), act = { tmps := #[.slice a n c, .slice b m d, u2, u3, u4, v, u6, u7, u8, u9, u10, u11, u12, u13, u14, u15, u16, u17, u18, u19, u20, u21, u22, u23, u24, u25, u26, u27, u28, u29, u30, u31, u32, u33, u34, u35, u36, u37, u38, u39, u40, u41, u42, u43, u44, u45, u46, u47, u48, u49, u50, u51, u52, u53, u54, u55, u56, u57, u58, u59, u60, u61, u62, u63, u64, u65, u66, u67, u68, u69], defers := [] } ∧ MgI w w' X Y v zs a xs n c b ys m d
theorem rg_at {w W : World} {b off : Nat} {x : RgD} {r : List RgD} (h : RowG w (some ⟨b, off, none⟩) (x :: r)) (hb : Below w.heap.size w W) : W.cell? ⟨b, off, none⟩ = some (.int .i64 x.p) ∧ W.cell? ⟨b, off + 1, none⟩ = some (.int .i64 x.v) ∧ W.cell? ⟨b, off + 2, none⟩ = some (.int .i64 x.t) ∧ W.cell? ⟨b, off + 3, none⟩ = some (.int .i64 x.r) := by
  obtain ⟨b', off', e, hc⟩ := (h.below hb (Nat.le_refl _)) 0 x rfl
  simp only [Option.some.injEq, Addr.mk.injEq] at e
  obtain ⟨rfl, rfl, _⟩ := e
  rw [Nat.zero_mul, Nat.add_zero] at hc
  exact ⟨hc.c0, hc.c1, hc.c2, hc.c3⟩
set_option maxHeartbeats 8000000 in
set_option maxRecDepth 100000 in
theorem merged_any (a : Option Addr) (X : List RgD) (n c : Nat) (b : Option Addr) (Y : List RgD) (m d : Nat) (w : World) (hx : RowG w a X) (hy : RowG w b Y) (hn : n = X.length) (hm : m = Y.length) (hc : n ≤ c) (hd : m ≤ d) (hl : (X.length + Y.length) * 32 ≤ 140737488355328) :
    Calls Tryd.prog 30 #[.slice a n c, .slice b m d] w (RegsPost w (mergeG X Y)) := by
  have mixed : Tryd.prog.follows .mixedOrders = true := by kernel_rfl
  have HI0 : Hid (MgI w w X Y (.slice none 0 0) [] a X n c b Y m d) := ⟨OwnG.nil _ _, Below.refl _ _, hx, hy, hn, hm, hc, hd, rfl, by simpa using hl⟩
  clear hx hy hn hm hc hd hl
  go_enter Tryd.func30, Tryd.ntmps30
  go_wp2
  refine wp_scope_jumps 0 (MgJ w X Y) (fun a' _ => lenOfG (a'.tmps.getD 0 undef) + lenOfG (a'.tmps.getD 1 undef)) rfl ?_ ?_
  · have HI := HI0
    clear HI0
    cases X with
    | nil =>
      obtain rfl : n = 0 := HI.out.nx
      go_wp2_with fail
      go_step3
      go_wp2_with (at_builtin
                   refine wpG_row rfl _ _ rfl w.heap.size w (.slice none 0 0) ([] : List RgD) Y b m d rfl HI.out.own rfl HI.out.ny (HI.out.ry.below HI.out.bel (Nat.le_refl _)) (by have := HI.out.len; simp only [List.length_nil] at this ⊢; omega) HI.out.bel.size ?_
                   intro v2 w2 hp2
                   have HE := Lib.hid (HI.out.endL hp2)
                   clear hp2)
      simp only [Exit.jump]
      go_ret
      exact HE.out
    | cons x r =>
      have hn0 : n = r.length + 1 := HI.out.nx
      have HN := Lib.hid hn0
      have hn1 : ¬ (n : Int) = 0 := by omega
      have hn2 : ((n : Int) == 0) = false := beq_eq_false_iff_ne.2 hn1
      have hn3 : (n == 0) = false := beq_eq_false_iff_ne.2 (by omega)
      have hn4 : (0 : Int) < (n : Int) := by omega
      have hn5 : 1 ≤ n := by omega
      have hn6 : 0 < n := by omega
      clear hn0
      cases Y with
      | nil =>
        obtain rfl : m = 0 := HI.out.ny
        go_wp2_with fail
        go_step3
        go_wp2_with (at_builtin
                     refine wpG_row rfl _ _ rfl w.heap.size w (.slice none 0 0) ([] : List RgD) (x :: r) a n c rfl HI.out.own rfl HI.out.nx (HI.out.rx.below HI.out.bel (Nat.le_refl _)) (by have := HI.out.len; simp only [List.length_nil, List.length_cons] at this ⊢; omega) HI.out.bel.size ?_
                     intro v2 w2 hp2
                     have HE := Lib.hid (HI.out.endR hp2)
                     clear hp2)
        simp only [Exit.jump]
        go_ret
        exact HE.out
      | cons y s =>
        have hm0 : m = s.length + 1 := HI.out.ny
        have HM := Lib.hid hm0
        have hm1 : ¬ (m : Int) = 0 := by omega
        have hm2 : ((m : Int) == 0) = false := beq_eq_false_iff_ne.2 hm1
        have hm3 : (m == 0) = false := beq_eq_false_iff_ne.2 (by omega)
        have hm4 : (0 : Int) < (m : Int) := by omega
        have hm5 : 1 ≤ m := by omega
        have hm6 : 0 < m := by omega
        clear hm0
        obtain ⟨b1, o1, rfl, -⟩ := HI.out.rx 0 x rfl
        obtain ⟨b2, o2, rfl, -⟩ := HI.out.ry 0 y rfl
        have HK : Hid (∀ W, Below w.heap.size w W → (W.cell? ⟨b1, o1, none⟩ = some (.int .i64 x.p) ∧ W.cell? ⟨b1, o1 + 1, none⟩ = some (.int .i64 x.v) ∧ W.cell? ⟨b1, o1 + 2, none⟩ = some (.int .i64 x.t) ∧ W.cell? ⟨b1, o1 + 3, none⟩ = some (.int .i64 x.r)) ∧ (W.cell? ⟨b2, o2, none⟩ = some (.int .i64 y.p) ∧ W.cell? ⟨b2, o2 + 1, none⟩ = some (.int .i64 y.v) ∧ W.cell? ⟨b2, o2 + 2, none⟩ = some (.int .i64 y.t) ∧ W.cell? ⟨b2, o2 + 3, none⟩ = some (.int .i64 y.r))) := fun W hB => ⟨rg_at HI.out.rx hB, rg_at HI.out.ry hB⟩
        have hs1 : ∀ W, (Instr.slice 22 (.slice (some ⟨b1, o1, none⟩) n c) (some (.int .i64 1)) none none).run Tryd.prog W = .ok (.slice (partG (some ⟨b1, o1, none⟩) 1 c) (n - 1) (c - 1)) W := fun W => sliceG_l W _ n c 1 1 rfl hn5
        have hs2 : ∀ W, (Instr.slice 22 (.slice (some ⟨b2, o2, none⟩) m d) (some (.int .i64 1)) none none).run Tryd.prog W = .ok (.slice (partG (some ⟨b2, o2, none⟩) 1 d) (m - 1) (d - 1)) W := fun W => sliceG_l W _ m d 1 1 rfl hm5
        have hL : (([] : List RgD).length + 1) * 32 ≤ 140737488355328 := by have := HI.out.len; simp only [List.length_cons] at this; omega
        have HLEN := Lib.hid hL
        clear hL
        obtain ⟨⟨e0, e1, e2, e3⟩, d0, d1, d2, d3⟩ := HK.out _ HI.out.bel
        rcases Int.lt_trichotomy x.p y.p with hlt | heq | hgt
        · have HLT := Lib.hid hlt
          have hxd : decide (x.p < y.p) = true := decide_eq_true hlt
          go_wp2_with fail
          go_step3
          go_wp2_with fail
          go_quiet (fail)
          have HI1 := Lib.hid (HI.out.drewN nq)
          generalize w.drewN nq = wq at *
          clear HI e0 e1 e2 e3 d0 d1 d2 d3
          have HI := HI1
          clear HI1
          go_wp2_with fail
          obtain ⟨⟨e0, e1, e2, e3⟩, d0, d1, d2, d3⟩ := HK.out _ HI.out.bel
          obtain ⟨⟨h0, h1, h2, h3⟩, h4, h5, h6, h7⟩ := HK.out wq.drew HI.out.bel.drew
          obtain ⟨⟨a0, a1, a2, a3⟩, a4, a5, a6, a7⟩ := HK.out (wq.alloc (objG x)).drew (HI.out.bel.trans ((bel1 wq (objG x)).mono HI.out.bel.size)).drew
          have HT := Lib.hid (fun (v2 : Value) (w2 : World) => MgI.stepL (v' := v2) (w' := w2) (HI.out.drew) HLT.out)
          clear hxd hlt
          go_region_held3 (fun W => W.cell? ⟨b1, o1, none⟩ = some (.int .i64 x.p) ∧ W.cell? ⟨b1, o1 + 1, none⟩ = some (.int .i64 x.v) ∧ W.cell? ⟨b1, o1 + 2, none⟩ = some (.int .i64 x.t) ∧ W.cell? ⟨b1, o1 + 3, none⟩ = some (.int .i64 x.r) ∧ W.cell? ⟨b2, o2, none⟩ = some (.int .i64 y.p) ∧ W.cell? ⟨b2, o2 + 1, none⟩ = some (.int .i64 y.v) ∧ W.cell? ⟨b2, o2 + 2, none⟩ = some (.int .i64 y.t) ∧ W.cell? ⟨b2, o2 + 3, none⟩ = some (.int .i64 y.r)) (first | exact ⟨by assumption, by assumption, by assumption, by assumption, by assumption, by assumption, by assumption, by assumption⟩) (first
          | (refine stepG_one (by rfl) _ _ (by rfl) w.heap.size wq.drew (.slice none 0 0) ([] : List RgD) x (by rfl) HI.out.own _ (by rfl) (by rfl) HLEN.out HI.out.bel.size ?_
             intro v2 w2 hp2
             have HQ := Lib.hid (HT.out _ _ hp2)
             obtain ⟨⟨q0, q1, q2, q3⟩, r0, r1, r2, r3⟩ := HK.out _ HQ.out.bel
             clear hp2))
          go_wp2_with fail
          go_step3
          exact ⟨rfl, _, _, _, _, _, _, _, _, _, _, _, _, _, _, _, _, _, _, _, _, _, _, _, _, _, _, _, _, _, _, _, _, _, _, _, _, _, _, _, _, _, _, _, _, _, _, _, _, _, _, _, _, _, _, _, _, _, _, _, _, _, _, _, _, _, _, _, _, _, _, _, _, _, _, _, _, _, rfl, HQ.out⟩
        · have HEQ := Lib.hid heq
          have hxd : decide (x.p < y.p) = false := decide_eq_false (by omega)
          have hyd : decide (y.p < x.p) = false := decide_eq_false (by omega)
          have hnl : ¬ x.p < y.p := by omega
          have hng : ¬ y.p < x.p := by omega
          clear heq
          go_wp2_with fail
          go_step3
          go_wp2_with fail
          go_quiet (fail)
          have HI1 := Lib.hid (HI.out.drewN nq)
          generalize w.drewN nq = wq at *
          clear HI e0 e1 e2 e3 d0 d1 d2 d3
          have HI := HI1
          clear HI1
          go_wp2_with fail
          obtain ⟨⟨e0, e1, e2, e3⟩, d0, d1, d2, d3⟩ := HK.out _ HI.out.bel
          go_quiet (fail)
          have HI1 := Lib.hid (HI.out.drewN nq)
          generalize wq.drewN nq = wp at *
          clear HI e0 e1 e2 e3 d0 d1 d2 d3
          have HI := HI1
          clear HI1
          go_wp2_with fail
          obtain ⟨⟨e0, e1, e2, e3⟩, d0, d1, d2, d3⟩ := HK.out _ HI.out.bel
          obtain ⟨⟨h0, h1, h2, h3⟩, h4, h5, h6, h7⟩ := HK.out wp.drew HI.out.bel.drew
          have C := Lib.hid (fun W => later_any x y W)
          have HLAT : Hid (latG x y = latG x y) := rfl
          clear hxd hyd hnl hng
          go_region_held3 (fun W => W.cell? ⟨b1, o1, none⟩ = some (.int .i64 x.p) ∧ W.cell? ⟨b1, o1 + 1, none⟩ = some (.int .i64 x.v) ∧ W.cell? ⟨b1, o1 + 2, none⟩ = some (.int .i64 x.t) ∧ W.cell? ⟨b1, o1 + 3, none⟩ = some (.int .i64 x.r) ∧ W.cell? ⟨b2, o2, none⟩ = some (.int .i64 y.p) ∧ W.cell? ⟨b2, o2 + 1, none⟩ = some (.int .i64 y.v) ∧ W.cell? ⟨b2, o2 + 2, none⟩ = some (.int .i64 y.t) ∧ W.cell? ⟨b2, o2 + 3, none⟩ = some (.int .i64 y.r)) (first | exact ⟨by assumption, by assumption, by assumption, by assumption, by assumption, by assumption, by assumption, by assumption⟩) (first
          | (go_at_call 36
             (with_reducible refine (C.out _).mono ?_)
             rintro e w8 ⟨rfl, hb8⟩
             have HB8 : Hid (Below wp.heap.size wp w8) := (Below.refl _ _).drew.trans hb8
             have HT := Lib.hid (fun (v2 : Value) (w2 : World) => MgI.stepE (v' := v2) (w' := w2) (HI.out) HEQ.out HB8.out)
             obtain ⟨⟨b0, b1', b2', b3⟩, b4, b5, b6, b7⟩ := HK.out w8 (HI.out.bel.trans (HB8.out.mono HI.out.bel.size))
             obtain ⟨⟨a0, a1, a2, a3⟩, a4, a5, a6, a7⟩ := HK.out (w8.alloc (objG (latG x y))) ((HI.out.bel.trans (HB8.out.mono HI.out.bel.size)).trans ((bel1 w8 (objG (latG x y))).mono (Nat.le_trans HI.out.bel.size HB8.out.size)))
             clear hb8)
          | (refine stepG_one (by rfl) _ _ (by rfl) w.heap.size w8 (.slice none 0 0) ([] : List RgD) (latG x y) (by rfl) (HI.out.own.below HB8.out) _ (by rfl) (by rfl) HLEN.out (Nat.le_trans HI.out.bel.size HB8.out.size) ?_
             intro v2 w2 hp2
             have HQ := Lib.hid (HT.out _ _ hp2)
             obtain ⟨⟨q0, q1, q2, q3⟩, r0, r1, r2, r3⟩ := HK.out _ HQ.out.bel
             clear hp2))
          all_goals (
            go_wp2_with fail
            go_step3
            exact ⟨rfl, _, _, _, _, _, _, _, _, _, _, _, _, _, _, _, _, _, _, _, _, _, _, _, _, _, _, _, _, _, _, _, _, _, _, _, _, _, _, _, _, _, _, _, _, _, _, _, _, _, _, _, _, _, _, _, _, _, _, _, _, _, _, _, _, _, _, _, _, _, _, _, _, _, _, _, _, _, rfl, HQ.out⟩)
        · have HGT := Lib.hid hgt
          have hxd : decide (x.p < y.p) = false := decide_eq_false (by omega)
          have hyd : decide (y.p < x.p) = true := decide_eq_true hgt
          have hnl : ¬ x.p < y.p := by omega
          go_wp2_with fail
          go_step3
          go_wp2_with fail
          go_quiet (fail)
          have HI1 := Lib.hid (HI.out.drewN nq)
          generalize w.drewN nq = wq at *
          clear HI e0 e1 e2 e3 d0 d1 d2 d3
          have HI := HI1
          clear HI1
          go_wp2_with fail
          obtain ⟨⟨e0, e1, e2, e3⟩, d0, d1, d2, d3⟩ := HK.out _ HI.out.bel
          go_quiet (fail)
          have HI1 := Lib.hid (HI.out.drewN nq)
          generalize wq.drewN nq = wp at *
          clear HI e0 e1 e2 e3 d0 d1 d2 d3
          have HI := HI1
          clear HI1
          go_wp2_with fail
          obtain ⟨⟨e0, e1, e2, e3⟩, d0, d1, d2, d3⟩ := HK.out _ HI.out.bel
          obtain ⟨⟨h0, h1, h2, h3⟩, h4, h5, h6, h7⟩ := HK.out wp.drew HI.out.bel.drew
          obtain ⟨⟨a0, a1, a2, a3⟩, a4, a5, a6, a7⟩ := HK.out (wp.alloc (objG y)).drew (HI.out.bel.trans ((bel1 wp (objG y)).mono HI.out.bel.size)).drew
          have HT := Lib.hid (fun (v2 : Value) (w2 : World) => MgI.stepR (v' := v2) (w' := w2) (HI.out.drew) HGT.out)
          clear hxd hyd hgt hnl
          go_region_held3 (fun W => W.cell? ⟨b1, o1, none⟩ = some (.int .i64 x.p) ∧ W.cell? ⟨b1, o1 + 1, none⟩ = some (.int .i64 x.v) ∧ W.cell? ⟨b1, o1 + 2, none⟩ = some (.int .i64 x.t) ∧ W.cell? ⟨b1, o1 + 3, none⟩ = some (.int .i64 x.r) ∧ W.cell? ⟨b2, o2, none⟩ = some (.int .i64 y.p) ∧ W.cell? ⟨b2, o2 + 1, none⟩ = some (.int .i64 y.v) ∧ W.cell? ⟨b2, o2 + 2, none⟩ = some (.int .i64 y.t) ∧ W.cell? ⟨b2, o2 + 3, none⟩ = some (.int .i64 y.r)) (first | exact ⟨by assumption, by assumption, by assumption, by assumption, by assumption, by assumption, by assumption, by assumption⟩) (first
          | (refine stepG_one (by rfl) _ _ (by rfl) w.heap.size wp.drew (.slice none 0 0) ([] : List RgD) y (by rfl) HI.out.own _ (by rfl) (by rfl) HLEN.out HI.out.bel.size ?_
             intro v2 w2 hp2
             have HQ := Lib.hid (HT.out _ _ hp2)
             obtain ⟨⟨q0, q1, q2, q3⟩, r0, r1, r2, r3⟩ := HK.out _ HQ.out.bel
             clear hp2))
          go_wp2_with fail
          go_step3
          exact ⟨rfl, _, _, _, _, _, _, _, _, _, _, _, _, _, _, _, _, _, _, _, _, _, _, _, _, _, _, _, _, _, _, _, _, _, _, _, _, _, _, _, _, _, _, _, _, _, _, _, _, _, _, _, _, _, _, _, _, _, _, _, _, _, _, _, _, _, _, _, _, _, _, _, _, _, _, _, _, _, rfl, HQ.out⟩
  · rintro a' w' ⟨v, zs, a, xs, n, c, b, ys, m, d, u2, u3, u4, u6, u7, u8, u9, u10, u11, u12, u13, u14, u15, u16, u17, u18, u19, u20, u21, u22, u23, u24, u25, u26, u27, u28, u29, u30, u31, u32, u33, u34, u35, u36, u37, u38, u39, u40, u41, u42, u43, u44, u45, u46, u47, u48, u49, u50, u51, u52, u53, u54, u55, u56, u57, u58, u59, u60, u61, u62, u63, u64, u65, u66, u67, u68, u69, rfl, hI⟩
    have HI := Lib.hid hI
    clear hI HI0
    cases xs with
    | nil =>
      obtain rfl : n = 0 := HI.out.nx
      go_wp2_with (at_builtin
                   refine wpG_row rfl _ _ rfl w.heap.size w' v zs ys b m d rfl HI.out.own rfl HI.out.ny (HI.out.ry.below HI.out.bel (Nat.le_refl _)) (by have := HI.out.len; simp only [List.length_nil] at this ⊢; omega) HI.out.bel.size ?_
                   intro v2 w2 hp2
                   have HE := Lib.hid (HI.out.endL hp2)
                   clear hp2)
      simp only [Exit.jump]
      go_ret
      exact HE.out
    | cons x r =>
      have hn0 : n = r.length + 1 := HI.out.nx
      have HN := Lib.hid hn0
      have hn1 : ¬ (n : Int) = 0 := by omega
      have hn2 : ((n : Int) == 0) = false := beq_eq_false_iff_ne.2 hn1
      have hn3 : (n == 0) = false := beq_eq_false_iff_ne.2 (by omega)
      have hn4 : (0 : Int) < (n : Int) := by omega
      have hn5 : 1 ≤ n := by omega
      have hn6 : 0 < n := by omega
      clear hn0
      cases ys with
      | nil =>
        obtain rfl : m = 0 := HI.out.ny
        go_wp2_with (at_builtin
                     refine wpG_row rfl _ _ rfl w.heap.size w' v zs (x :: r) a n c rfl HI.out.own rfl HI.out.nx (HI.out.rx.below HI.out.bel (Nat.le_refl _)) (by have := HI.out.len; simp only [List.length_nil, List.length_cons] at this ⊢; omega) HI.out.bel.size ?_
                     intro v2 w2 hp2
                     have HE := Lib.hid (HI.out.endR hp2)
                     clear hp2)
        simp only [Exit.jump]
        go_ret
        exact HE.out
      | cons y s =>
        have hm0 : m = s.length + 1 := HI.out.ny
        have HM := Lib.hid hm0
        have hm1 : ¬ (m : Int) = 0 := by omega
        have hm2 : ((m : Int) == 0) = false := beq_eq_false_iff_ne.2 hm1
        have hm3 : (m == 0) = false := beq_eq_false_iff_ne.2 (by omega)
        have hm4 : (0 : Int) < (m : Int) := by omega
        have hm5 : 1 ≤ m := by omega
        have hm6 : 0 < m := by omega
        clear hm0
        obtain ⟨b1, o1, rfl, -⟩ := HI.out.rx 0 x rfl
        obtain ⟨b2, o2, rfl, -⟩ := HI.out.ry 0 y rfl
        have HK : Hid (∀ W, Below w.heap.size w W → (W.cell? ⟨b1, o1, none⟩ = some (.int .i64 x.p) ∧ W.cell? ⟨b1, o1 + 1, none⟩ = some (.int .i64 x.v) ∧ W.cell? ⟨b1, o1 + 2, none⟩ = some (.int .i64 x.t) ∧ W.cell? ⟨b1, o1 + 3, none⟩ = some (.int .i64 x.r)) ∧ (W.cell? ⟨b2, o2, none⟩ = some (.int .i64 y.p) ∧ W.cell? ⟨b2, o2 + 1, none⟩ = some (.int .i64 y.v) ∧ W.cell? ⟨b2, o2 + 2, none⟩ = some (.int .i64 y.t) ∧ W.cell? ⟨b2, o2 + 3, none⟩ = some (.int .i64 y.r))) := fun W hB => ⟨rg_at HI.out.rx hB, rg_at HI.out.ry hB⟩
        have hs1 : ∀ W, (Instr.slice 22 (.slice (some ⟨b1, o1, none⟩) n c) (some (.int .i64 1)) none none).run Tryd.prog W = .ok (.slice (partG (some ⟨b1, o1, none⟩) 1 c) (n - 1) (c - 1)) W := fun W => sliceG_l W _ n c 1 1 rfl hn5
        have hs2 : ∀ W, (Instr.slice 22 (.slice (some ⟨b2, o2, none⟩) m d) (some (.int .i64 1)) none none).run Tryd.prog W = .ok (.slice (partG (some ⟨b2, o2, none⟩) 1 d) (m - 1) (d - 1)) W := fun W => sliceG_l W _ m d 1 1 rfl hm5
        have hL : (zs.length + 1) * 32 ≤ 140737488355328 := by have := HI.out.len; simp only [List.length_cons] at this; omega
        have HLEN := Lib.hid hL
        clear hL
        obtain ⟨⟨e0, e1, e2, e3⟩, d0, d1, d2, d3⟩ := HK.out _ HI.out.bel
        rcases Int.lt_trichotomy x.p y.p with hlt | heq | hgt
        · have HLT := Lib.hid hlt
          have hxd : decide (x.p < y.p) = true := decide_eq_true hlt
          go_wp2_with fail
          go_quiet (fail)
          have HI1 := Lib.hid (HI.out.drewN nq)
          generalize w'.drewN nq = wq at *
          clear HI e0 e1 e2 e3 d0 d1 d2 d3
          have HI := HI1
          clear HI1
          go_wp2_with fail
          obtain ⟨⟨e0, e1, e2, e3⟩, d0, d1, d2, d3⟩ := HK.out _ HI.out.bel
          obtain ⟨⟨h0, h1, h2, h3⟩, h4, h5, h6, h7⟩ := HK.out wq.drew HI.out.bel.drew
          obtain ⟨⟨a0, a1, a2, a3⟩, a4, a5, a6, a7⟩ := HK.out (wq.alloc (objG x)).drew (HI.out.bel.trans ((bel1 wq (objG x)).mono HI.out.bel.size)).drew
          have HT := Lib.hid (fun (v2 : Value) (w2 : World) => MgI.stepL (v' := v2) (w' := w2) (HI.out.drew) HLT.out)
          clear hxd hlt
          go_region_held3 (fun W => W.cell? ⟨b1, o1, none⟩ = some (.int .i64 x.p) ∧ W.cell? ⟨b1, o1 + 1, none⟩ = some (.int .i64 x.v) ∧ W.cell? ⟨b1, o1 + 2, none⟩ = some (.int .i64 x.t) ∧ W.cell? ⟨b1, o1 + 3, none⟩ = some (.int .i64 x.r) ∧ W.cell? ⟨b2, o2, none⟩ = some (.int .i64 y.p) ∧ W.cell? ⟨b2, o2 + 1, none⟩ = some (.int .i64 y.v) ∧ W.cell? ⟨b2, o2 + 2, none⟩ = some (.int .i64 y.t) ∧ W.cell? ⟨b2, o2 + 3, none⟩ = some (.int .i64 y.r)) (first | exact ⟨by assumption, by assumption, by assumption, by assumption, by assumption, by assumption, by assumption, by assumption⟩) (first
          | (refine stepG_one (by rfl) _ _ (by rfl) w.heap.size wq.drew v zs x (by rfl) HI.out.own _ (by rfl) (by rfl) HLEN.out HI.out.bel.size ?_
             intro v2 w2 hp2
             have HQ := Lib.hid (HT.out _ _ hp2)
             obtain ⟨⟨q0, q1, q2, q3⟩, r0, r1, r2, r3⟩ := HK.out _ HQ.out.bel
             clear hp2))
          go_wp2_with fail
          go_step3
          refine ⟨rfl, ⟨_, _, _, _, _, _, _, _, _, _, _, _, _, _, _, _, _, _, _, _, _, _, _, _, _, _, _, _, _, _, _, _, _, _, _, _, _, _, _, _, _, _, _, _, _, _, _, _, _, _, _, _, _, _, _, _, _, _, _, _, _, _, _, _, _, _, _, _, _, _, _, _, _, _, _, _, _, rfl, HQ.out⟩, ?_⟩
          simp only [lenOfG, Array.getD_eq_getD_getElem?, List.getElem?_toArray, List.getElem?_cons_zero, List.getElem?_cons_succ, Option.getD_some]
          omega
        · have HEQ := Lib.hid heq
          have hxd : decide (x.p < y.p) = false := decide_eq_false (by omega)
          have hyd : decide (y.p < x.p) = false := decide_eq_false (by omega)
          have hnl : ¬ x.p < y.p := by omega
          have hng : ¬ y.p < x.p := by omega
          clear heq
          go_wp2_with fail
          go_quiet (fail)
          have HI1 := Lib.hid (HI.out.drewN nq)
          generalize w'.drewN nq = wq at *
          clear HI e0 e1 e2 e3 d0 d1 d2 d3
          have HI := HI1
          clear HI1
          go_wp2_with fail
          obtain ⟨⟨e0, e1, e2, e3⟩, d0, d1, d2, d3⟩ := HK.out _ HI.out.bel
          go_quiet (fail)
          have HI1 := Lib.hid (HI.out.drewN nq)
          generalize wq.drewN nq = wp at *
          clear HI e0 e1 e2 e3 d0 d1 d2 d3
          have HI := HI1
          clear HI1
          go_wp2_with fail
          obtain ⟨⟨e0, e1, e2, e3⟩, d0, d1, d2, d3⟩ := HK.out _ HI.out.bel
          obtain ⟨⟨h0, h1, h2, h3⟩, h4, h5, h6, h7⟩ := HK.out wp.drew HI.out.bel.drew
          have C := Lib.hid (fun W => later_any x y W)
          have HLAT : Hid (latG x y = latG x y) := rfl
          clear hxd hyd hnl hng
          go_region_held3 (fun W => W.cell? ⟨b1, o1, none⟩ = some (.int .i64 x.p) ∧ W.cell? ⟨b1, o1 + 1, none⟩ = some (.int .i64 x.v) ∧ W.cell? ⟨b1, o1 + 2, none⟩ = some (.int .i64 x.t) ∧ W.cell? ⟨b1, o1 + 3, none⟩ = some (.int .i64 x.r) ∧ W.cell? ⟨b2, o2, none⟩ = some (.int .i64 y.p) ∧ W.cell? ⟨b2, o2 + 1, none⟩ = some (.int .i64 y.v) ∧ W.cell? ⟨b2, o2 + 2, none⟩ = some (.int .i64 y.t) ∧ W.cell? ⟨b2, o2 + 3, none⟩ = some (.int .i64 y.r)) (first | exact ⟨by assumption, by assumption, by assumption, by assumption, by assumption, by assumption, by assumption, by assumption⟩) (first
          | (go_at_call 36
             (with_reducible refine (C.out _).mono ?_)
             rintro e w8 ⟨rfl, hb8⟩
             have HB8 : Hid (Below wp.heap.size wp w8) := (Below.refl _ _).drew.trans hb8
             have HT := Lib.hid (fun (v2 : Value) (w2 : World) => MgI.stepE (v' := v2) (w' := w2) (HI.out) HEQ.out HB8.out)
             obtain ⟨⟨b0, b1', b2', b3⟩, b4, b5, b6, b7⟩ := HK.out w8 (HI.out.bel.trans (HB8.out.mono HI.out.bel.size))
             obtain ⟨⟨a0, a1, a2, a3⟩, a4, a5, a6, a7⟩ := HK.out (w8.alloc (objG (latG x y))) ((HI.out.bel.trans (HB8.out.mono HI.out.bel.size)).trans ((bel1 w8 (objG (latG x y))).mono (Nat.le_trans HI.out.bel.size HB8.out.size)))
             clear hb8)
          | (refine stepG_one (by rfl) _ _ (by rfl) w.heap.size w8 v zs (latG x y) (by rfl) (HI.out.own.below HB8.out) _ (by rfl) (by rfl) HLEN.out (Nat.le_trans HI.out.bel.size HB8.out.size) ?_
             intro v2 w2 hp2
             have HQ := Lib.hid (HT.out _ _ hp2)
             obtain ⟨⟨q0, q1, q2, q3⟩, r0, r1, r2, r3⟩ := HK.out _ HQ.out.bel
             clear hp2))
          all_goals (
            go_wp2_with fail
            go_step3
            refine ⟨rfl, ⟨_, _, _, _, _, _, _, _, _, _, _, _, _, _, _, _, _, _, _, _, _, _, _, _, _, _, _, _, _, _, _, _, _, _, _, _, _, _, _, _, _, _, _, _, _, _, _, _, _, _, _, _, _, _, _, _, _, _, _, _, _, _, _, _, _, _, _, _, _, _, _, _, _, _, _, _, _, rfl, HQ.out⟩, ?_⟩
            simp only [lenOfG, Array.getD_eq_getD_getElem?, List.getElem?_toArray, List.getElem?_cons_zero, List.getElem?_cons_succ, Option.getD_some]
            omega)
        · have HGT := Lib.hid hgt
          have hxd : decide (x.p < y.p) = false := decide_eq_false (by omega)
          have hyd : decide (y.p < x.p) = true := decide_eq_true hgt
          have hnl : ¬ x.p < y.p := by omega
          go_wp2_with fail
          go_quiet (fail)
          have HI1 := Lib.hid (HI.out.drewN nq)
          generalize w'.drewN nq = wq at *
          clear HI e0 e1 e2 e3 d0 d1 d2 d3
          have HI := HI1
          clear HI1
          go_wp2_with fail
          obtain ⟨⟨e0, e1, e2, e3⟩, d0, d1, d2, d3⟩ := HK.out _ HI.out.bel
          go_quiet (fail)
          have HI1 := Lib.hid (HI.out.drewN nq)
          generalize wq.drewN nq = wp at *
          clear HI e0 e1 e2 e3 d0 d1 d2 d3
          have HI := HI1
          clear HI1
          go_wp2_with fail
          obtain ⟨⟨e0, e1, e2, e3⟩, d0, d1, d2, d3⟩ := HK.out _ HI.out.bel
          obtain ⟨⟨h0, h1, h2, h3⟩, h4, h5, h6, h7⟩ := HK.out wp.drew HI.out.bel.drew
          obtain ⟨⟨a0, a1, a2, a3⟩, a4, a5, a6, a7⟩ := HK.out (wp.alloc (objG y)).drew (HI.out.bel.trans ((bel1 wp (objG y)).mono HI.out.bel.size)).drew
          have HT := Lib.hid (fun (v2 : Value) (w2 : World) => MgI.stepR (v' := v2) (w' := w2) (HI.out.drew) HGT.out)
          clear hxd hyd hgt hnl
          go_region_held3 (fun W => W.cell? ⟨b1, o1, none⟩ = some (.int .i64 x.p) ∧ W.cell? ⟨b1, o1 + 1, none⟩ = some (.int .i64 x.v) ∧ W.cell? ⟨b1, o1 + 2, none⟩ = some (.int .i64 x.t) ∧ W.cell? ⟨b1, o1 + 3, none⟩ = some (.int .i64 x.r) ∧ W.cell? ⟨b2, o2, none⟩ = some (.int .i64 y.p) ∧ W.cell? ⟨b2, o2 + 1, none⟩ = some (.int .i64 y.v) ∧ W.cell? ⟨b2, o2 + 2, none⟩ = some (.int .i64 y.t) ∧ W.cell? ⟨b2, o2 + 3, none⟩ = some (.int .i64 y.r)) (first | exact ⟨by assumption, by assumption, by assumption, by assumption, by assumption, by assumption, by assumption, by assumption⟩) (first
          | (refine stepG_one (by rfl) _ _ (by rfl) w.heap.size wp.drew v zs y (by rfl) HI.out.own _ (by rfl) (by rfl) HLEN.out HI.out.bel.size ?_
             intro v2 w2 hp2
             have HQ := Lib.hid (HT.out _ _ hp2)
             obtain ⟨⟨q0, q1, q2, q3⟩, r0, r1, r2, r3⟩ := HK.out _ HQ.out.bel
             clear hp2))
          go_wp2_with fail
          go_step3
          refine ⟨rfl, ⟨_, _, _, _, _, _, _, _, _, _, _, _, _, _, _, _, _, _, _, _, _, _, _, _, _, _, _, _, _, _, _, _, _, _, _, _, _, _, _, _, _, _, _, _, _, _, _, _, _, _, _, _, _, _, _, _, _, _, _, _, _, _, _, _, _, _, _, _, _, _, _, _, _, _, _, _, _, rfl, HQ.out⟩, ?_⟩
          simp only [lenOfG, Array.getD_eq_getD_getElem?, List.getElem?_toArray, List.getElem?_cons_zero, List.getElem?_cons_succ, Option.getD_some]
          omega
end Go.Proofs.YtjpjjckokonkpaaDoor
