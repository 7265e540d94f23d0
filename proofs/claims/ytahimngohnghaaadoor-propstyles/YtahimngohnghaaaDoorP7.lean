/- Plain of the page; two styles held against each other. -/
import Derived.Test.YtahimngohnghaaaDoorQ1
import Derived.Deep.RegionLaw
import Derived.BigRegion
namespace Go.Proofs.YtahimngohnghaaaDoor
open Go.RowKit Go.Lib
set_option linter.unusedVariables false

theorem take_getD (zs : List Int) (k : Nat) (h : k < zs.length) : zs.take (k + 1) = zs.take k ++ [zs.getD k 0] := by
  rw [List.take_add_one, List.getElem?_eq_getElem h, List.getD_eq_getElem?_getD, List.getElem?_eq_getElem h]
  rfl
set_option maxHeartbeats 400000 in
theorem stepI_one {ops : Array Oper} {o : Oper} {a : Act} {K : Act → World → Prop} {Q : Exit → Act → World → Prop} {E : Prop} (hgd : o.guard = none) (s x : Operand)
    (ho : o.op = .call { callee := .builtin .append, args := #[s, x], argTypes := #[23, 23] }) (base : Nat) (W : World) (v : Value) (zs : List Int) (z : Int) (hs : a.eval s = v) (hown : OwnK .i64 3 W base v zs)
    (hx : a.eval x = .slice (some ⟨W.heap.size, 0, none⟩) 1 1) (hlen : (zs.length + 1) * 8 ≤ 140737488355328) (hbase : base ≤ W.heap.size)
    (h : ∀ v' w', Grew .i64 3 base W v zs [z] v' w' → K (a.put o.dst v') w') : if Region.wanted o (yielded ops a.tmps) = true then Oper.wp Tryd.prog o a (W.alloc (.cells #[.int .i64 z] 3)) K Q else E := by
  have hw : Region.wanted o (yielded ops a.tmps) = true := by simp [Region.wanted, hgd]
  rw [if_pos hw]
  obtain ⟨v', w', hr, hg⟩ := run_row (t := 23) (ty := o.type) (bytes := 8) (fun _ => rfl) Tryd.underlying23 Tryd.info3 base W _ v zs [z] _ 1 1 ((Below.refl W.heap.size W).alloc (Nat.le_refl _) _) rfl hown (one_row .i64 3 W z) (by simpa using hlen) (by simp; omega) hbase
  unfold Oper.wp execOp
  simp only [ho, resolve, invoke, builtin, Sem.run_bind, Sem.run_pure, Result.andThen_ok, List.map_toArray, List.map_cons, List.map_nil, hs, hx, hr]
  exact h v' w' hg

/-- while the page's row grows -/
structure RpI (w wr : World) (k : Nat) (v : Value) : Prop where
  own : OwnK .i64 3 wr (w.heap.size + 2) v (usL.take k)
  res : One wr w.heap.size (.slice none 0 0)
  cell : One wr (w.heap.size + 1) v
  bel : Below w.heap.size w wr
  size : w.heap.size + 2 ≤ wr.heap.size
theorem RpI.start (w : World) : RpI w ((w.alloc (.cells #[.slice none 0 0] 25)).alloc (.cells #[.slice none 0 0] 25)) 0 (.slice none 0 0) := by
  have h1 : Below w.heap.size w (w.alloc (.cells #[.slice none 0 0] 25)) := (Below.refl _ _).alloc (Nat.le_refl _) _
  refine ⟨OwnK.nil _ _ _ _, (One.new w _ 25).next ((Below.refl _ _).alloc (Nat.le_refl _) _), ?_, h1.alloc h1.size _, by simp⟩
  have := One.new (w.alloc (.cells #[.slice none 0 0] 25)) (.slice none 0 0) 25
  rw [show (w.alloc (.cells #[.slice none 0 0] 25)).heap.size = w.heap.size + 1 from by simp] at this
  exact this
theorem RpI.next {w wr w2 : World} {k : Nat} {v v2 : Value} (h : RpI w wr k v) (hk : k < 19) (hg : Grew .i64 3 (w.heap.size + 2) wr v (usL.take k) [usT k] v2 w2) :
    One w2 (w.heap.size + 1) v ∧ RpI w (w2.setCell ⟨w.heap.size + 1, 0, none⟩ v2) (k + 1) v2 := by
  have hb : Below (w.heap.size + 2) wr w2 := hg.bel _ _ (Below.refl _ _) (Nat.le_refl _) h.size
  have hb0 : Below w.heap.size w w2 := hg.bel _ _ h.bel (by omega) (by have := h.size; omega)
  have hc := h.cell.below hb (by omega)
  have hr := h.res.below hb (by omega)
  have ho := hg.own
  rw [show [usT k] = [usL.getD k 0] from rfl, ← take_getD usL k hk] at ho
  exact ⟨hc, ho.setOther (by omega) _, hr.other (by omega) _, hc.set_ _, hb0.setCell (p := ⟨w.heap.size + 1, 0, none⟩) (by simp only; omega) _, by have h1 := h.size; have h2 := hg.size; simp; omega⟩
theorem one_drewN {w : World} {g : Nat} {v : Value} (h : One w g v) (n : Nat) : One (w.drewN n) g v := ⟨h.c, h.f⟩
theorem RpI.drewN {w wr : World} {k : Nat} {v : Value} (h : RpI w wr k v) (n : Nat) : RpI w (wr.drewN n) k v := ⟨h.own.drewN n, one_drewN h.res n, one_drewN h.cell n, below_drewN h.bel n, h.size⟩
theorem RpI.drew {w wr : World} {k : Nat} {v : Value} (h : RpI w wr k v) : RpI w wr.drew k v := ⟨h.own.drewN 1, one_drew h.res, one_drew h.cell, below_drew1 h.bel, h.size⟩
def RefPlainPost (w : World) (e : Ending) (w' : World) : Prop := ∃ a c, e = .returned (.agg #[.slice a 19 c]) ∧ RowK .i64 w' a usL ∧ Below w.heap.size w w'
theorem RpI.finish {w wr : World} {v : Value} (h : RpI w wr 19 v) : ∃ a c, v = .slice a 19 c ∧ RefPlainPost w (.returned (.agg #[.slice a 19 c])) (wr.setCell ⟨w.heap.size, 0, none⟩ (.slice a 19 c)) ∧ (wr.setCell ⟨w.heap.size, 0, none⟩ (.slice a 19 c)).cell? ⟨w.heap.size, 0, none⟩ = some (.slice a 19 c) := by
  have ho := h.own
  rw [show usL.take 19 = usL from rfl] at ho
  obtain ⟨a, c, e, hr, _, _⟩ := ho.form
  rw [show usL.length = 19 from rfl] at e
  subst e
  obtain ⟨a', c', e', hr', _, _⟩ := (ho.setOther (g := w.heap.size) (by omega) (.slice a 19 c)).form
  simp only [Value.slice.injEq] at e'
  obtain ⟨rfl, _, rfl⟩ := e'
  exact ⟨a, c, rfl, ⟨a, c, rfl, hr', h.bel.setCell (p := ⟨w.heap.size, 0, none⟩) (Nat.le_refl _) _⟩, (h.res.set_ _).c⟩

set_option maxHeartbeats 2000000 in
set_option maxRecDepth 100000 in
theorem refPlain_any (w : World) : Calls Tryd.prog 28 #[] w (RefPlainPost w) := by
  have mixed : Tryd.prog.follows .mixedOrders = true := by kernel_rfl
  have HS := Lib.hid (RpI.start w)
  go_enter Tryd.func28, Tryd.ntmps28
  go_wp2
  go_loopg [2] 19 (fun g1 v wr => ∃ (k : Nat) (s : Value), v = .int .i64 k ∧ k ≤ 19 ∧ 19 - k ≤ g1 ∧ Hid (RpI w wr k s))
  case atStart => exact ⟨0, _, rfl, by omega, by omega, HS.out⟩
  case round =>
    obtain ⟨k, s, rfl, hk19, hg1, HI⟩ := hrel
    clear HS
    by_cases hk : k < 19
    · have hkz : decide ((k : Int) < 19) = true := decide_eq_true (by omega)
      have hky : (k : Int) < 19 := by omega
      have c0 : wr.cell? ⟨w.heap.size + 1, 0, none⟩ = some s := HI.out.cell.c
      have f0 : wr.frozen? ⟨w.heap.size + 1, 0, none⟩ = false := HI.out.cell.f
      have CR := Lib.hid (fun W => refDefault_any (k : Int) W)
      rw [usZ_nat hk] at CR
      have HN : Hid (∀ v2 w2, Grew .i64 3 (w.heap.size + 2) wr.drew s (usL.take k) [usT k] v2 w2 → (∃ a2 n2 c2, v2 = .slice a2 n2 c2) ∧ w2.cell? ⟨w.heap.size + 1, 0, none⟩ = some s ∧ w2.frozen? ⟨w.heap.size + 1, 0, none⟩ = false ∧ RpI w (w2.setCell ⟨w.heap.size + 1, 0, none⟩ v2) (k + 1) v2) := fun v2 w2 hg => by
        obtain ⟨h1, h2⟩ := HI.out.drew.next hk hg
        obtain ⟨a2, n2, c2, e2, _⟩ := h2.own.form'
        exact ⟨⟨a2, n2, c2, e2⟩, h1.c, h1.f, h2⟩
      have HO := Lib.hid HI.out.drew.own
      have HZ : Hid (w.heap.size + 2 ≤ wr.drew.heap.size) := HI.out.size
      have hd0 : wr.drew.cell? ⟨w.heap.size + 1, 0, none⟩ = some s := c0
      obtain ⟨us, hus⟩ : ∃ us, us = usT k := ⟨_, rfl⟩
      rw [← hus] at CR HN
      clear hus
      clear HI
      have hlt : w.heap.size + 1 < wr.heap.size := World.block_lt_of_cell? _ _ c0
      have hn0 : ((wr.drew).alloc (.cells #[.int .i64 us] 3)).cell? ⟨w.heap.size + 1, 0, none⟩ = some s := by
        rw [((Below.refl wr.drew.heap.size wr.drew).alloc (Nat.le_refl _) _).cell (p := ⟨w.heap.size + 1, 0, none⟩) hlt]; exact c0
      go_wp2_with fail
      go_region_law (first
        | (refine stepI_one (by rfl) _ _ (by rfl) (w.heap.size + 2) wr.drew s (usL.take k) us (by rfl) HO.out (by rfl) (by rw [List.length_take]; omega) HZ.out ?_
           intro v2 w2 hp2
           obtain ⟨⟨a2, n2, c2, rfl⟩, h1, h2, h3⟩ := HN.out v2 w2 hp2
           have HR := Lib.hid h3
           clear hp2 h3)
        | (go_simp
           go_at_call 21
           refine (CR.out _).mono ?_
           rintro e w8 ⟨rfl, rfl⟩))
      all_goals (
        go_wp2
        go_roundg (19 - (k + 1))
        case measure => omega
        case rel => exact ⟨k + 1, _, by go_num, by omega, by omega, HR.out⟩)
    · have hkz : decide ((k : Int) < 19) = false := decide_eq_false (by omega)
      have hky : ¬ (k : Int) < 19 := by omega
      obtain rfl : k = 19 := by omega
      have c0 : wr.cell? ⟨w.heap.size + 1, 0, none⟩ = some s := HI.out.cell.c
      obtain ⟨c1, f1⟩ := HI.out.res
      obtain ⟨a, c, rfl, hp, r0⟩ := HI.out.finish
      have HF := Lib.hid hp
      clear hp HI
      go_wp2
      refine bodyPost_ret (v := .agg #[.slice a 19 c]) (by simp [results, Tryd.results28, go_sem, r0]) rfl ?_
      exact HF.out

set_option maxHeartbeats 2000000 in
theorem eqStyle_yes (a b : Option Addr) (zs : List Int) (n1 n2 c1 c2 : Nat) (w : World) (ha : RowK .i64 w a zs) (hb : RowK .i64 w b zs) (h1 : n1 = zs.length) (h2 : n2 = zs.length) (hl : zs.length ≤ 140737488355328) :
    Calls Tryd.prog 27 #[.agg #[.slice a n1 c1], .agg #[.slice b n2 c2]] w (BoolPost w true) := by
  have hb0 : Below w.heap.size w ((w.alloc (.cells #[.slice a n1 c1] 25)).alloc (.cells #[.slice b n2 c2] 25)) := by
    have h1 : Below w.heap.size w (w.alloc (.cells #[.slice a n1 c1] 25)) := (Below.refl _ _).alloc (Nat.le_refl _) _
    exact h1.alloc h1.size _
  have CE := Lib.hid (eqI_yes a b zs n1 n2 c1 c2 _ (ha.below hb0 (Nat.le_refl _)) (hb.below hb0 (Nat.le_refl _)) h1 h2 hl)
  have HB := Lib.hid hb0
  clear ha hb hb0 h1 h2 hl
  go_enter Tryd.func27, Tryd.ntmps27
  go_wp2_with fail
  refine (CE.out).mono ?_
  rintro e w1 ⟨rfl, m, rfl⟩
  go_wp2
  go_ret
  exact ⟨rfl, below_drewN HB.out m⟩
end Go.Proofs.YtahimngohnghaaaDoor
