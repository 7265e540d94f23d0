/- A row written over: no other row changes. -/
import Derived.Test.YtknfpildkiekcaaDoorK5
namespace Go.Proofs.YtknfpildkiekcaaDoor
open Go.RowKit Go.Lib
set_option linter.unusedVariables false

theorem grown_setCell (w : World) (a : Addr) (u : Value) : w.grownBy (w.setCell a u) (some a.block) :=
  ⟨rfl, rfl, rfl, by simp [World.setCell], fun k _ hk => Below.heap_setCell _ _ _ k (fun e => hk (by rw [e]))⟩
theorem grown_row {w w' : World} {row : Option Nat} (hg : w.grownBy w' row) {kd : IntKind} {a : Option Addr} {zs : List Int} (hr : RowK kd w a zs) (hne : 0 < zs.length → ∀ b off, a = some ⟨b, off, none⟩ → some b ≠ row) : RowK kd w' a zs := by
  intro i hi
  obtain ⟨b, off, rfl, hc⟩ := hr i hi
  exact ⟨b, off, rfl, hg.cell hc (hne (by omega) b off rfl)⟩
theorem OwnK.grown {kd : IntKind} {e : TypeId} {w w' : World} {base : Nat} {v : Value} {zs : List Int} {row : Option Nat} (h : OwnK kd e w base v zs) (hg : w.grownBy w' row) (hne : v.ownBlock = none ∨ v.ownBlock ≠ row) : OwnK kd e w' base v zs := World.ownsRow.kept h hg hne

set_option maxHeartbeats 400000 in
theorem wpI_grown {ops : Array Oper} {rest : List Oper} {o : Oper} {a : Act} {Q : Exit → Act → World → Prop} (hgd : o.guard = none) (s x : Operand)
    (ho : o.op = .call { callee := .builtin .append, args := #[s, x], argTypes := #[26, 26] }) (base : Nat) (W : World) (v : Value) (zs : List Int) (z : Int) (hs : a.eval s = v) (hown : OwnK .i64 3 W base v zs)
    (hx : a.eval x = .slice (some ⟨W.heap.size, 0, none⟩) 1 1) (hlen : (zs.length + 1) * 8 ≤ 140737488355328) (hbase : base ≤ W.heap.size)
    (h : ∀ v' w', W.grownBy w' v.ownBlock → wpList Tryd.prog ops Q rest (a.put o.dst v') w') : wpList Tryd.prog ops Q (o :: rest) a (W.alloc (.cells #[.int .i64 z] 3)) := by
  obtain ⟨i0, hi, hz0, hz1, hz2⟩ := info_parts Tryd.info3
  obtain ⟨v', w', hr, h2, h3, h4, h5⟩ := run_append_own_at (P := Tryd.prog) (W.alloc (.cells #[.int .i64 z] 3)) base 26 o.type 3 i0 (.int .i64 0) 1 8 Tryd.underlying26 hi hz0 hz1 hz2 rfl (by decide) v zs.length (zs.map (Value.int .i64)) (hown.alloc _) ⟨W.heap.size, 0, none⟩ 1 1 [.int .i64 z] (by simp)
    (by
      intro j u hu
      have hj : j = 0 := by
        rcases Nat.lt_or_ge j 1 with h | h
        · omega
        · rw [List.getElem?_eq_none (by simpa using h)] at hu; cases hu
      subst hj
      simp only [List.getElem?_cons_zero, Option.some.injEq] at hu
      subst hu
      rw [addr_add]
      simp)
    (by intro u hu; simp only [List.mem_singleton] at hu; subst hu; rfl) (by unfold maxLen; omega) hlen (by simp; omega)
  refine wpList_plain hgd fun _ hK => ?_
  unfold Oper.wp execOp
  simp only [ho, resolve, invoke, builtin, Sem.run_bind, Sem.run_pure, Result.andThen_ok, List.map_toArray, List.map_cons, List.map_nil, hs, hx, hr]
  exact hK _ _ (h v' w' ((World.grownBy_alloc W _ v.ownBlock).trans h3))

def OverPost (w : World) (v : Value) (e : Ending) (w' : World) : Prop := e = .returned (.tuple #[]) ∧ w.grownBy w' v.ownBlock
set_option maxHeartbeats 400000 in
theorem over_any (v : Value) (base : Nat) (zs : List Int) (w : World) (hv : OwnK .i64 3 w base v zs) (hbase : base ≤ w.heap.size) (hl : zs.length ≤ 65536) :
    Calls Tryd.prog 50 #[v] w (OverPost w v) := by
  rcases hv.2 with ⟨rfl, h0⟩ | ⟨g, cap, cs, rfl, hg, hh, _⟩
  · have hz : zs = [] := List.eq_nil_of_length_eq_zero h0
    subst hz
    have HV := Lib.hid hv
    clear hv h0
    go_enter Tryd.func50, Tryd.ntmps50
    go_wp2
    refine wp_loop_rounds 1 ?_
    rw [rounds_succ]
    go_wp2_with (at_builtin
                 refine wpI_grown rfl _ _ rfl base w (.slice none 0 0) [] 5 rfl HV.out rfl (by simp) hbase ?_
                 intro v1 w2 hp1
                 have HB := Lib.hid hp1
                 clear hp1)
    go_end0
    exact ⟨rfl, HB.out⟩
  · have HV := Lib.hid hv
    clear hv hh
    obtain ⟨n, hn⟩ : ∃ n, n = zs.length := ⟨_, rfl⟩
    have HN := Lib.hid hn
    rw [← hn] at hl HV ⊢
    clear hn
    go_enter Tryd.func50, Tryd.ntmps50
    go_wp2
    go_loopg [2] n (fun g1 i wr => ∃ (k : Nat) (ys : List Int), i = .int .i64 k ∧ k ≤ n ∧ n - k ≤ g1 ∧ w.heap.size ≤ wr.heap.size ∧ Hid (ys.length = n ∧ OwnK .i64 3 wr base (.slice (some ⟨g, 0, none⟩) n cap) ys ∧ w.grownBy wr (some g)))
    case atStart => exact ⟨0, zs, rfl, Nat.zero_le _, by omega, Nat.le_refl _, ⟨HN.out.symm, HV.out, World.grownBy.refl _ _⟩⟩
    case round =>
      obtain ⟨k, ys, rfl, hk, hg1, hsz, HI⟩ := hrel
      by_cases hlt : k < n
      · have hltz : (k : Int) < (n : Int) := by omega
        obtain ⟨c1, f1, hb1, hb2⟩ := OwnK.cellAt HI.out.1 HI.out.2.1 k hlt
        have HI2 : Hid ((ys.set k (-99)).length = n ∧ OwnK .i64 3 (wr.setCell ⟨g, k, none⟩ (.int .i64 (-99))) base (.slice (some ⟨g, 0, none⟩) n cap) (ys.set k (-99)) ∧ w.grownBy (wr.setCell ⟨g, k, none⟩ (.int .i64 (-99))) (some g)) :=
          ⟨by rw [List.length_set]; exact HI.out.1, OwnK.stored HI.out.1 HI.out.2.1 k (-99), HI.out.2.2.trans (grown_setCell _ ⟨g, k, none⟩ _)⟩
        clear HI
        go_wp2
        go_roundg (n - (k + 1))
        case measure => omega
        case rel => exact ⟨k + 1, _, by go_num, by omega, by omega, by simpa using hsz, HI2⟩
      · have hltz : ¬ (k : Int) < (n : Int) := by omega
        have hys : ys.length ≤ 65536 := by have := HI.out.1; omega
        go_wp2_with (at_builtin
                     refine wpI_grown rfl _ _ rfl base wr (.slice (some ⟨g, 0, none⟩) n cap) ys 5 rfl HI.out.2.1 rfl (by omega) (by omega) ?_
                     intro v1 w2 hp1
                     have HB : Hid (w.grownBy w2 (some g)) := HI.out.2.2.trans hp1
                     clear hp1)
        go_end0
        exact ⟨rfl, HB.out⟩
end Go.Proofs.YtknfpildkiekcaaDoor
