/- An ask at a place; a list of asks opened; what the listed variable gives. -/
import Derived.Test.YtjpjjckokonkpaaDoorP2
import Derived.ProofKit
import Derived.OpenShut
import Derived.Deep.Slices
import Derived.Deep.Fields
import Derived.ChangeSame
import Derived.ChangeSlices
import Derived.ChangeArms
import Derived.LaidMore
import Derived.Stop.Joined
namespace Go.Proofs.YtjpjjckokonkpaaDoor.Pr
open Go.ChangeShapes Go.WideShapes Go.ChangeAt Go.RowKit Go.Deep Go.Lib
set_option linter.unusedVariables false

structure AskAt (w : World) (b o : Nat) (t v : Int) (ax : Option Addr) (nx cx : Nat) : Prop where
  c0 : w.cell? ⟨b, o, none⟩ = some (.int .i64 t)
  c1 : w.cell? ⟨b, o + 1, none⟩ = some (.int .i64 v)
  c2 : w.cell? ⟨b, o + 2, none⟩ = some (.slice ax nx cx)
theorem AskAt.lt {w : World} {b o : Nat} {t v : Int} {ax : Option Addr} {nx cx : Nat} (h : AskAt w b o t v ax nx cx) : b < w.heap.size := World.block_lt_of_cell? _ _ h.c0
theorem AskAt.below {w w' : World} {b o B : Nat} {t v : Int} {ax : Option Addr} {nx cx : Nat} (h : AskAt w b o t v ax nx cx) (hb : Below B w w') (hB : b < B) : AskAt w' b o t v ax nx cx :=
  ⟨(hb.cell (p := ⟨b, o, none⟩) hB).trans h.c0, (hb.cell (p := ⟨b, o + 1, none⟩) hB).trans h.c1, (hb.cell (p := ⟨b, o + 2, none⟩) hB).trans h.c2⟩
def AsksIs (w : World) (a : Option Addr) (len : Nat) : Prop :=
  ∀ i, i < len → ∃ b off t v ax xs cx, a = some ⟨b, off, none⟩ ∧ AskAt w b (off + i * 3) t v ax (List.length xs) cx ∧ RowK .i64 w ax xs

theorem rowK_open {H : Type} {enc : TypeId × Value → H} {w : World} {fuel : Nat} {v : Value} {x : DataW H × List MemPlace} {t e : TypeId} {kd : IntKind} (ht : Tryd.prog.underlying t = some (.slice e)) (he : Tryd.prog.underlying e = some (.int kd)) (hce : Tryd.prog.cellsOf e = 1) (h : DataW.trod enc Tryd.prog w 0 (fun _ => true) true fuel t [v] = some x) :
    ∃ ai ws ci, v = .slice ai ws.length ci ∧ RowK kd w ai ws := by
  rcases open_ints ht he hce h with ⟨hcs, _⟩ | ⟨a, len, cap, zs, hcs, _, hl, hm, hz, _, hcell, hwz⟩
  · simp only [List.cons.injEq, and_true] at hcs
    exact ⟨none, [], 0, hcs, fun i hi => by simp at hi⟩
  · simp only [List.cons.injEq, and_true] at hcs
    simp only [if_true] at hz
    have hlen : (zs.take len).length = len := by rw [List.length_take]; omega
    refine ⟨some a, zs.take len, cap, by rw [hlen]; exact hcs, ?_⟩
    intro i hi
    rw [hlen] at hi
    obtain ⟨b, off, spot⟩ := a
    have hc0 := hcell 0 (by omega)
    have hspot : spot = none := by simpa [Addr.add] using World.cell?_spot hc0
    subst hspot
    have hc := hcell i (by omega)
    refine ⟨b, off, rfl, ?_⟩
    have e : (zs.take len).getD i 0 = zs.getD i 0 := by simp [List.getD, hi]
    rw [e, ← addr_add]
    exact hc

theorem gRules : Tryd.prog.globalNamed "arras/prop.rules" = some 0 := by kernel_rfl
theorem tRules : (Tryd.prog.globals[0]?).map (·.type) = some 67 := by kernel_rfl
def rulesD {H : Type} : List (DataW H) := (List.range 19).map fun p => .agg [.lit (.int .i64 (lowT p)), .lit (.int .i64 (highT p)), .lit (.int .i64 (usT p)), .lit (.bool (inT p))]
theorem rules_is {H : Type} : (Rows.laid_arras_prop_rules : DataW H) = .agg rulesD := rfl
theorem rulesD_at {H : Type} (i : Nat) (hi : i < 19) : (rulesD : List (DataW H))[i]? = some (.agg [.lit (.int .i64 (lowT i)), .lit (.int .i64 (highT i)), .lit (.int .i64 (usT i)), .lit (.bool (inT i))]) := by
  unfold rulesD
  rw [List.getElem?_map, List.getElem?_range hi]
  rfl
theorem of_laid {W : World} (h : laidMetH Tryd.prog [("arras/prop.rules", Rows.laid_arras_prop_rules)] W) : Tab W := by
  rw [MakeChecks.laidMetH_plain _ _ _ (by kernel_rfl)] at h
  obtain ⟨ps, ⟨g0, t0, cs0, f0, p0, q0, hg0, ht0, hv0, hd0, _, _⟩, _, _⟩ := h
  obtain rfl := Option.some.inj (gRules.symm.trans hg0)
  obtain rfl := Option.some.inj (tRules.symm.trans ht0)
  rw [rules_is] at hd0
  have hcell := World.var?_cell hg0 hv0
  obtain ⟨l⟩ := cs0
  obtain ⟨xs, m1, rfl, hx, hlen, hn, hel⟩ := DataW.trod_array Tryd.underlying67 hd0
  simp only [Prod.mk.injEq, DataW.agg.injEq] at hx
  have c48 : Tryd.prog.cellsOf 66 = 4 := by kernel_rfl
  have c49 : Tryd.prog.cellsOf 67 = 76 := by kernel_rfl
  rw [c49] at hlen
  have key : ∀ p, p < 19 → W.cell? ⟨0, p * 4, none⟩ = some (.int .i64 (lowT p)) ∧ W.cell? ⟨0, p * 4 + 1, none⟩ = some (.int .i64 (highT p)) ∧ W.cell? ⟨0, p * 4 + 2, none⟩ = some (.int .i64 (usT p)) ∧ W.cell? ⟨0, p * 4 + 3, none⟩ = some (.bool (inT p)) := by
    intro p hp
    have he := hel p hp
    rw [c48] at he
    have hD := rulesD_at (H := Unit) p hp
    rw [hx.1, List.getElem?_map, List.getElem?_eq_getElem (by omega)] at hD
    rw [List.getElem?_eq_getElem (by omega)] at he
    simp only [Option.map_some, Option.some.injEq] at hD
    generalize xs[p] = y at hD he
    obtain ⟨ys, n', _, hy, hl4, hyl, hf'⟩ := DataW.trod_struct Tryd.underlying66 he
    rw [c48] at hl4
    rw [hy] at hD
    simp only [DataW.agg.injEq] at hD
    have f0 : DataW.trod _ Tryd.prog W 0 _ false n' 3 ((((l.drop (p * 4)).take 4).drop 0).take (Tryd.prog.cellsOf 3)) = ys[0]? := hf' 0 _ rfl
    have f1 : DataW.trod _ Tryd.prog W 0 _ false n' 3 ((((l.drop (p * 4)).take 4).drop 1).take (Tryd.prog.cellsOf 3)) = ys[1]? := hf' 1 _ rfl
    have f2 : DataW.trod _ Tryd.prog W 0 _ false n' 3 ((((l.drop (p * 4)).take 4).drop 2).take (Tryd.prog.cellsOf 3)) = ys[2]? := hf' 2 _ rfl
    have f3 : DataW.trod _ Tryd.prog W 0 _ false n' 4 ((((l.drop (p * 4)).take 4).drop 3).take (Tryd.prog.cellsOf 4)) = ys[3]? := hf' 3 _ rfl
    rw [show Tryd.prog.cellsOf 3 = 1 from by kernel_rfl] at f0 f1 f2
    rw [show Tryd.prog.cellsOf 4 = 1 from by kernel_rfl] at f3
    have hat : ∀ j, j < 4 → W.cell? ⟨0, p * 4 + j, none⟩ = ((l.drop (p * 4)).take 4)[j]? := by
      intro j hj
      rw [hcell, List.getElem?_take, if_pos hj, List.getElem?_drop]
      simp
    have k0 := hat 0 (by omega)
    have k1 := hat 1 (by omega)
    have k2 := hat 2 (by omega)
    have k3 := hat 3 (by omega)
    rw [Nat.add_zero] at k0
    generalize (l.drop (p * 4)).take 4 = cs at f0 f1 f2 f3 k0 k1 k2 k3 hl4
    match ys, hyl with
    | [y0, y1, y2, y3], _ =>
      simp only [List.map_cons, List.map_nil, List.cons.injEq, and_true] at hD
      match cs, hl4 with
      | [d0, d1, d2, d3], _ =>
        simp only [List.drop_zero, List.drop_succ_cons, List.take_succ_cons, List.take_zero, List.getElem?_cons_zero, List.getElem?_cons_succ] at f0 f1 f2 f3 k0 k1 k2 k3
        obtain ⟨z0, e0, r0, _⟩ := DataW.trod_int Tryd.underlying3 f0
        obtain ⟨z1, e1, r1, _⟩ := DataW.trod_int Tryd.underlying3 f1
        obtain ⟨z2, e2, r2, _⟩ := DataW.trod_int Tryd.underlying3 f2
        obtain ⟨b3, e3, r3⟩ := DataW.trod_bool Tryd.underlying4 f3
        subst r0 r1 r2 r3
        simp only [DataW.lit.injEq, Lit.int.injEq, Lit.bool.injEq, true_and] at hD
        obtain ⟨h0, h1, h2, h3⟩ := hD
        simp only [List.cons.injEq, and_true] at e0 e1 e2 e3
        rw [k0, k1, k2, k3, e0, e1, e2, e3, h0, h1, h2, h3]
        exact ⟨rfl, rfl, rfl, rfl⟩
  exact ⟨fun p hp => (key p hp).1, fun p hp => (key p hp).2.1, fun p hp => (key p hp).2.2.1, fun p hp => (key p hp).2.2.2⟩

/-- The door's own heap meets the condition. -/
theorem door_met (os : Os) (args : Array Value) : laidMetH Tryd.prog [("arras/prop.rules", Rows.laid_arras_prop_rules)] ((World.doorLaid Tryd.prog 400 os).forCall (fun _ _ => 0) ⟨#[], args, []⟩).memory :=
  laidMetH_of_parts3 (fuel := 8) (laidMet_of_run' 8 (by kernel_rfl) (by kernel_rfl)) (by kernel_rfl) (by kernel_rfl)
end Go.Proofs.YtjpjjckokonkpaaDoor.Pr
