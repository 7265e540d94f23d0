/- A list of asks that comes in, opened to its cells, with the bound that the reading itself sets on each row. -/
import Derived.Test.YtekiknngiefkbaaZ0
import Derived.Test.YtekiknngiefkbaaY4
import Derived.SizedLaws
namespace Go.Proofs.Ytekiknngiefkbaa
open Go.ChangeShapes Go.WideShapes Go.ChangeAt Go.RowKit Go.Deep

theorem weights_mem_all {H : Type} {P : Program} {e : TypeId} : ∀ {ds : List (DataW H)} {d : DataW H}, d ∈ ds → ∀ n ∈ d.weights P e, n ∈ DataW.weightsAll P e ds
  | [], _, h, _, _ => by simp at h
  | x :: r, d, h, n, hn => by
    simp only [DataW.weightsAll, List.mem_append]
    rcases List.mem_cons.1 h with h | h
    · subst h; exact Or.inl hn
    · exact Or.inr (weights_mem_all h n hn)

theorem rowIs_open_sized {H : Type} {enc : TypeId × Value → H} {w : World} {fuel : Nat} {v : Value} {x : DataW H × List MemPlace} (h : DataW.trod enc Try.prog w 0 (fun _ => true) true fuel 23 [v] = some x)
    (hs : ∀ n ∈ x.1.weights Try.prog 23, n ≤ reachBytes) : ∃ ai ws ci, v = .slice ai ws.length ci ∧ RowIs w ai ws ∧ ws.length * 8 ≤ 140737488351232 := by
  obtain ⟨ai, ws, ci, hv, hr, _⟩ := rowIs_open h
  refine ⟨ai, ws, ci, hv, hr, ?_⟩
  rcases open_ints Try.underlying23 Try.underlying3 (by kernel_rfl) h with ⟨hcs, _⟩ | ⟨a, len, cap, zs, hcs, _, hl, hm, hz, hx, _, _⟩
  · simp only [List.cons.injEq, and_true] at hcs
    rw [hv] at hcs
    simp only [Value.slice.injEq] at hcs
    omega
  · simp only [List.cons.injEq, and_true] at hcs
    rw [hv] at hcs
    simp only [Value.slice.injEq] at hcs
    have h1 := hs (((lits .i64 (zs.take len) : List (DataW H)).length + (lits .i64 (zs.drop len) : List (DataW H)).length) * Try.prog.bytesOf 3) (by
      rw [hx]
      simp [DataW.weights, Try.underlying23])
    rw [show Try.prog.bytesOf 3 = 8 from by kernel_rfl] at h1
    simp only [if_true] at hz
    simp only [lits, List.length_map, List.length_take, List.length_drop, reachBytes] at h1
    omega

theorem asks_open_sized {H : Type} {enc : TypeId × Value → H} {w : World} {a : Option Addr} {len cap : Nat} {d : DataW H} {p : List MemPlace} (h : DataW.Trod enc Try.prog w 0 (fun _ => true) true 22 (.slice a len cap) d p)
    (hs : ∀ n ∈ d.weights Try.prog 22, n ≤ reachBytes) : AsksIsS w a len := by
  obtain ⟨fuel, hf⟩ := h
  have hC : Try.prog.cellsOf 25 = 2 := by kernel_rfl
  rcases open_slice Try.underlying22 hf with ⟨hcs, _⟩ | ⟨x, l, c, m, n, D, Pl, hcs, hb, hl, hm, hmm, hx, hi⟩
  · simp [Value.cells] at hcs
    obtain ⟨rfl, rfl, rfl⟩ := hcs
    intro i hi; omega
  · simp [Value.cells] at hcs
    obtain ⟨rfl, rfl, rfl⟩ := hcs
    simp only [if_true] at hmm
    intro i hil
    obtain ⟨b, off, spot⟩ := x
    have hspot : spot = none := by
      obtain ⟨cs0, hc0, _⟩ := hi 0 (by omega)
      rw [hC] at hc0
      obtain ⟨_, hcl0, hat0⟩ := World.cells?_some hc0
      have h1 := hat0 0 (by omega)
      rw [List.getElem?_eq_getElem (by omega)] at h1
      have h2 := World.cell?_spot h1
      simpa [Addr.add] using h2
    subst hspot
    obtain ⟨cs', hc, ht⟩ := hi i (by omega)
    rw [hC] at hc
    obtain ⟨_, hcl, hat⟩ := World.cells?_some hc
    obtain ⟨ys, n', _, hD, _, hyl, hf'⟩ := DataW.trod_struct Try.underlying25 ht
    have f0 : DataW.trod enc Try.prog w 0 (fun _ => true) true n' 3 ((cs'.drop 0).take (Try.prog.cellsOf 3)) = ys[0]? := hf' 0 _ rfl
    have f1 : DataW.trod enc Try.prog w 0 (fun _ => true) true n' 23 ((cs'.drop 1).take (Try.prog.cellsOf 23)) = ys[1]? := hf' 1 _ rfl
    rw [show Try.prog.cellsOf 3 = 1 from by kernel_rfl] at f0
    rw [show Try.prog.cellsOf 23 = 1 from by kernel_rfl] at f1
    match cs', hcl with
    | [c0, c1], _ =>
      have hy0 : ys[0]? = some (ys[0]'(by simp at hyl; omega)) := List.getElem?_eq_getElem _
      have hy1 : ys[1]? = some (ys[1]'(by simp at hyl; omega)) := List.getElem?_eq_getElem _
      rw [hy0] at f0
      have g0 := f0
      have hw1 : ∀ n ∈ (ys[1]'(by simp at hyl; omega)).1.weights Try.prog 23, n ≤ reachBytes := by
        intro n hn
        apply hs
        have hdx : d = .slice ((List.range len).map D) ((List.range (m - len)).map fun j => D (len + j)) := by
          simp only [Prod.mk.injEq] at hx; exact hx.1
        rw [hdx]
        simp only [DataW.weights, Try.underlying22]
        refine List.mem_cons_of_mem _ (List.mem_append.2 (Or.inl ?_))
        refine weights_mem_all (List.mem_map.2 ⟨i, List.mem_range.2 hil, rfl⟩) n ?_
        have hDi : D i = .agg (ys.map (·.1)) := by
          simp only [Prod.mk.injEq] at hD; exact hD.1
        rw [hDi]
        simp only [DataW.weights, Try.underlying25]
        exact DataW.weights_mem_each (j := 1) (t := 23) (d := (ys[1]'(by simp at hyl; omega)).1) rfl (by rw [List.getElem?_map, hy1]; rfl) n hn
      rw [hy1] at f1
      have g1 := f1
      simp only [List.drop_zero, List.drop_succ_cons, List.take_succ_cons, List.take_zero] at g0 g1
      obtain ⟨t, ht0, _, htw⟩ := DataW.trod_int Try.underlying3 g0
      obtain ⟨ai, ws, ci, hv, hr, hwl⟩ := rowIs_open_sized g1 hw1
      simp only [List.cons.injEq, and_true] at ht0
      have hc0 := hat 0 (by omega)
      have hc1 := hat 1 (by omega)
      rw [add_add] at hc0 hc1
      rw [add_plain] at hc0 hc1
      rw [Nat.add_zero] at hc0
      refine ⟨b, off, t, ai, ws, ci, rfl, ⟨?_, ?_, hr⟩, hwl⟩
      · rw [hc0, ht0]; rfl
      · rw [Nat.add_assoc, hc1, hv]; rfl
end Go.Proofs.Ytekiknngiefkbaa
