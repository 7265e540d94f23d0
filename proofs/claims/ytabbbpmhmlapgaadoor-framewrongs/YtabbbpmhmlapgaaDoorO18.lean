/- Asks opened; what is held of one. -/
import Derived.Test.YtabbbpmhmlapgaaDoorO16
import Derived.ProofKit
import Derived.OpenShut
import Derived.Deep.Slices
import Derived.Deep.Fields
import Derived.ChangeSame
import Derived.ChangeSlices
import Derived.ChangeArms
import Derived.SizedLaws
namespace Go.Proofs.YtabbbpmhmlapgaaDoor
open Go.ChangeShapes Go.WideShapes Go.ChangeAt Go.RowKit Go.Deep Go.Lib
set_option linter.unusedVariables false

theorem rowK_open {H : Type} {enc : TypeId × Value → H} {w : World} {fuel : Nat} {v : Value} {x : DataW H × List MemPlace} {t e : TypeId} {kd : IntKind} (ht : Tryd.prog.underlying t = some (.slice e)) (he : Tryd.prog.underlying e = some (.int kd)) (hce : Tryd.prog.cellsOf e = 1) (h : DataW.trod enc Tryd.prog w 0 (fun _ => true) true fuel t [v] = some x) :
    ∃ ai ws ci, v = .slice ai ws.length ci ∧ RowK kd w ai ws ∧ (∀ z ∈ ws, (Lit.int kd z).wf = true) ∧ ws.length ≤ ci := by
  rcases open_ints ht he hce h with ⟨hcs, _⟩ | ⟨a, len, cap, zs, hcs, _, hl, hm, hz, _, hcell, hwz⟩
  · simp only [List.cons.injEq, and_true] at hcs
    exact ⟨none, [], 0, hcs, fun i hi => by simp at hi, fun z hz => by simp at hz, by simp⟩
  · simp only [List.cons.injEq, and_true] at hcs
    simp only [if_true] at hz
    have hlen : (zs.take len).length = len := by rw [List.length_take]; omega
    refine ⟨some a, zs.take len, cap, by rw [hlen]; exact hcs, ?_, fun z hz => hwz z (List.mem_of_mem_take hz), by omega⟩
    intro i hi
    rw [hlen] at hi
    obtain ⟨b, off, spot⟩ := a
    have hc0 := hcell 0 (by omega)
    have hspot : spot = none := by simpa [Addr.add] using World.cell?_spot hc0
    subst hspot
    have hc := hcell i (by omega)
    refine ⟨b, off, rfl, ?_⟩
    have e : (zs.take len).getD i 0 = zs.getD i 0 := by simp [List.getD, hi]
    rw [e, ← addr_add]
    exact hc
theorem isB_of {ws : List Int} (h : ∀ z ∈ ws, (Lit.int .u8 z).wf = true) : IsB ws := fun z hz => by
  have := h z hz
  simp [Lit.wf, IntKind.min, IntKind.max, IntKind.signed, IntKind.bits] at this
  omega
theorem weights_mem_all {H : Type} {P : Program} {e : TypeId} : ∀ {ds : List (DataW H)} {d : DataW H}, d ∈ ds → ∀ n ∈ d.weights P e, n ∈ DataW.weightsAll P e ds
  | [], _, h, _, _ => by simp at h
  | x :: r, d, h, n, hn => by
    simp only [DataW.weightsAll, List.mem_append]
    rcases List.mem_cons.1 h with h | h
    · subst h; exact Or.inl hn
    · exact Or.inr (weights_mem_all h n hn)
theorem rowI_open_sized {H : Type} {enc : TypeId × Value → H} {w : World} {fuel : Nat} {v : Value} {x : DataW H × List MemPlace} (h : DataW.trod enc Tryd.prog w 0 (fun _ => true) true fuel 25 [v] = some x)
    (hs : ∀ n ∈ x.1.weights Tryd.prog 25, n ≤ reachBytes) : ∃ ai ws ci, v = .slice ai ws.length ci ∧ RowK .i64 w ai ws ∧ ws.length ≤ ci ∧ ws.length ≤ 17592186044416 := by
  obtain ⟨ai, ws, ci, hv, hr, _, hc⟩ := rowK_open Tryd.underlying25 Tryd.underlying3 (by kernel_rfl) h
  refine ⟨ai, ws, ci, hv, hr, hc, ?_⟩
  rcases open_ints Tryd.underlying25 Tryd.underlying3 (by kernel_rfl) h with ⟨hcs, _⟩ | ⟨a, len, cap, zs, hcs, _, hl, hm, hz, hx, _, _⟩
  · simp only [List.cons.injEq, and_true] at hcs
    rw [hv] at hcs
    simp only [Value.slice.injEq] at hcs
    omega
  · simp only [List.cons.injEq, and_true] at hcs
    rw [hv] at hcs
    simp only [Value.slice.injEq] at hcs
    have h1 := hs (((lits .i64 (zs.take len) : List (DataW H)).length + (lits .i64 (zs.drop len) : List (DataW H)).length) * Tryd.prog.bytesOf 3) (by
      rw [hx]
      simp [DataW.weights, Tryd.underlying25])
    rw [show Tryd.prog.bytesOf 3 = 8 from by kernel_rfl] at h1
    simp only [if_true] at hz
    simp only [lits, List.length_map, List.length_take, List.length_drop, reachBytes] at h1
    omega
theorem stamp_open {H : Type} {enc : TypeId × Value → H} {w : World} {fuel : Nat} {d0 d1 : Value} {x : DataW H × List MemPlace} (h : DataW.trod enc Tryd.prog w 0 (fun _ => true) true fuel 24 [d0, d1] = some x) : ∃ t r, d0 = .int .i64 t ∧ d1 = .int .i64 r := by
  obtain ⟨ys, n', _, _, _, hyl, hf'⟩ := DataW.trod_struct Tryd.underlying24 h
  have f0 : DataW.trod enc Tryd.prog w 0 (fun _ => true) true n' 3 (([d0, d1].drop 0).take (Tryd.prog.cellsOf 3)) = ys[0]? := hf' 0 _ rfl
  have f1 : DataW.trod enc Tryd.prog w 0 (fun _ => true) true n' 3 (([d0, d1].drop 1).take (Tryd.prog.cellsOf 3)) = ys[1]? := hf' 1 _ rfl
  rw [show Tryd.prog.cellsOf 3 = 1 from by kernel_rfl] at f0 f1
  have hy0 : ys[0]? = some (ys[0]'(by simp at hyl; omega)) := List.getElem?_eq_getElem _
  have hy1 : ys[1]? = some (ys[1]'(by simp at hyl; omega)) := List.getElem?_eq_getElem _
  rw [hy0] at f0
  rw [hy1] at f1
  simp only [List.drop_zero, List.drop_succ_cons, List.take_succ_cons, List.take_zero] at f0 f1
  obtain ⟨t, ht0, _, _⟩ := DataW.trod_int Tryd.underlying3 f0
  obtain ⟨r, hr0, _, _⟩ := DataW.trod_int Tryd.underlying3 f1
  simp only [List.cons.injEq, and_true] at ht0 hr0
  exact ⟨t, r, ht0, hr0⟩
set_option maxHeartbeats 1000000 in
theorem op_open {H : Type} {enc : TypeId × Value → H} {w : World} {fuel : Nat} {d0 d1 d2 d3 d4 d5 d6 d7 d8 d9 d10 d11 : Value} {x : DataW H × List MemPlace} (h : DataW.trod enc Tryd.prog w 0 (fun _ => true) true fuel 27 [d0, d1, d2, d3, d4, d5, d6, d7, d8, d9, d10, d11] = some x)
    (hs : ∀ n ∈ x.1.weights Tryd.prog 27, n ≤ reachBytes) : ∃ t r q da ds dc k nt nr pt pr s p v, [d0, d1, d2, d3, d4, d5, d6, d7, d8, d9, d10, d11] = [.int .i64 t, .int .i64 r, .int .i64 q, .slice da (List.length ds) dc, .int .i64 k, .int .i64 nt, .int .i64 nr, .int .i64 pt, .int .i64 pr, .string s, .int .i64 p, .int .i64 v] ∧ RowK .i64 w da ds ∧ ds.length ≤ dc ∧ ds.length ≤ 17592186044416 := by
  obtain ⟨ys, n', _, hD, _, hyl, hf'⟩ := DataW.trod_struct Tryd.underlying27 h
  have f0 : DataW.trod enc Tryd.prog w 0 (fun _ => true) true n' 24 (([d0, d1, d2, d3, d4, d5, d6, d7, d8, d9, d10, d11].drop 0).take (Tryd.prog.cellsOf 24)) = ys[0]? := hf' 0 _ rfl
  have f1 : DataW.trod enc Tryd.prog w 0 (fun _ => true) true n' 3 (([d0, d1, d2, d3, d4, d5, d6, d7, d8, d9, d10, d11].drop 2).take (Tryd.prog.cellsOf 3)) = ys[1]? := hf' 1 _ rfl
  have f2 : DataW.trod enc Tryd.prog w 0 (fun _ => true) true n' 25 (([d0, d1, d2, d3, d4, d5, d6, d7, d8, d9, d10, d11].drop 3).take (Tryd.prog.cellsOf 25)) = ys[2]? := hf' 2 _ rfl
  have f3 : DataW.trod enc Tryd.prog w 0 (fun _ => true) true n' 3 (([d0, d1, d2, d3, d4, d5, d6, d7, d8, d9, d10, d11].drop 4).take (Tryd.prog.cellsOf 3)) = ys[3]? := hf' 3 _ rfl
  have f4 : DataW.trod enc Tryd.prog w 0 (fun _ => true) true n' 24 (([d0, d1, d2, d3, d4, d5, d6, d7, d8, d9, d10, d11].drop 5).take (Tryd.prog.cellsOf 24)) = ys[4]? := hf' 4 _ rfl
  have f5 : DataW.trod enc Tryd.prog w 0 (fun _ => true) true n' 24 (([d0, d1, d2, d3, d4, d5, d6, d7, d8, d9, d10, d11].drop 7).take (Tryd.prog.cellsOf 24)) = ys[5]? := hf' 5 _ rfl
  have f6 : DataW.trod enc Tryd.prog w 0 (fun _ => true) true n' 9 (([d0, d1, d2, d3, d4, d5, d6, d7, d8, d9, d10, d11].drop 9).take (Tryd.prog.cellsOf 9)) = ys[6]? := hf' 6 _ rfl
  have f7 : DataW.trod enc Tryd.prog w 0 (fun _ => true) true n' 3 (([d0, d1, d2, d3, d4, d5, d6, d7, d8, d9, d10, d11].drop 10).take (Tryd.prog.cellsOf 3)) = ys[7]? := hf' 7 _ rfl
  have f8 : DataW.trod enc Tryd.prog w 0 (fun _ => true) true n' 3 (([d0, d1, d2, d3, d4, d5, d6, d7, d8, d9, d10, d11].drop 11).take (Tryd.prog.cellsOf 3)) = ys[8]? := hf' 8 _ rfl
  rw [show Tryd.prog.cellsOf 24 = 2 from by kernel_rfl] at f0 f4 f5
  rw [show Tryd.prog.cellsOf 3 = 1 from by kernel_rfl] at f1 f3 f7 f8
  rw [show Tryd.prog.cellsOf 25 = 1 from by kernel_rfl] at f2
  rw [show Tryd.prog.cellsOf 9 = 1 from by kernel_rfl] at f6
  have hy0 : ys[0]? = some (ys[0]'(by simp at hyl; omega)) := List.getElem?_eq_getElem _
  rw [hy0] at f0
  have hy1 : ys[1]? = some (ys[1]'(by simp at hyl; omega)) := List.getElem?_eq_getElem _
  rw [hy1] at f1
  have hy2 : ys[2]? = some (ys[2]'(by simp at hyl; omega)) := List.getElem?_eq_getElem _
  rw [hy2] at f2
  have hy3 : ys[3]? = some (ys[3]'(by simp at hyl; omega)) := List.getElem?_eq_getElem _
  rw [hy3] at f3
  have hy4 : ys[4]? = some (ys[4]'(by simp at hyl; omega)) := List.getElem?_eq_getElem _
  rw [hy4] at f4
  have hy5 : ys[5]? = some (ys[5]'(by simp at hyl; omega)) := List.getElem?_eq_getElem _
  rw [hy5] at f5
  have hy6 : ys[6]? = some (ys[6]'(by simp at hyl; omega)) := List.getElem?_eq_getElem _
  rw [hy6] at f6
  have hy7 : ys[7]? = some (ys[7]'(by simp at hyl; omega)) := List.getElem?_eq_getElem _
  rw [hy7] at f7
  have hy8 : ys[8]? = some (ys[8]'(by simp at hyl; omega)) := List.getElem?_eq_getElem _
  rw [hy8] at f8
  simp only [List.drop_zero, List.drop_succ_cons, List.take_succ_cons, List.take_zero] at f0 f1 f2 f3 f4 f5 f6 f7 f8
  have hxd : x.1 = .agg (ys.map (·.1)) := by rw [hD]
  have hw2 : ∀ n ∈ (ys[2]'(by simp at hyl; omega)).1.weights Tryd.prog 25, n ≤ reachBytes := by
    intro n hn
    apply hs
    rw [hxd]
    simp only [DataW.weights, Tryd.underlying27]
    exact DataW.weights_mem_each (j := 2) (t := 25) (d := (ys[2]'(by simp at hyl; omega)).1) rfl (by rw [List.getElem?_map, hy2]; rfl) n hn
  obtain ⟨t, r, h0, h1⟩ := stamp_open f0
  obtain ⟨q, h2, _, _⟩ := DataW.trod_int Tryd.underlying3 f1
  obtain ⟨da, ds, dc, h3, hr, hc, hl⟩ := rowI_open_sized f2 hw2
  obtain ⟨k, h4, _, _⟩ := DataW.trod_int Tryd.underlying3 f3
  obtain ⟨nt, nr, h5, h6⟩ := stamp_open f4
  obtain ⟨pt, pr, h7, h8⟩ := stamp_open f5
  obtain ⟨s, h9, _, _⟩ := DataW.trod_string Tryd.underlying9 f6
  obtain ⟨p, h10, _, _⟩ := DataW.trod_int Tryd.underlying3 f7
  obtain ⟨v, h11, _, _⟩ := DataW.trod_int Tryd.underlying3 f8
  simp only [List.cons.injEq, and_true] at h2 h4 h9 h10 h11
  subst h0 h1 h2 h3 h4 h5 h6 h7 h8 h9 h10 h11
  exact ⟨t, r, q, da, ds, dc, k, nt, nr, pt, pr, s, p, v, rfl, hr, hc, hl⟩

/-- an ask at a place -/
structure AskAt (w : World) (b o : Nat) (t r q : Int) (da : Option Addr) (dn dc : Nat) (k nt nr pt pr : Int) (s : ByteArray) (p v : Int) (ax : Option Addr) (nx cx : Nat) : Prop where
  o_ : OpAt w b o t r q da dn dc k nt nr pt pr s p v
  x_ : w.cell? ⟨b, o + 12, none⟩ = some (.slice ax nx cx)
theorem AskAt.below {w w' : World} {b o B : Nat} {t r q : Int} {da : Option Addr} {dn dc : Nat} {k nt nr pt pr : Int} {s : ByteArray} {p v : Int} {ax : Option Addr} {nx cx : Nat} (h : AskAt w b o t r q da dn dc k nt nr pt pr s p v ax nx cx) (hb : Below B w w') (hB : b < B) : AskAt w' b o t r q da dn dc k nt nr pt pr s p v ax nx cx := ⟨h.o_.below hb hB, (hb.cell (p := ⟨b, o + 12, none⟩) hB).trans h.x_⟩
/-- what is told of an ask's rows -/
structure AskRows (w : World) (da : Option Addr) (ds : List Int) (dn : Nat) (ax : Option Addr) (xs : List Int) (nx cx : Nat) : Prop where
  rd : RowK .i64 w da ds
  dl : dn = ds.length
  dm : ds.length ≤ 17592186044416
  rx : RowK .u8 w ax xs
  xl : nx = xs.length
  xc : xs.length ≤ cx
  isB : IsB xs
theorem AskRows.below {w w' : World} {da : Option Addr} {ds : List Int} {dn : Nat} {ax : Option Addr} {xs : List Int} {nx cx : Nat} (h : AskRows w da ds dn ax xs nx cx) (hb : Below w.heap.size w w') : AskRows w' da ds dn ax xs nx cx :=
  ⟨h.rd.below hb (Nat.le_refl _), h.dl, h.dm, h.rx.below hb (Nat.le_refl _), h.xl, h.xc, h.isB⟩
def AsksIs (w : World) (a : Option Addr) (len : Nat) : Prop :=
  ∀ i, i < len → ∃ b off t r q da ds dn dc k nt nr pt pr s p v ax xs nx cx, a = some ⟨b, off, none⟩ ∧ AskAt w b (off + i * 13) t r q da dn dc k nt nr pt pr s p v ax nx cx ∧ AskRows w da ds dn ax xs nx cx

set_option maxHeartbeats 1000000 in
set_option maxRecDepth 100000 in
theorem asks_open_sized {H : Type} {enc : TypeId × Value → H} {w : World} {a : Option Addr} {len cap : Nat} {d : DataW H} {p : List MemPlace} (h : DataW.Trod enc Tryd.prog w 0 (fun _ => true) true 22 (.slice a len cap) d p)
    (hs : ∀ n ∈ d.weights Tryd.prog 22, n ≤ reachBytes) : AsksIs w a len := by
  obtain ⟨fuel, hf⟩ := h
  have hC : Tryd.prog.cellsOf 119 = 13 := by kernel_rfl
  rcases open_slice Tryd.underlying22 hf with ⟨hcs, _⟩ | ⟨x, l, c, m, n, D, Pl, hcs, hb, hl, hm, hmm, hx, hi⟩
  · simp [Value.cells] at hcs
    obtain ⟨rfl, rfl, rfl⟩ := hcs
    intro i hi; omega
  · simp [Value.cells] at hcs
    obtain ⟨rfl, rfl, rfl⟩ := hcs
    simp only [if_true] at hmm
    intro i hil
    obtain ⟨b, off, spot⟩ := x
    have hspot : spot = none := by
      obtain ⟨cs0, hc0, _⟩ := hi 0 (by omega)
      rw [hC] at hc0
      obtain ⟨_, hcl0, hat0⟩ := World.cells?_some hc0
      have h1 := hat0 0 (by omega)
      rw [List.getElem?_eq_getElem (by omega)] at h1
      have h2 := World.cell?_spot h1
      simpa [Addr.add] using h2
    subst hspot
    obtain ⟨cs', hc, ht⟩ := hi i (by omega)
    rw [hC] at hc
    obtain ⟨_, hcl, hat⟩ := World.cells?_some hc
    obtain ⟨ys, n', _, hD, _, hyl, hf'⟩ := DataW.trod_struct Tryd.underlying119 ht
    have f0 : DataW.trod enc Tryd.prog w 0 (fun _ => true) true n' 27 ((cs'.drop 0).take (Tryd.prog.cellsOf 27)) = ys[0]? := hf' 0 _ rfl
    have f1 : DataW.trod enc Tryd.prog w 0 (fun _ => true) true n' 33 ((cs'.drop 12).take (Tryd.prog.cellsOf 33)) = ys[1]? := hf' 1 _ rfl
    rw [show Tryd.prog.cellsOf 27 = 12 from by kernel_rfl] at f0
    rw [show Tryd.prog.cellsOf 33 = 1 from by kernel_rfl] at f1
    match cs', hcl with
    | [d0, d1, d2, d3, d4, d5, d6, d7, d8, d9, d10, d11, d12], _ =>
      have hy0 : ys[0]? = some (ys[0]'(by simp at hyl; omega)) := List.getElem?_eq_getElem _
      have hy1 : ys[1]? = some (ys[1]'(by simp at hyl; omega)) := List.getElem?_eq_getElem _
      have hwE : ∀ n, n ∈ (D i).weights Tryd.prog 119 → n ≤ reachBytes := by
        intro n hn
        apply hs
        have hdx : d = .slice ((List.range len).map D) ((List.range (m - len)).map fun j => D (len + j)) := by
          simp only [Prod.mk.injEq] at hx; exact hx.1
        rw [hdx]
        simp only [DataW.weights, Tryd.underlying22]
        refine List.mem_cons_of_mem _ (List.mem_append.2 (Or.inl ?_))
        exact weights_mem_all (List.mem_map.2 ⟨i, List.mem_range.2 hil, rfl⟩) n hn
      have hDi : D i = .agg (ys.map (·.1)) := by
        simp only [Prod.mk.injEq] at hD; exact hD.1
      have hw0 : ∀ n ∈ (ys[0]'(by simp at hyl; omega)).1.weights Tryd.prog 27, n ≤ reachBytes := by
        intro n hn
        apply hwE
        rw [hDi]
        simp only [DataW.weights, Tryd.underlying119]
        exact DataW.weights_mem_each (j := 0) (t := 27) (d := (ys[0]'(by simp at hyl; omega)).1) rfl (by rw [List.getElem?_map, hy0]; rfl) n hn
      rw [hy0] at f0
      rw [hy1] at f1
      simp only [List.drop_zero, List.drop_succ_cons, List.take_succ_cons, List.take_zero] at f0 f1
      obtain ⟨t, r, q, da, ds, dc, k, nt, nr, pt, pr, s, p, v, he, hr1, hc1, hl1⟩ := op_open f0 hw0
      obtain ⟨ax, xs, cx, hv3, hr3, hwf3, hcx⟩ := rowK_open Tryd.underlying33 Tryd.underlying5 (by kernel_rfl) f1
      simp only [List.cons.injEq, and_true] at he
      obtain ⟨rfl, rfl, rfl, rfl, rfl, rfl, rfl, rfl, rfl, rfl, rfl, rfl⟩ := he
      subst hv3
      have hc0 := hat 0 (by omega)
      rw [add_add, addr_add, Nat.add_zero] at hc0
      have hc1 := hat 1 (by omega)
      rw [add_add, addr_add] at hc1
      have hc2 := hat 2 (by omega)
      rw [add_add, addr_add] at hc2
      have hc3 := hat 3 (by omega)
      rw [add_add, addr_add] at hc3
      have hc4 := hat 4 (by omega)
      rw [add_add, addr_add] at hc4
      have hc5 := hat 5 (by omega)
      rw [add_add, addr_add] at hc5
      have hc6 := hat 6 (by omega)
      rw [add_add, addr_add] at hc6
      have hc7 := hat 7 (by omega)
      rw [add_add, addr_add] at hc7
      have hc8 := hat 8 (by omega)
      rw [add_add, addr_add] at hc8
      have hc9 := hat 9 (by omega)
      rw [add_add, addr_add] at hc9
      have hc10 := hat 10 (by omega)
      rw [add_add, addr_add] at hc10
      have hc11 := hat 11 (by omega)
      rw [add_add, addr_add] at hc11
      have hc12 := hat 12 (by omega)
      rw [add_add, addr_add] at hc12
      refine ⟨b, off, t, r, q, da, ds, ds.length, dc, k, nt, nr, pt, pr, s, p, v, ax, xs, xs.length, cx, rfl, ⟨⟨?_, ?_, ?_, ?_, ?_, ?_, ?_, ?_, ?_, ?_, ?_, ?_⟩, ?_⟩, ⟨hr1, rfl, hl1, hr3, rfl, hcx, isB_of hwf3⟩⟩
      · rw [hc0]; rfl
      · rw [Nat.add_assoc, hc1]; rfl
      · rw [Nat.add_assoc, hc2]; rfl
      · rw [Nat.add_assoc, hc3]; rfl
      · rw [Nat.add_assoc, hc4]; rfl
      · rw [Nat.add_assoc, hc5]; rfl
      · rw [Nat.add_assoc, hc6]; rfl
      · rw [Nat.add_assoc, hc7]; rfl
      · rw [Nat.add_assoc, hc8]; rfl
      · rw [Nat.add_assoc, hc9]; rfl
      · rw [Nat.add_assoc, hc10]; rfl
      · rw [Nat.add_assoc, hc11]; rfl
      · rw [Nat.add_assoc, hc12]; rfl

/-- what is held of an ask -/
structure PA (w W : World) (b o : Nat) (t r q : Int) (da : Option Addr) (ds : List Int) (dn dc : Nat) (k nt nr pt pr : Int) (s : ByteArray) (p v : Int) (ax : Option Addr) (xs : List Int) (nx cx : Nat) : Prop where
  ask : AskAt W b o t r q da dn dc k nt nr pt pr s p v ax nx cx
  rows : AskRows W da ds dn ax xs nx cx
  bel : Below w.heap.size w W
  tab : Pr.Tab W
  lt : b < w.heap.size
section
variable {w W W' : World} {b o : Nat} {t r q : Int} {da : Option Addr} {ds : List Int} {dn dc : Nat} {k nt nr pt pr : Int} {s : ByteArray} {p v : Int} {ax : Option Addr} {xs : List Int} {nx cx : Nat}
theorem PA.next (h : PA w W b o t r q da ds dn dc k nt nr pt pr s p v ax xs nx cx) (hb : Below W.heap.size W W') : PA w W' b o t r q da ds dn dc k nt nr pt pr s p v ax xs nx cx :=
  ⟨h.ask.below hb h.ask.o_.lt, h.rows.below hb, h.bel.trans (hb.mono h.bel.size), h.tab.below hb h.tab.lt, h.lt⟩
theorem PA.drew (h : PA w W b o t r q da ds dn dc k nt nr pt pr s p v ax xs nx cx) : PA w W.drew b o t r q da ds dn dc k nt nr pt pr s p v ax xs nx cx := h.next (Below.refl _ W).drew
theorem PA.drewN (h : PA w W b o t r q da ds dn dc k nt nr pt pr s p v ax xs nx cx) (m : Nat) : PA w (W.drewN m) b o t r q da ds dn dc k nt nr pt pr s p v ax xs nx cx := h.next (below_drewN (Below.refl _ W) m)
theorem PA.box (h : PA w W b o t r q da ds dn dc k nt nr pt pr s p v ax xs nx cx) (ob : Obj) : PA w (W.alloc ob) b o t r q da ds dn dc k nt nr pt pr s p v ax xs nx cx := h.next (box_bel W ob)
end
theorem regrown_at {W : World} {f : FuncId} {args : Array Value} {v : Value} (h : ∀ W', Below W.heap.size W W' → Calls Tryd.prog f args W' fun e w' => e = .returned v ∧ Below W'.heap.size W' w') : St.RegrownTo W f args v := fun d os => Calls.regrown_of (h _ (below_regrown W d os))
theorem eqOp_bel (t r q : Int) (da : Option Addr) (ds : List Int) (dn dc : Nat) (k nt nr pt pr : Int) (s : ByteArray) (p v : Int) (da' : Option Addr) (dn' dc' : Nat) (w : World) (hr : RowK .i64 w da ds) (hn : dn = ds.length) (hl : ds.length ≤ 140737488355328) (hr' : RowK .i64 w da' ds) (hn' : dn' = ds.length) : Calls Tryd.prog 20 #[.agg #[.int .i64 t, .int .i64 r, .int .i64 q, .slice da dn dc, .int .i64 k, .int .i64 nt, .int .i64 nr, .int .i64 pt, .int .i64 pr, .string s, .int .i64 p, .int .i64 v], .agg #[.int .i64 t, .int .i64 r, .int .i64 q, .slice da' dn' dc', .int .i64 k, .int .i64 nt, .int .i64 nr, .int .i64 pt, .int .i64 pr, .string s, .int .i64 p, .int .i64 v]] w fun e w' => e = .returned (.bool true) ∧ Below w.heap.size w w' := by
  have := eqOp_any t r q da ds dn dc k nt nr pt pr s p v pt pr s p v da' dn' dc' w hr hn hl hr' hn'
  rw [eqOB_same] at this
  exact this
theorem tkO_ds {bs : List Int} (hb : IsB bs) : (tkO bs).1.ds.length ≤ 16 := by
  by_cases h : (tkO bs).2.2.2 = 0
  · have := Hv.vecB_len (cntB_parts (opB_parts (tkO_back hb h).1).2.2.1).1
    omega
  · by_cases h0 : (runR bs 6).2.2 = 0
    · cases h2 : (runR bs 6).1.ok (seqR (runR bs 6).1)
      · rw [tkO_no h0 h2]; simp [zR]
      · rw [tkO_yes h0 h2] at h; simp at h
    · rw [tkO_err h0]; simp [zR]
end Go.Proofs.YtabbbpmhmlapgaaDoor
