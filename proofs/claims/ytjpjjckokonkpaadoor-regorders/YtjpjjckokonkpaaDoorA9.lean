/- Registers: what is handed in, opened, with the bound on lengths. -/
import Derived.Test.YtjpjjckokonkpaaDoorA4
namespace Go.Proofs.YtjpjjckokonkpaaDoor
open Go.ChangeShapes Go.WideShapes Go.ChangeAt Go.RowKit Go.Deep Go.Lib
set_option linter.unusedVariables false

theorem list_ofG {α : Type} {P : Nat → α → Prop} : ∀ n : Nat, (∀ i, i < n → ∃ x, P i x) → ∃ l : List α, l.length = n ∧ ∀ i x, l[i]? = some x → P i x
  | 0, _ => ⟨[], rfl, fun i x h => by simp at h⟩
  | n + 1, h => by
    obtain ⟨l, hl, hp⟩ := list_ofG n (fun i hi => h i (by omega))
    obtain ⟨y, hy⟩ := h n (by omega)
    refine ⟨l ++ [y], by simp [hl], fun i x hi => ?_⟩
    by_cases hlt : i < l.length
    · rw [List.getElem?_append_left hlt] at hi
      exact hp i x hi
    · rw [List.getElem?_append_right (by omega)] at hi
      by_cases h0 : i - l.length = 0
      · rw [h0] at hi
        simp only [List.getElem?_cons_zero, Option.some.injEq] at hi
        subst hi
        rw [show i = n by omega]
        exact hy
      · rw [List.getElem?_eq_none (by simp; omega)] at hi
        cases hi
theorem stampG_open {H : Type} {enc : TypeId × Value → H} {w : World} {fuel : Nat} {d0 d1 : Value} {x : DataW H × List MemPlace} (h : DataW.trod enc Tryd.prog w 0 (fun _ => true) true fuel 29 [d0, d1] = some x) : ∃ t r, d0 = .int .i64 t ∧ d1 = .int .i64 r := by
  obtain ⟨ys, n', _, _, _, hyl, hf'⟩ := DataW.trod_struct Tryd.underlying29 h
  have f0 : DataW.trod enc Tryd.prog w 0 (fun _ => true) true n' 3 (([d0, d1].drop 0).take (Tryd.prog.cellsOf 3)) = ys[0]? := hf' 0 _ rfl
  have f1 : DataW.trod enc Tryd.prog w 0 (fun _ => true) true n' 3 (([d0, d1].drop 1).take (Tryd.prog.cellsOf 3)) = ys[1]? := hf' 1 _ rfl
  rw [show Tryd.prog.cellsOf 3 = 1 from by kernel_rfl] at f0 f1
  have hy0 : ys[0]? = some (ys[0]'(by simp at hyl; omega)) := List.getElem?_eq_getElem _
  have hy1 : ys[1]? = some (ys[1]'(by simp at hyl; omega)) := List.getElem?_eq_getElem _
  rw [hy0] at f0
  rw [hy1] at f1
  simp only [List.drop_zero, List.drop_succ_cons, List.take_succ_cons, List.take_zero] at f0 f1
  obtain ⟨t, ht0, _, _⟩ := DataW.trod_int Tryd.underlying3 f0
  obtain ⟨r, hr0, _, _⟩ := DataW.trod_int Tryd.underlying3 f1
  simp only [List.cons.injEq, and_true] at ht0 hr0
  exact ⟨t, r, ht0, hr0⟩
set_option maxHeartbeats 1000000 in
theorem regX_open {H : Type} {enc : TypeId × Value → H} {w : World} {fuel : Nat} {d0 d1 d2 d3 : Value} {x : DataW H × List MemPlace} (h : DataW.trod enc Tryd.prog w 0 (fun _ => true) true fuel 51 [d0, d1, d2, d3] = some x) : ∃ z : RgD, [d0, d1, d2, d3] = z.vals := by
  obtain ⟨ys, n', _, hD, _, hyl, hf'⟩ := DataW.trod_struct Tryd.underlying51 h
  have f0 : DataW.trod enc Tryd.prog w 0 (fun _ => true) true n' 3 (([d0, d1, d2, d3].drop 0).take (Tryd.prog.cellsOf 3)) = ys[0]? := hf' 0 _ rfl
  have f1 : DataW.trod enc Tryd.prog w 0 (fun _ => true) true n' 3 (([d0, d1, d2, d3].drop 1).take (Tryd.prog.cellsOf 3)) = ys[1]? := hf' 1 _ rfl
  have f2 : DataW.trod enc Tryd.prog w 0 (fun _ => true) true n' 29 (([d0, d1, d2, d3].drop 2).take (Tryd.prog.cellsOf 29)) = ys[2]? := hf' 2 _ rfl
  rw [show Tryd.prog.cellsOf 29 = 2 from by kernel_rfl] at f2
  rw [show Tryd.prog.cellsOf 3 = 1 from by kernel_rfl] at f0 f1
  have hy0 : ys[0]? = some (ys[0]'(by simp at hyl; omega)) := List.getElem?_eq_getElem _
  rw [hy0] at f0
  have hy1 : ys[1]? = some (ys[1]'(by simp at hyl; omega)) := List.getElem?_eq_getElem _
  rw [hy1] at f1
  have hy2 : ys[2]? = some (ys[2]'(by simp at hyl; omega)) := List.getElem?_eq_getElem _
  rw [hy2] at f2
  simp only [List.drop_zero, List.drop_succ_cons, List.take_succ_cons, List.take_zero] at f0 f1 f2
  obtain ⟨p, h0, _, _⟩ := DataW.trod_int Tryd.underlying3 f0
  obtain ⟨v, h1, _, _⟩ := DataW.trod_int Tryd.underlying3 f1
  obtain ⟨t, r, h2, h3⟩ := stampG_open f2
  simp only [List.cons.injEq, and_true] at h0 h1
  subst h0 h1 h2 h3
  exact ⟨⟨p, v, t, r⟩, rfl⟩
set_option maxHeartbeats 1000000 in
set_option maxRecDepth 100000 in
theorem regXs_open {H : Type} {enc : TypeId × Value → H} {w : World} {fuel : Nat} {v : Value} {x : DataW H × List MemPlace} (h : DataW.trod enc Tryd.prog w 0 (fun _ => true) true fuel 22 [v] = some x)
    (hs : ∀ n ∈ x.1.weights Tryd.prog 22, n ≤ reachBytes) : ∃ ai xs ci, v = .slice ai (List.length xs) ci ∧ RowG w ai xs ∧ xs.length ≤ ci ∧ xs.length * 32 ≤ 140737488355328 := by
  have hC : Tryd.prog.cellsOf 51 = 4 := by kernel_rfl
  rcases open_slice Tryd.underlying22 h with ⟨hcs, _⟩ | ⟨ad, l, c, m, n, D, Pl, hcs, hb, hl, hm, hmm, hx, hi⟩
  · simp only [List.cons.injEq, and_true] at hcs
    subst hcs
    exact ⟨none, [], 0, rfl, RowG.nil _ _, by simp, by simp⟩
  · simp only [List.cons.injEq, and_true] at hcs
    subst hcs
    simp only [if_true] at hmm
    have hdx : x.1 = .slice ((List.range l).map D) ((List.range (m - l)).map fun j => D (l + j)) := by rw [hx]
    have hbig : l * 32 ≤ 140737488355328 := by
      have h1 := hs ((((List.range l).map D).length + ((List.range (m - l)).map fun j => D (l + j)).length) * Tryd.prog.bytesOf 51) (by
        rw [hdx]
        simp [DataW.weights, Tryd.underlying22])
      rw [show Tryd.prog.bytesOf 51 = 32 from by kernel_rfl] at h1
      simp only [List.length_map, List.length_range, reachBytes] at h1
      have : l * 32 ≤ (l + (m - l)) * 32 := Nat.mul_le_mul_right _ (by omega)
      omega
    have hall : ∀ i, i < l → ∃ y : RgD, ∃ b off, ad = ⟨b, off, none⟩ ∧ RgAt w b (off + i * 4) y := by
      intro i hil
      obtain ⟨b, off, spot⟩ := ad
      have hspot : spot = none := by
        obtain ⟨cs0, hc0, _⟩ := hi 0 (by omega)
        rw [hC] at hc0
        obtain ⟨_, hcl0, hat0⟩ := World.cells?_some hc0
        have h1 := hat0 0 (by omega)
        rw [List.getElem?_eq_getElem (by omega)] at h1
        have h2 := World.cell?_spot h1
        simpa [Addr.add] using h2
      subst hspot
      obtain ⟨cs', hc, ht⟩ := hi i (by omega)
      rw [hC] at hc
      obtain ⟨_, hcl, hat⟩ := World.cells?_some hc
      match cs', hcl with
      | [d0, d1, d2, d3], _ =>
        obtain ⟨z, he⟩ := regX_open ht
        simp only [RgD.vals, List.cons.injEq, and_true] at he
        obtain ⟨rfl, rfl, rfl, rfl⟩ := he
        refine ⟨z, b, off, rfl, ?_⟩
        have hc0 := hat 0 (by omega)
        rw [add_add, addr_add, Nat.add_zero] at hc0
        have hc1 := hat 1 (by omega)
        rw [add_add, addr_add] at hc1
        have hc2 := hat 2 (by omega)
        rw [add_add, addr_add] at hc2
        have hc3 := hat 3 (by omega)
        rw [add_add, addr_add] at hc3
        refine ⟨?_, ?_, ?_, ?_⟩
        · rw [hc0]; rfl
        · rw [Nat.add_assoc, hc1]; rfl
        · rw [Nat.add_assoc, hc2]; rfl
        · rw [Nat.add_assoc, hc3]; rfl
    obtain ⟨os, ho1, ho2⟩ := list_ofG l hall
    subst ho1
    refine ⟨some ad, os, c, rfl, fun i y hy => ?_, hl, hbig⟩
    obtain ⟨b, off, e, h1⟩ := ho2 i y hy
    exact ⟨b, off, by rw [e], h1⟩
set_option maxHeartbeats 1000000 in
theorem actX_open {H : Type} {enc : TypeId × Value → H} {w : World} {fuel : Nat} {d0 d1 d2 d3 : Value} {x : DataW H × List MemPlace} (h : DataW.trod enc Tryd.prog w 0 (fun _ => true) true fuel 31 [d0, d1, d2, d3] = some x) : ∃ z : RgD, [d0, d1, d2, d3] = z.vals := by
  obtain ⟨ys, n', _, hD, _, hyl, hf'⟩ := DataW.trod_struct Tryd.underlying31 h
  have f0 : DataW.trod enc Tryd.prog w 0 (fun _ => true) true n' 3 (([d0, d1, d2, d3].drop 0).take (Tryd.prog.cellsOf 3)) = ys[0]? := hf' 0 _ rfl
  have f1 : DataW.trod enc Tryd.prog w 0 (fun _ => true) true n' 3 (([d0, d1, d2, d3].drop 1).take (Tryd.prog.cellsOf 3)) = ys[1]? := hf' 1 _ rfl
  have f2 : DataW.trod enc Tryd.prog w 0 (fun _ => true) true n' 29 (([d0, d1, d2, d3].drop 2).take (Tryd.prog.cellsOf 29)) = ys[2]? := hf' 2 _ rfl
  rw [show Tryd.prog.cellsOf 29 = 2 from by kernel_rfl] at f2
  rw [show Tryd.prog.cellsOf 3 = 1 from by kernel_rfl] at f0 f1
  have hy0 : ys[0]? = some (ys[0]'(by simp at hyl; omega)) := List.getElem?_eq_getElem _
  rw [hy0] at f0
  have hy1 : ys[1]? = some (ys[1]'(by simp at hyl; omega)) := List.getElem?_eq_getElem _
  rw [hy1] at f1
  have hy2 : ys[2]? = some (ys[2]'(by simp at hyl; omega)) := List.getElem?_eq_getElem _
  rw [hy2] at f2
  simp only [List.drop_zero, List.drop_succ_cons, List.take_succ_cons, List.take_zero] at f0 f1 f2
  obtain ⟨p, h0, _, _⟩ := DataW.trod_int Tryd.underlying3 f0
  obtain ⟨v, h1, _, _⟩ := DataW.trod_int Tryd.underlying3 f1
  obtain ⟨t, r, h2, h3⟩ := stampG_open f2
  simp only [List.cons.injEq, and_true] at h0 h1
  subst h0 h1 h2 h3
  exact ⟨⟨p, v, t, r⟩, rfl⟩
set_option maxHeartbeats 1000000 in
set_option maxRecDepth 100000 in
theorem actXs_open {H : Type} {enc : TypeId × Value → H} {w : World} {fuel : Nat} {v : Value} {x : DataW H × List MemPlace} (h : DataW.trod enc Tryd.prog w 0 (fun _ => true) true fuel 23 [v] = some x)
    (hs : ∀ n ∈ x.1.weights Tryd.prog 23, n ≤ reachBytes) : ∃ ai xs ci, v = .slice ai (List.length xs) ci ∧ RowG w ai xs ∧ xs.length ≤ ci ∧ xs.length * 32 ≤ 140737488355328 := by
  have hC : Tryd.prog.cellsOf 31 = 4 := by kernel_rfl
  rcases open_slice Tryd.underlying23 h with ⟨hcs, _⟩ | ⟨ad, l, c, m, n, D, Pl, hcs, hb, hl, hm, hmm, hx, hi⟩
  · simp only [List.cons.injEq, and_true] at hcs
    subst hcs
    exact ⟨none, [], 0, rfl, RowG.nil _ _, by simp, by simp⟩
  · simp only [List.cons.injEq, and_true] at hcs
    subst hcs
    simp only [if_true] at hmm
    have hdx : x.1 = .slice ((List.range l).map D) ((List.range (m - l)).map fun j => D (l + j)) := by rw [hx]
    have hbig : l * 32 ≤ 140737488355328 := by
      have h1 := hs ((((List.range l).map D).length + ((List.range (m - l)).map fun j => D (l + j)).length) * Tryd.prog.bytesOf 31) (by
        rw [hdx]
        simp [DataW.weights, Tryd.underlying23])
      rw [show Tryd.prog.bytesOf 31 = 32 from by kernel_rfl] at h1
      simp only [List.length_map, List.length_range, reachBytes] at h1
      have : l * 32 ≤ (l + (m - l)) * 32 := Nat.mul_le_mul_right _ (by omega)
      omega
    have hall : ∀ i, i < l → ∃ y : RgD, ∃ b off, ad = ⟨b, off, none⟩ ∧ RgAt w b (off + i * 4) y := by
      intro i hil
      obtain ⟨b, off, spot⟩ := ad
      have hspot : spot = none := by
        obtain ⟨cs0, hc0, _⟩ := hi 0 (by omega)
        rw [hC] at hc0
        obtain ⟨_, hcl0, hat0⟩ := World.cells?_some hc0
        have h1 := hat0 0 (by omega)
        rw [List.getElem?_eq_getElem (by omega)] at h1
        have h2 := World.cell?_spot h1
        simpa [Addr.add] using h2
      subst hspot
      obtain ⟨cs', hc, ht⟩ := hi i (by omega)
      rw [hC] at hc
      obtain ⟨_, hcl, hat⟩ := World.cells?_some hc
      match cs', hcl with
      | [d0, d1, d2, d3], _ =>
        obtain ⟨z, he⟩ := actX_open ht
        simp only [RgD.vals, List.cons.injEq, and_true] at he
        obtain ⟨rfl, rfl, rfl, rfl⟩ := he
        refine ⟨z, b, off, rfl, ?_⟩
        have hc0 := hat 0 (by omega)
        rw [add_add, addr_add, Nat.add_zero] at hc0
        have hc1 := hat 1 (by omega)
        rw [add_add, addr_add] at hc1
        have hc2 := hat 2 (by omega)
        rw [add_add, addr_add] at hc2
        have hc3 := hat 3 (by omega)
        rw [add_add, addr_add] at hc3
        refine ⟨?_, ?_, ?_, ?_⟩
        · rw [hc0]; rfl
        · rw [Nat.add_assoc, hc1]; rfl
        · rw [Nat.add_assoc, hc2]; rfl
        · rw [Nat.add_assoc, hc3]; rfl
    obtain ⟨os, ho1, ho2⟩ := list_ofG l hall
    subst ho1
    refine ⟨some ad, os, c, rfl, fun i y hy => ?_, hl, hbig⟩
    obtain ⟨b, off, e, h1⟩ := ho2 i y hy
    exact ⟨b, off, by rw [e], h1⟩
abbrev scG (ra : Option Addr) (rn rc : Nat) (qa : Option Addr) (qn qc : Nat) (la : Option Addr) (ln lc : Nat) : Obj := .cells #[.slice ra rn rc, .slice qa qn qc, .slice la ln lc] 25
/-- what a script reads as -/
structure ScG (w : World) (ra : Option Addr) (rs : List RgD) (rn rc : Nat) (qa : Option Addr) (qs : List RgD) (qn qc : Nat) (la : Option Addr) (ls : List RgD) (ln lc : Nat) : Prop where
  rr : RowG w ra rs
  rl : rn = rs.length
  rk : rn ≤ rc
  rm : rs.length * 32 ≤ 140737488355328
  qr : RowG w qa qs
  ql : qn = qs.length
  qk : qn ≤ qc
  qm : qs.length * 32 ≤ 140737488355328
  lr : RowG w la ls
  ll : ln = ls.length
  lk : ln ≤ lc
  lm : ls.length * 32 ≤ 140737488355328
theorem ScG.below {w w' : World} {ra : Option Addr} {rs : List RgD} {rn rc : Nat} {qa : Option Addr} {qs : List RgD} {qn qc : Nat} {la : Option Addr} {ls : List RgD} {ln lc : Nat} (h : ScG w ra rs rn rc qa qs qn qc la ls ln lc) (hb : Below w.heap.size w w') : ScG w' ra rs rn rc qa qs qn qc la ls ln lc :=
  ⟨h.rr.next hb, h.rl, h.rk, h.rm, h.qr.next hb, h.ql, h.qk, h.qm, h.lr.next hb, h.ll, h.lk, h.lm⟩
/-- a script's box -/
structure ScB (w : World) (b : Nat) (ra : Option Addr) (rn rc : Nat) (qa : Option Addr) (qn qc : Nat) (la : Option Addr) (ln lc : Nat) : Prop where
  c0 : w.cell? ⟨b, 0, none⟩ = some (.slice ra rn rc)
  c1 : w.cell? ⟨b, 1, none⟩ = some (.slice qa qn qc)
  c2 : w.cell? ⟨b, 2, none⟩ = some (.slice la ln lc)
theorem ScB.lt {w : World} {b : Nat} {ra : Option Addr} {rn rc : Nat} {qa : Option Addr} {qn qc : Nat} {la : Option Addr} {ln lc : Nat} (h : ScB w b ra rn rc qa qn qc la ln lc) : b < w.heap.size := World.block_lt_of_cell? _ _ h.c0
theorem ScB.below {w w' : World} {b B : Nat} {ra : Option Addr} {rn rc : Nat} {qa : Option Addr} {qn qc : Nat} {la : Option Addr} {ln lc : Nat} (h : ScB w b ra rn rc qa qn qc la ln lc) (hb : Below B w w') (hB : b < B) : ScB w' b ra rn rc qa qn qc la ln lc :=
  ⟨(hb.cell (p := ⟨b, 0, none⟩) hB).trans h.c0, (hb.cell (p := ⟨b, 1, none⟩) hB).trans h.c1, (hb.cell (p := ⟨b, 2, none⟩) hB).trans h.c2⟩
theorem ScB.next {w w' : World} {b : Nat} {ra : Option Addr} {rn rc : Nat} {qa : Option Addr} {qn qc : Nat} {la : Option Addr} {ln lc : Nat} (h : ScB w b ra rn rc qa qn qc la ln lc) (hb : Below w.heap.size w w') : ScB w' b ra rn rc qa qn qc la ln lc := h.below hb h.lt
theorem ScB.new (w : World) (ra : Option Addr) (rn rc : Nat) (qa : Option Addr) (qn qc : Nat) (la : Option Addr) (ln lc : Nat) : ScB (w.alloc (scG ra rn rc qa qn qc la ln lc)) w.heap.size ra rn rc qa qn qc la ln lc := ⟨by simp, by simp, by simp⟩
set_option maxHeartbeats 1000000 in
theorem scriptG_open {H : Type} {enc : TypeId × Value → H} {w : World} {cs : Array Value} {d : DataW H} {p : List MemPlace} (hcs : cs.size = Tryd.prog.cellsOf 25) (h : DataW.Trod enc Tryd.prog w 0 (fun _ => true) true 25 (.agg cs) d p)
    (hs : ∀ n ∈ d.weights Tryd.prog 25, n ≤ reachBytes) : ∃ ra rs rn rc qa qs qn qc la ls ln lc, cs = #[.slice ra rn rc, .slice qa qn qc, .slice la ln lc] ∧ ScG w ra rs rn rc qa qs qn qc la ls ln lc := by
  obtain ⟨fuel, hf⟩ := h
  have hC : Tryd.prog.cellsOf 25 = 3 := by kernel_rfl
  rw [hC] at hcs
  obtain ⟨l⟩ := cs
  match l, hcs with
  | [d0, d1, d2], _ =>
    have hf2 : DataW.trod enc Tryd.prog w 0 (fun _ => true) true fuel 25 [d0, d1, d2] = some (d, p) := by simpa [Value.cells] using hf
    obtain ⟨ys, n', _, hD, _, hyl, hf'⟩ := DataW.trod_struct Tryd.underlying25 hf2
    have f0 : DataW.trod enc Tryd.prog w 0 (fun _ => true) true n' 22 (([d0, d1, d2].drop 0).take (Tryd.prog.cellsOf 22)) = ys[0]? := hf' 0 _ rfl
    have f1 : DataW.trod enc Tryd.prog w 0 (fun _ => true) true n' 22 (([d0, d1, d2].drop 1).take (Tryd.prog.cellsOf 22)) = ys[1]? := hf' 1 _ rfl
    have f2 : DataW.trod enc Tryd.prog w 0 (fun _ => true) true n' 23 (([d0, d1, d2].drop 2).take (Tryd.prog.cellsOf 23)) = ys[2]? := hf' 2 _ rfl
    rw [show Tryd.prog.cellsOf 22 = 1 from by kernel_rfl] at f0 f1
    rw [show Tryd.prog.cellsOf 23 = 1 from by kernel_rfl] at f2
    have hy0 : ys[0]? = some (ys[0]'(by simp at hyl; omega)) := List.getElem?_eq_getElem _
    rw [hy0] at f0
    have hy1 : ys[1]? = some (ys[1]'(by simp at hyl; omega)) := List.getElem?_eq_getElem _
    rw [hy1] at f1
    have hy2 : ys[2]? = some (ys[2]'(by simp at hyl; omega)) := List.getElem?_eq_getElem _
    rw [hy2] at f2
    simp only [List.drop_zero, List.drop_succ_cons, List.take_succ_cons, List.take_zero] at f0 f1 f2
    have hxd : d = .agg (ys.map (·.1)) := by have := congrArg Prod.fst hD; exact this
    have hw0 : ∀ n ∈ (ys[0]'(by simp at hyl; omega)).1.weights Tryd.prog 22, n ≤ reachBytes := by
      intro n hn
      apply hs
      rw [hxd]
      simp only [DataW.weights, Tryd.underlying25]
      exact DataW.weights_mem_each (j := 0) (t := 22) (d := (ys[0]'(by simp at hyl; omega)).1) rfl (by rw [List.getElem?_map, hy0]; rfl) n hn
    have hw1 : ∀ n ∈ (ys[1]'(by simp at hyl; omega)).1.weights Tryd.prog 22, n ≤ reachBytes := by
      intro n hn
      apply hs
      rw [hxd]
      simp only [DataW.weights, Tryd.underlying25]
      exact DataW.weights_mem_each (j := 1) (t := 22) (d := (ys[1]'(by simp at hyl; omega)).1) rfl (by rw [List.getElem?_map, hy1]; rfl) n hn
    have hw2 : ∀ n ∈ (ys[2]'(by simp at hyl; omega)).1.weights Tryd.prog 23, n ≤ reachBytes := by
      intro n hn
      apply hs
      rw [hxd]
      simp only [DataW.weights, Tryd.underlying25]
      exact DataW.weights_mem_each (j := 2) (t := 23) (d := (ys[2]'(by simp at hyl; omega)).1) rfl (by rw [List.getElem?_map, hy2]; rfl) n hn
    obtain ⟨ra, rs, rc, rfl, a1, a2, a3⟩ := regXs_open f0 hw0
    obtain ⟨qa, qs, qc, rfl, b1, b2, b3⟩ := regXs_open f1 hw1
    obtain ⟨la, ls, lc, rfl, e1, e2, e3⟩ := actXs_open f2 hw2
    exact ⟨ra, rs, _, rc, qa, qs, _, qc, la, ls, _, lc, rfl, a1, rfl, a2, a3, b1, rfl, b2, b3, e1, rfl, e2, e3⟩
end Go.Proofs.YtjpjjckokonkpaaDoor
