/- Too much to be played; awake; an ask at a place; a list of asks opened. -/
import Derived.Test.YtponpbcchfbkpaaH5
import Derived.ProofKit
import Derived.OpenShut
import Derived.Deep.Slices
import Derived.Deep.Fields
import Derived.ChangeSame
import Derived.ChangeSlices
import Derived.ChangeArms
import Derived.SizedLaws
namespace Go.Proofs.Ytponpbcchfbkpaa
open Go.ChangeShapes Go.WideShapes Go.ChangeAt Go.RowKit Go.Deep Go.Lib
set_option linter.unusedVariables false

def heavy7 (n m x : Nat) : Bool := decide (2000 < n + m ∨ 3000 < x)
set_option maxHeartbeats 1000000 in
theorem heavy_any (al am ax : Option Addr) (nl cl nm cm nx cx : Nat) (w : World) (h1 : nl ≤ 140737488355328) (h2 : nm ≤ 140737488355328) :
    Calls Try.prog 7 #[.agg #[.slice al nl cl, .slice am nm cm, .slice ax nx cx]] w (BoolPost w (heavy7 nl nm nx)) := by
  by_cases h3 : 2000 < nl + nm
  · have hy : (2000 : Int) < (nl : Int) + (nm : Int) := by omega
    have hz : decide ((2000 : Int) < (nl : Int) + (nm : Int)) = true := decide_eq_true hy
    have HE : Hid (heavy7 nl nm nx = true) := by show _ = true; simp [heavy7]; omega
    go_enter Try.func7, Try.ntmps7
    go_wp2
    go_ret
    exact ⟨by rw [HE.out]; rfl, (Below.refl _ _).alloc (Nat.le_refl _) _⟩
  · have hy : ¬ (2000 : Int) < (nl : Int) + (nm : Int) := by omega
    have hz : decide ((2000 : Int) < (nl : Int) + (nm : Int)) = false := decide_eq_false hy
    by_cases h4 : 3000 < nx
    · have hx : (3000 : Int) < (nx : Int) := by omega
      have HE : Hid (heavy7 nl nm nx = true) := by show _ = true; simp [heavy7]; omega
      go_enter Try.func7, Try.ntmps7
      go_wp2
      go_ret
      exact ⟨by rw [HE.out]; rfl, (Below.refl _ _).alloc (Nat.le_refl _) _⟩
    · have hx : ¬ (3000 : Int) < (nx : Int) := by omega
      have HE : Hid (heavy7 nl nm nx = false) := by show _ = false; simp [heavy7]; omega
      go_enter Try.func7, Try.ntmps7
      go_wp2
      go_ret
      exact ⟨by rw [HE.out]; rfl, (Below.refl _ _).alloc (Nat.le_refl _) _⟩

theorem two_row (W : World) (x y : Int) : RowK .i64 (W.alloc (.cells #[.int .i64 x, .int .i64 y] 3)) (some ⟨W.heap.size, 0, none⟩) [x, y] := by
  intro i hi
  simp only [List.length_cons, List.length_nil] at hi
  rcases (show i = 0 ∨ i = 1 by omega) with rfl | rfl
  · exact ⟨W.heap.size, 0, rfl, by simp⟩
  · exact ⟨W.heap.size, 0, rfl, by simp⟩

set_option maxHeartbeats 1000000 in
theorem wakes_any (w : World) : Calls Try.prog 20 #[] w (BoolPost w true) := by
  have H1 := Lib.hid (join_yes (some ⟨w.heap.size, 0, none⟩) (some ⟨w.heap.size + 1, 0, none⟩) [1, 4] [2, 3] 2 2 2 2 ((w.alloc (.cells #[.int .i64 1, .int .i64 4] 3)).alloc (.cells #[.int .i64 2, .int .i64 3] 3)) ((two_row w 1 4).alloc _)
    (by have := two_row (w.alloc (.cells #[.int .i64 1, .int .i64 4] 3)) 2 3; simpa using this) rfl rfl (by decide))
  have HB0 := Lib.hid (((Below.refl w.heap.size w).alloc (Nat.le_refl _) (.cells #[.int .i64 1, .int .i64 4] 3)).alloc (by simp) (.cells #[.int .i64 2, .int .i64 3] 3))
  go_enter Try.func20, Try.ntmps20
  go_wp2_with fail
  refine (H1.out).mono ?_
  rintro e w1 ⟨v1, rfl, ho, hb⟩
  rw [show joinL [1, 4] [2, 3] = [2, 4] from rfl] at ho
  obtain ⟨a1, c1, rfl, hr1, hc1, _⟩ := ho.form
  have HB := Lib.hid (HB0.out.trans (hb.mono HB0.out.size))
  have HE := Lib.hid (eqI_yes a1 (some ⟨w1.heap.size, 0, none⟩) [2, 4] 2 2 c1 2 (w1.alloc (.cells #[.int .i64 2, .int .i64 4] 3)) (hr1.alloc _) (two_row w1 2 4) rfl rfl (by simp))
  have HN := Lib.hid (fun W => num_any 0 W)
  have hbs := HB.out.size
  clear ho hb hr1 H1 HB0
  go_wp2_with fail
  refine (HN.out _).mono ?_
  rintro e w' ⟨rfl, rfl⟩
  go_wp2_with fail
  refine (HE.out).mono ?_
  rintro e w2 ⟨rfl, n, rfl⟩
  go_wp2
  go_ret
  exact ⟨rfl, below_drewN (HB.out.alloc hbs _) _⟩

/-- an ask at a place -/
structure AskAt (w : World) (b o : Nat) (al : Option Addr) (nl cl : Nat) (am : Option Addr) (nm cm : Nat) (ax : Option Addr) (nx cx : Nat) : Prop where
  c0 : w.cell? ⟨b, o, none⟩ = some (.slice al nl cl)
  c1 : w.cell? ⟨b, o + 1, none⟩ = some (.slice am nm cm)
  c2 : w.cell? ⟨b, o + 2, none⟩ = some (.slice ax nx cx)
theorem AskAt.lt {w : World} {b o : Nat} {al am ax : Option Addr} {nl cl nm cm nx cx : Nat} (h : AskAt w b o al nl cl am nm cm ax nx cx) : b < w.heap.size := World.block_lt_of_cell? _ _ h.c0
theorem AskAt.below {w w' : World} {b o B : Nat} {al am ax : Option Addr} {nl cl nm cm nx cx : Nat} (h : AskAt w b o al nl cl am nm cm ax nx cx) (hb : Below B w w') (hB : b < B) : AskAt w' b o al nl cl am nm cm ax nx cx :=
  ⟨(hb.cell (p := ⟨b, o, none⟩) hB).trans h.c0, (hb.cell (p := ⟨b, o + 1, none⟩) hB).trans h.c1, (hb.cell (p := ⟨b, o + 2, none⟩) hB).trans h.c2⟩
/-- what is told of an ask's rows -/
structure AskRows (w : World) (al : Option Addr) (ls : List Int) (cl : Nat) (am : Option Addr) (ms : List Int) (cm : Nat) (ax : Option Addr) (xs : List Int) (cx : Nat) : Prop where
  rl : RowK .i64 w al ls
  rm : RowK .i64 w am ms
  rx : RowK .u8 w ax xs
theorem AskRows.below {w w' : World} {al am ax : Option Addr} {ls ms xs : List Int} {cl cm cx : Nat} (h : AskRows w al ls cl am ms cm ax xs cx) (hb : Below w.heap.size w w') : AskRows w' al ls cl am ms cm ax xs cx :=
  ⟨h.rl.below hb (Nat.le_refl _), h.rm.below hb (Nat.le_refl _), h.rx.below hb (Nat.le_refl _)⟩
structure AskSize (ls : List Int) (cl : Nat) (ms : List Int) (cm : Nat) (xs : List Int) (cx : Nat) : Prop where
  isB : IsB xs
  xc : xs.length ≤ cx
  lc : ls.length ≤ cl
  mc : ms.length ≤ cm
  ll : ls.length ≤ 140737488355328
  ml : ms.length ≤ 140737488355328
def AsksIs (w : World) (a : Option Addr) (len : Nat) : Prop :=
  ∀ i, i < len → ∃ b off al ls cl am ms cm ax xs cx, a = some ⟨b, off, none⟩ ∧ AskAt w b (off + i * 3) al (List.length ls) cl am (List.length ms) cm ax (List.length xs) cx ∧ AskRows w al ls cl am ms cm ax xs cx ∧ AskSize ls cl ms cm xs cx

theorem rowK_open {H : Type} {enc : TypeId × Value → H} {w : World} {fuel : Nat} {v : Value} {x : DataW H × List MemPlace} {t e : TypeId} {kd : IntKind} (ht : Try.prog.underlying t = some (.slice e)) (he : Try.prog.underlying e = some (.int kd)) (hce : Try.prog.cellsOf e = 1) (h : DataW.trod enc Try.prog w 0 (fun _ => true) true fuel t [v] = some x) :
    ∃ ai ws ci, v = .slice ai ws.length ci ∧ RowK kd w ai ws ∧ (∀ z ∈ ws, (Lit.int kd z).wf = true) ∧ ws.length ≤ ci := by
  rcases open_ints ht he hce h with ⟨hcs, _⟩ | ⟨a, len, cap, zs, hcs, _, hl, hm, hz, _, hcell, hwz⟩
  · simp only [List.cons.injEq, and_true] at hcs
    exact ⟨none, [], 0, hcs, fun i hi => by simp at hi, fun z hz => by simp at hz, by simp⟩
  · simp only [List.cons.injEq, and_true] at hcs
    simp only [if_true] at hz
    have hlen : (zs.take len).length = len := by rw [List.length_take]; omega
    refine ⟨some a, zs.take len, cap, by rw [hlen]; exact hcs, ?_, fun z hz => hwz z (List.mem_of_mem_take hz), by omega⟩
    intro i hi
    rw [hlen] at hi
    obtain ⟨b, off, spot⟩ := a
    have hc0 := hcell 0 (by omega)
    have hspot : spot = none := by simpa [Addr.add] using World.cell?_spot hc0
    subst hspot
    have hc := hcell i (by omega)
    refine ⟨b, off, rfl, ?_⟩
    have e : (zs.take len).getD i 0 = zs.getD i 0 := by simp [List.getD, hi]
    rw [e, ← addr_add]
    exact hc
theorem isB_of {ws : List Int} (h : ∀ z ∈ ws, (Lit.int .u8 z).wf = true) : IsB ws := fun z hz => by
  have := h z hz
  simp [Lit.wf, IntKind.min, IntKind.max, IntKind.signed, IntKind.bits] at this
  omega
theorem weights_mem_all {H : Type} {P : Program} {e : TypeId} : ∀ {ds : List (DataW H)} {d : DataW H}, d ∈ ds → ∀ n ∈ d.weights P e, n ∈ DataW.weightsAll P e ds
  | [], _, h, _, _ => by simp at h
  | x :: r, d, h, n, hn => by
    simp only [DataW.weightsAll, List.mem_append]
    rcases List.mem_cons.1 h with h | h
    · subst h; exact Or.inl hn
    · exact Or.inr (weights_mem_all h n hn)
theorem rowI_open_sized {H : Type} {enc : TypeId × Value → H} {w : World} {fuel : Nat} {v : Value} {x : DataW H × List MemPlace} (h : DataW.trod enc Try.prog w 0 (fun _ => true) true fuel 23 [v] = some x)
    (hs : ∀ n ∈ x.1.weights Try.prog 23, n ≤ reachBytes) : ∃ ai ws ci, v = .slice ai ws.length ci ∧ RowK .i64 w ai ws ∧ ws.length ≤ ci ∧ ws.length ≤ 140737488355328 := by
  obtain ⟨ai, ws, ci, hv, hr, _, hc⟩ := rowK_open Try.underlying23 Try.underlying3 (by kernel_rfl) h
  refine ⟨ai, ws, ci, hv, hr, hc, ?_⟩
  rcases open_ints Try.underlying23 Try.underlying3 (by kernel_rfl) h with ⟨hcs, _⟩ | ⟨a, len, cap, zs, hcs, _, hl, hm, hz, hx, _, _⟩
  · simp only [List.cons.injEq, and_true] at hcs
    rw [hv] at hcs
    simp only [Value.slice.injEq] at hcs
    omega
  · simp only [List.cons.injEq, and_true] at hcs
    rw [hv] at hcs
    simp only [Value.slice.injEq] at hcs
    have h1 := hs (((lits .i64 (zs.take len) : List (DataW H)).length + (lits .i64 (zs.drop len) : List (DataW H)).length) * Try.prog.bytesOf 3) (by
      rw [hx]
      simp [DataW.weights, Try.underlying23])
    rw [show Try.prog.bytesOf 3 = 8 from by kernel_rfl] at h1
    simp only [if_true] at hz
    simp only [lits, List.length_map, List.length_take, List.length_drop, reachBytes] at h1
    omega

theorem asks_open_sized {H : Type} {enc : TypeId × Value → H} {w : World} {a : Option Addr} {len cap : Nat} {d : DataW H} {p : List MemPlace} (h : DataW.Trod enc Try.prog w 0 (fun _ => true) true 22 (.slice a len cap) d p)
    (hs : ∀ n ∈ d.weights Try.prog 22, n ≤ reachBytes) : AsksIs w a len := by
  obtain ⟨fuel, hf⟩ := h
  have hC : Try.prog.cellsOf 26 = 3 := by kernel_rfl
  rcases open_slice Try.underlying22 hf with ⟨hcs, _⟩ | ⟨x, l, c, m, n, D, Pl, hcs, hb, hl, hm, hmm, hx, hi⟩
  · simp [Value.cells] at hcs
    obtain ⟨rfl, rfl, rfl⟩ := hcs
    intro i hi; omega
  · simp [Value.cells] at hcs
    obtain ⟨rfl, rfl, rfl⟩ := hcs
    simp only [if_true] at hmm
    intro i hil
    obtain ⟨b, off, spot⟩ := x
    have hspot : spot = none := by
      obtain ⟨cs0, hc0, _⟩ := hi 0 (by omega)
      rw [hC] at hc0
      obtain ⟨_, hcl0, hat0⟩ := World.cells?_some hc0
      have h1 := hat0 0 (by omega)
      rw [List.getElem?_eq_getElem (by omega)] at h1
      have h2 := World.cell?_spot h1
      simpa [Addr.add] using h2
    subst hspot
    obtain ⟨cs', hc, ht⟩ := hi i (by omega)
    rw [hC] at hc
    obtain ⟨_, hcl, hat⟩ := World.cells?_some hc
    obtain ⟨ys, n', _, hD, _, hyl, hf'⟩ := DataW.trod_struct Try.underlying26 ht
    have f0 : DataW.trod enc Try.prog w 0 (fun _ => true) true n' 23 ((cs'.drop 0).take (Try.prog.cellsOf 23)) = ys[0]? := hf' 0 _ rfl
    have f1 : DataW.trod enc Try.prog w 0 (fun _ => true) true n' 23 ((cs'.drop 1).take (Try.prog.cellsOf 23)) = ys[1]? := hf' 1 _ rfl
    have f2 : DataW.trod enc Try.prog w 0 (fun _ => true) true n' 24 ((cs'.drop 2).take (Try.prog.cellsOf 24)) = ys[2]? := hf' 2 _ rfl
    rw [show Try.prog.cellsOf 23 = 1 from by kernel_rfl] at f0 f1
    rw [show Try.prog.cellsOf 24 = 1 from by kernel_rfl] at f2
    match cs', hcl with
    | [d0, d1, d2], _ =>
      have hy0 : ys[0]? = some (ys[0]'(by simp at hyl; omega)) := List.getElem?_eq_getElem _
      have hy1 : ys[1]? = some (ys[1]'(by simp at hyl; omega)) := List.getElem?_eq_getElem _
      have hy2 : ys[2]? = some (ys[2]'(by simp at hyl; omega)) := List.getElem?_eq_getElem _
      have hwE : ∀ n, n ∈ (D i).weights Try.prog 26 → n ≤ reachBytes := by
        intro n hn
        apply hs
        have hdx : d = .slice ((List.range len).map D) ((List.range (m - len)).map fun j => D (len + j)) := by
          simp only [Prod.mk.injEq] at hx; exact hx.1
        rw [hdx]
        simp only [DataW.weights, Try.underlying22]
        refine List.mem_cons_of_mem _ (List.mem_append.2 (Or.inl ?_))
        exact weights_mem_all (List.mem_map.2 ⟨i, List.mem_range.2 hil, rfl⟩) n hn
      have hDi : D i = .agg (ys.map (·.1)) := by
        simp only [Prod.mk.injEq] at hD; exact hD.1
      have hw0 : ∀ n ∈ (ys[0]'(by simp at hyl; omega)).1.weights Try.prog 23, n ≤ reachBytes := by
        intro n hn
        apply hwE
        rw [hDi]
        simp only [DataW.weights, Try.underlying26]
        exact DataW.weights_mem_each (j := 0) (t := 23) (d := (ys[0]'(by simp at hyl; omega)).1) rfl (by rw [List.getElem?_map, hy0]; rfl) n hn
      have hw1 : ∀ n ∈ (ys[1]'(by simp at hyl; omega)).1.weights Try.prog 23, n ≤ reachBytes := by
        intro n hn
        apply hwE
        rw [hDi]
        simp only [DataW.weights, Try.underlying26]
        exact DataW.weights_mem_each (j := 1) (t := 23) (d := (ys[1]'(by simp at hyl; omega)).1) rfl (by rw [List.getElem?_map, hy1]; rfl) n hn
      rw [hy0] at f0
      rw [hy1] at f1
      rw [hy2] at f2
      simp only [List.drop_zero, List.drop_succ_cons, List.take_succ_cons, List.take_zero] at f0 f1 f2
      obtain ⟨al, ls, cl, hv1, hr1, hcl1, hll⟩ := rowI_open_sized f0 hw0
      obtain ⟨am, ms, cm, hv2, hr2, hcm1, hml⟩ := rowI_open_sized f1 hw1
      obtain ⟨ax, xs, cx, hv3, hr3, hwf3, hcx⟩ := rowK_open Try.underlying24 Try.underlying5 (by kernel_rfl) f2
      subst hv1 hv2 hv3
      have hc0 := hat 0 (by omega)
      have hc1 := hat 1 (by omega)
      have hc2 := hat 2 (by omega)
      rw [add_add] at hc0 hc1 hc2
      rw [addr_add] at hc0 hc1 hc2
      rw [Nat.add_zero] at hc0
      refine ⟨b, off, al, ls, cl, am, ms, cm, ax, xs, cx, rfl, ⟨?_, ?_, ?_⟩, ⟨hr1, hr2, hr3⟩, ⟨isB_of hwf3, hcx, hcl1, hcm1, hll, hml⟩⟩
      · rw [hc0]; rfl
      · rw [Nat.add_assoc, hc1]; rfl
      · rw [Nat.add_assoc, hc2]; rfl
end Go.Proofs.Ytponpbcchfbkpaa
