/- Stamps: the next one; awake; a list of asks opened. -/
import Derived.Test.YtgbhpjhofdhmeaaS3
import Derived.ProofKit
import Derived.OpenShut
import Derived.Deep.Slices
import Derived.Deep.Fields
import Derived.ChangeSame
import Derived.ChangeSlices
import Derived.ChangeArms
namespace Go.Proofs.Ytgbhpjhofdhmeaa
open Go.ChangeShapes Go.WideShapes Go.ChangeAt Go.RowKit Go.Deep Go.Lib
set_option linter.unusedVariables false

def NextPost (w : World) (t r z : Int) (e : Ending) (w' : World) : Prop := e = .returned (.tuple #[.agg #[.int .i64 t, .int .i64 r], .int .i64 z]) ∧ Below w.heap.size w w'

set_option maxHeartbeats 400000 in
theorem next_low (t r : Int) (h : t < 0) (w : World) : Calls Try.prog 14 #[.int .i64 t, .int .i64 r] w (NextPost w 0 0 1) := by
  have hb0 := st_build0
  have hb1 := st_build
  go_enter Try.func14, Try.ntmps14
  go_wp2
  refine bodyPost_ret (v := .tuple #[.agg #[.int .i64 0, .int .i64 0], .int .i64 1]) (by simp [results, Try.results14, go_sem]) rfl ⟨rfl, ?_⟩
  exact (Below.refl _ _).alloc (Nat.le_refl _) _

set_option maxHeartbeats 400000 in
theorem next_high (t r : Int) (h : 1099511627776 < t) (w : World) : Calls Try.prog 14 #[.int .i64 t, .int .i64 r] w (NextPost w 0 0 1) := by
  have hb0 := st_build0
  have hb1 := st_build
  have g : ¬ t < 0 := by omega
  go_enter Try.func14, Try.ntmps14
  go_wp2
  refine bodyPost_ret (v := .tuple #[.agg #[.int .i64 0, .int .i64 0], .int .i64 1]) (by simp [results, Try.results14, go_sem]) rfl ⟨rfl, ?_⟩
  exact (Below.refl _ _).alloc (Nat.le_refl _) _

set_option maxHeartbeats 400000 in
theorem next_rep (t r : Int) (g1 : ¬ t < 0) (g2 : ¬ 1099511627776 < t) (h : ¬ (0 ≤ r ∧ r < 16)) (w : World) : Calls Try.prog 14 #[.int .i64 t, .int .i64 r] w (NextPost w 0 0 1) := by
  have hb0 := st_build0
  have hb1 := st_build
  have C := Lib.hid (fun W => isRep_is r false (by simp [repB]; omega) W)
  go_enter Try.func14, Try.ntmps14
  go_wp2_with fail
  refine (C.out _).mono ?_
  rintro e w' ⟨rfl, rfl⟩
  go_wp2
  refine bodyPost_ret (v := .tuple #[.agg #[.int .i64 0, .int .i64 0], .int .i64 1]) (by simp [results, Try.results14, go_sem]) rfl ⟨rfl, ?_⟩
  exact (Below.refl _ _).alloc (Nat.le_refl _) _

set_option maxHeartbeats 400000 in
theorem next_full (t r : Int) (h : t = 1099511627776) (h3 : 0 ≤ r ∧ r < 16) (w : World) : Calls Try.prog 14 #[.int .i64 t, .int .i64 r] w (NextPost w 0 0 5) := by
  have hb0 := st_build0
  have hb1 := st_build
  have g1 : ¬ t < 0 := by omega
  have g2 : ¬ 1099511627776 < t := by omega
  have C := Lib.hid (fun W => isRep_is r true (by simp [repB]; omega) W)
  go_enter Try.func14, Try.ntmps14
  go_wp2_with fail
  refine (C.out _).mono ?_
  rintro e w' ⟨rfl, rfl⟩
  go_wp2
  refine bodyPost_ret (v := .tuple #[.agg #[.int .i64 0, .int .i64 0], .int .i64 5]) (by simp [results, Try.results14, go_sem]) rfl ⟨rfl, ?_⟩
  exact (Below.refl _ _).alloc (Nat.le_refl _) _

set_option maxHeartbeats 400000 in
theorem next_ok (t r : Int) (h1 : 0 ≤ t) (h2 : t < 1099511627776) (h3 : 0 ≤ r ∧ r < 16) (w : World) : Calls Try.prog 14 #[.int .i64 t, .int .i64 r] w (NextPost w (t + 1) r 0) := by
  have hb0 := st_build0
  have hb1 := st_build
  have g1 : ¬ t < 0 := by omega
  have g2 : ¬ 1099511627776 < t := by omega
  have g3 : (t == 1099511627776) = false := by simp; omega
  have C := Lib.hid (fun W => isRep_is r true (by simp [repB]; omega) W)
  go_enter Try.func14, Try.ntmps14
  go_wp2_with fail
  refine (C.out _).mono ?_
  rintro e w' ⟨rfl, rfl⟩
  go_wp2
  refine bodyPost_ret (v := .tuple #[.agg #[.int .i64 (t + 1), .int .i64 r], .int .i64 0]) (by simp [results, Try.results14, go_sem]) rfl ⟨rfl, ?_⟩
  exact (Below.refl _ _).alloc (Nat.le_refl _) _

set_option maxHeartbeats 1000000 in
theorem wakes_any (w : World) : Calls Try.prog 13 #[] w (BoolPost w true) := by
  have C := Lib.hid (next_ok 4 2 (by decide) (by decide) (by decide) w)
  have D := Lib.hid (fun W => num_any 0 W)
  have hG := st_guard
  have hb := st_build
  have hE : ∀ W, (binOp .eql 24 (.agg #[.int .i64 5, .int .i64 2]) (.agg #[.int .i64 5, .int .i64 2])).run Try.prog W = .ok (.bool true) W := fun W => st_eql 5 2 5 2 W
  go_enter Try.func13, Try.ntmps13
  go_wp2_with fail
  refine (C.out).mono ?_
  rintro e w1 ⟨rfl, hb1⟩
  have HB := Lib.hid (hb1.alloc hb1.size (.cells #[.int .i64 5, .int .i64 2] 24))
  clear hb1 C
  go_wp2_with fail
  refine (D.out _).mono ?_
  rintro e w' ⟨rfl, rfl⟩
  go_wp2
  go_ret
  exact ⟨rfl, HB.out⟩

/-- an ask at a place -/
structure AskAt (w : World) (b o : Nat) (t r u v : Int) (ax : Option Addr) (nx cx : Nat) : Prop where
  c0 : w.cell? ⟨b, o, none⟩ = some (.int .i64 t)
  c1 : w.cell? ⟨b, o + 1, none⟩ = some (.int .i64 r)
  c2 : w.cell? ⟨b, o + 2, none⟩ = some (.int .i64 u)
  c3 : w.cell? ⟨b, o + 3, none⟩ = some (.int .i64 v)
  c4 : w.cell? ⟨b, o + 4, none⟩ = some (.slice ax nx cx)
theorem AskAt.lt {w : World} {b o : Nat} {t r u v : Int} {ax : Option Addr} {nx cx : Nat} (h : AskAt w b o t r u v ax nx cx) : b < w.heap.size := World.block_lt_of_cell? _ _ h.c0
theorem AskAt.below {w w' : World} {b o B : Nat} {t r u v : Int} {ax : Option Addr} {nx cx : Nat} (h : AskAt w b o t r u v ax nx cx) (hb : Below B w w') (hB : b < B) : AskAt w' b o t r u v ax nx cx :=
  ⟨(hb.cell (p := ⟨b, o, none⟩) hB).trans h.c0, (hb.cell (p := ⟨b, o + 1, none⟩) hB).trans h.c1, (hb.cell (p := ⟨b, o + 2, none⟩) hB).trans h.c2, (hb.cell (p := ⟨b, o + 3, none⟩) hB).trans h.c3, (hb.cell (p := ⟨b, o + 4, none⟩) hB).trans h.c4⟩
theorem AskAt.drew {w : World} {b o : Nat} {t r u v : Int} {ax : Option Addr} {nx cx : Nat} (h : AskAt w b o t r u v ax nx cx) : AskAt w.drew b o t r u v ax nx cx := ⟨h.c0, h.c1, h.c2, h.c3, h.c4⟩
def AsksIs (w : World) (a : Option Addr) (len : Nat) : Prop :=
  ∀ i, i < len → ∃ b off t r u v ax xs cx, a = some ⟨b, off, none⟩ ∧ AskAt w b (off + i * 5) t r u v ax (List.length xs) cx ∧ RowK .u8 w ax xs ∧ IsB xs ∧ xs.length ≤ cx ∧ (Lit.int .i64 t).wf = true ∧ (Lit.int .i64 r).wf = true ∧ (Lit.int .i64 u).wf = true ∧ (Lit.int .i64 v).wf = true

theorem rowK_open {H : Type} {enc : TypeId × Value → H} {w : World} {fuel : Nat} {v : Value} {x : DataW H × List MemPlace} {t e : TypeId} {kd : IntKind} (ht : Try.prog.underlying t = some (.slice e)) (he : Try.prog.underlying e = some (.int kd)) (hce : Try.prog.cellsOf e = 1) (h : DataW.trod enc Try.prog w 0 (fun _ => true) true fuel t [v] = some x) :
    ∃ ai ws ci, v = .slice ai ws.length ci ∧ RowK kd w ai ws ∧ (∀ z ∈ ws, (Lit.int kd z).wf = true) ∧ ws.length ≤ ci := by
  rcases open_ints ht he hce h with ⟨hcs, _⟩ | ⟨a, len, cap, zs, hcs, _, hl, hm, hz, _, hcell, hwz⟩
  · simp only [List.cons.injEq, and_true] at hcs
    exact ⟨none, [], 0, hcs, fun i hi => by simp at hi, fun z hz => by simp at hz, by simp⟩
  · simp only [List.cons.injEq, and_true] at hcs
    simp only [if_true] at hz
    have hlen : (zs.take len).length = len := by rw [List.length_take]; omega
    refine ⟨some a, zs.take len, cap, by rw [hlen]; exact hcs, ?_, fun z hz => hwz z (List.mem_of_mem_take hz), by omega⟩
    intro i hi
    rw [hlen] at hi
    obtain ⟨b, off, spot⟩ := a
    have hc0 := hcell 0 (by omega)
    have hspot : spot = none := by simpa [Addr.add] using World.cell?_spot hc0
    subst hspot
    have hc := hcell i (by omega)
    refine ⟨b, off, rfl, ?_⟩
    have e : (zs.take len).getD i 0 = zs.getD i 0 := by simp [List.getD, hi]
    rw [e, ← addr_add]
    exact hc

theorem isB_of {ws : List Int} (h : ∀ z ∈ ws, (Lit.int .u8 z).wf = true) : IsB ws := fun z hz => by
  have := h z hz
  simp [Lit.wf, IntKind.min, IntKind.max, IntKind.signed, IntKind.bits] at this
  omega

theorem st_open {H : Type} {enc : TypeId × Value → H} {w : World} {fuel : Nat} {cs : List Value} {x : DataW H × List MemPlace} (h : DataW.trod enc Try.prog w 0 (fun _ => true) true fuel 24 cs = some x) :
    ∃ t r, cs = [.int .i64 t, .int .i64 r] ∧ (Lit.int .i64 t).wf = true ∧ (Lit.int .i64 r).wf = true := by
  obtain ⟨ys, n', _, _, hl, hyl, hf'⟩ := DataW.trod_struct Try.underlying24 h
  rw [show Try.prog.cellsOf 24 = 2 from by kernel_rfl] at hl
  have f0 : DataW.trod enc Try.prog w 0 (fun _ => true) true n' 3 ((cs.drop 0).take (Try.prog.cellsOf 3)) = ys[0]? := hf' 0 _ rfl
  have f1 : DataW.trod enc Try.prog w 0 (fun _ => true) true n' 3 ((cs.drop 1).take (Try.prog.cellsOf 3)) = ys[1]? := hf' 1 _ rfl
  rw [show Try.prog.cellsOf 3 = 1 from by kernel_rfl] at f0 f1
  match cs, hl with
  | [d0, d1], _ =>
    have hy0 : ys[0]? = some (ys[0]'(by simp at hyl; omega)) := List.getElem?_eq_getElem _
    have hy1 : ys[1]? = some (ys[1]'(by simp at hyl; omega)) := List.getElem?_eq_getElem _
    rw [hy0] at f0
    rw [hy1] at f1
    simp only [List.drop_zero, List.drop_succ_cons, List.take_succ_cons, List.take_zero] at f0 f1
    obtain ⟨t, ht0, ht1, _⟩ := DataW.trod_int Try.underlying3 f0
    obtain ⟨r, hr0, hr1, _⟩ := DataW.trod_int Try.underlying3 f1
    simp only [List.cons.injEq, and_true] at ht0 hr0
    exact ⟨t, r, by rw [ht0, hr0], by assumption, by assumption⟩

theorem asks_open {H : Type} {enc : TypeId × Value → H} {w : World} {a : Option Addr} {len cap : Nat} {d : DataW H} {p : List MemPlace} (h : DataW.Trod enc Try.prog w 0 (fun _ => true) true 22 (.slice a len cap) d p) : AsksIs w a len := by
  obtain ⟨fuel, hf⟩ := h
  have hC : Try.prog.cellsOf 27 = 5 := by kernel_rfl
  rcases open_slice Try.underlying22 hf with ⟨hcs, _⟩ | ⟨x, l, c, m, n, D, Pl, hcs, hb, hl, hm, hmm, hx, hi⟩
  · simp [Value.cells] at hcs
    obtain ⟨rfl, rfl, rfl⟩ := hcs
    intro i hi; omega
  · simp [Value.cells] at hcs
    obtain ⟨rfl, rfl, rfl⟩ := hcs
    simp only [if_true] at hmm
    intro i hil
    obtain ⟨b, off, spot⟩ := x
    have hspot : spot = none := by
      obtain ⟨cs0, hc0, _⟩ := hi 0 (by omega)
      rw [hC] at hc0
      obtain ⟨_, hcl0, hat0⟩ := World.cells?_some hc0
      have h1 := hat0 0 (by omega)
      rw [List.getElem?_eq_getElem (by omega)] at h1
      have h2 := World.cell?_spot h1
      simpa [Addr.add] using h2
    subst hspot
    obtain ⟨cs', hc, ht⟩ := hi i (by omega)
    rw [hC] at hc
    obtain ⟨_, hcl, hat⟩ := World.cells?_some hc
    obtain ⟨ys, n', _, _, _, hyl, hf'⟩ := DataW.trod_struct Try.underlying27 ht
    have f0 : DataW.trod enc Try.prog w 0 (fun _ => true) true n' 24 ((cs'.drop 0).take (Try.prog.cellsOf 24)) = ys[0]? := hf' 0 _ rfl
    have f1 : DataW.trod enc Try.prog w 0 (fun _ => true) true n' 24 ((cs'.drop 2).take (Try.prog.cellsOf 24)) = ys[1]? := hf' 1 _ rfl
    have f2 : DataW.trod enc Try.prog w 0 (fun _ => true) true n' 25 ((cs'.drop 4).take (Try.prog.cellsOf 25)) = ys[2]? := hf' 2 _ rfl
    rw [show Try.prog.cellsOf 24 = 2 from by kernel_rfl] at f0 f1
    rw [show Try.prog.cellsOf 25 = 1 from by kernel_rfl] at f2
    match cs', hcl with
    | [d0, d1, d2, d3, d4], _ =>
      have hy0 : ys[0]? = some (ys[0]'(by simp at hyl; omega)) := List.getElem?_eq_getElem _
      have hy1 : ys[1]? = some (ys[1]'(by simp at hyl; omega)) := List.getElem?_eq_getElem _
      have hy2 : ys[2]? = some (ys[2]'(by simp at hyl; omega)) := List.getElem?_eq_getElem _
      rw [hy0] at f0
      rw [hy1] at f1
      rw [hy2] at f2
      simp only [List.drop_zero, List.drop_succ_cons, List.take_succ_cons, List.take_zero] at f0 f1 f2
      obtain ⟨t, r, htr, wt, wr⟩ := st_open f0
      obtain ⟨u, v, huv, wu, wv⟩ := st_open f1
      obtain ⟨ax, xs, cx, hv3, hr3, hwf3, hcx⟩ := rowK_open Try.underlying25 Try.underlying5 (by kernel_rfl) f2
      simp only [List.cons.injEq, and_true] at htr huv
      obtain ⟨rfl, rfl⟩ := htr
      obtain ⟨rfl, rfl⟩ := huv
      subst hv3
      have hc0 := hat 0 (by omega)
      have hc1 := hat 1 (by omega)
      have hc2 := hat 2 (by omega)
      have hc3 := hat 3 (by omega)
      have hc4 := hat 4 (by omega)
      rw [add_add] at hc0 hc1 hc2 hc3 hc4
      rw [addr_add] at hc0 hc1 hc2 hc3 hc4
      rw [Nat.add_zero] at hc0
      refine ⟨b, off, t, r, u, v, ax, xs, cx, rfl, ⟨?_, ?_, ?_, ?_, ?_⟩, hr3, isB_of hwf3, hcx, wt, wr, wu, wv⟩
      · rw [hc0]; rfl
      · rw [Nat.add_assoc, hc1]; rfl
      · rw [Nat.add_assoc, hc2]; rfl
      · rw [Nat.add_assoc, hc3]; rfl
      · rw [Nat.add_assoc, hc4]; rfl

end Go.Proofs.Ytgbhpjhofdhmeaa
