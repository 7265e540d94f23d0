/- Awake; an ask at a place; a list of asks opened. -/
import Derived.Test.YtnckaefdajnkjaaE8
import Derived.ProofKit
import Derived.OpenShut
import Derived.Deep.Slices
import Derived.Deep.Fields
import Derived.ChangeSame
import Derived.ChangeSlices
import Derived.ChangeArms
namespace Go.Proofs.Ytnckaefdajnkjaa
open Go.ChangeShapes Go.WideShapes Go.ChangeAt Go.RowKit Go.Deep Go.Lib
set_option linter.unusedVariables false

theorem enc300 : enc 300 = [172, 2] := by rw [enc_big (by decide), enc_small (by decide)]; rfl
theorem two_row (W : World) : RowK .u8 (W.alloc (.cells #[.int .u8 172, .int .u8 2] 5)) (some ⟨W.heap.size, 0, none⟩) [172, 2] := by
  intro i hi
  simp only [List.length_cons, List.length_nil] at hi
  rcases (show i = 0 ∨ i = 1 by omega) with rfl | rfl
  · exact ⟨W.heap.size, 0, rfl, by simp⟩
  · exact ⟨W.heap.size, 0, rfl, by simp⟩

set_option maxHeartbeats 1000000 in
theorem wakes_any (w : World) : Calls Try.prog 19 #[] w (BoolPost w true) := by
  have H1 : Hid (Calls Try.prog 9 #[.int .i64 300] w (BytesPost w [172, 2])) := by rw [← enc300]; exact num_yes 300 w (by decide)
  go_enter Try.func19, Try.ntmps19
  go_wp2_with fail
  refine (H1.out).mono ?_
  rintro e w1 ⟨v1, rfl, ho, hb⟩
  obtain ⟨a1, c1, rfl, hr1, hc1, _⟩ := ho.form
  have HB := Lib.hid hb
  have HE := Lib.hid (eqB_yes a1 (some ⟨w1.heap.size, 0, none⟩) [172, 2] 2 2 c1 2 (w1.alloc (.cells #[.int .u8 172, .int .u8 2] 5)) (hr1.alloc _) (two_row w1) rfl rfl (by simp))
  have HN := Lib.hid (fun W => num_any 0 W)
  have hbs := hb.size
  clear ho hb hr1 H1
  go_wp2_with fail
  refine (HN.out _).mono ?_
  rintro e w' ⟨rfl, rfl⟩
  go_wp2_with fail
  refine (HE.out).mono ?_
  rintro e w2 ⟨rfl, n, rfl⟩
  go_wp2
  go_ret
  exact ⟨rfl, below_drewN (HB.out.alloc hbs _) _⟩

/-- an ask at a place -/
structure AskAt (w : World) (b o : Nat) (N : Int) (s : ByteArray) (al : Option Addr) (nl cl : Nat) (ax : Option Addr) (nx cx : Nat) : Prop where
  c0 : w.cell? ⟨b, o, none⟩ = some (.int .i64 N)
  c1 : w.cell? ⟨b, o + 1, none⟩ = some (.string s)
  c2 : w.cell? ⟨b, o + 2, none⟩ = some (.slice al nl cl)
  c3 : w.cell? ⟨b, o + 3, none⟩ = some (.slice ax nx cx)
theorem AskAt.lt {w : World} {b o : Nat} {N : Int} {s : ByteArray} {al ax : Option Addr} {nl cl nx cx : Nat} (h : AskAt w b o N s al nl cl ax nx cx) : b < w.heap.size := World.block_lt_of_cell? _ _ h.c0
theorem AskAt.below {w w' : World} {b o B : Nat} {N : Int} {s : ByteArray} {al ax : Option Addr} {nl cl nx cx : Nat} (h : AskAt w b o N s al nl cl ax nx cx) (hb : Below B w w') (hB : b < B) : AskAt w' b o N s al nl cl ax nx cx :=
  ⟨(hb.cell (p := ⟨b, o, none⟩) hB).trans h.c0, (hb.cell (p := ⟨b, o + 1, none⟩) hB).trans h.c1, (hb.cell (p := ⟨b, o + 2, none⟩) hB).trans h.c2, (hb.cell (p := ⟨b, o + 3, none⟩) hB).trans h.c3⟩
def AsksIs (w : World) (a : Option Addr) (len : Nat) : Prop :=
  ∀ i, i < len → ∃ b off N s al ls cl ax xs cx, a = some ⟨b, off, none⟩ ∧ AskAt w b (off + i * 4) N s al (List.length ls) cl ax (List.length xs) cx ∧ RowK .i64 w al ls ∧ RowK .u8 w ax xs ∧ IsB xs ∧ xs.length ≤ cx

theorem rowK_open {H : Type} {enc : TypeId × Value → H} {w : World} {fuel : Nat} {v : Value} {x : DataW H × List MemPlace} {t e : TypeId} {kd : IntKind} (ht : Try.prog.underlying t = some (.slice e)) (he : Try.prog.underlying e = some (.int kd)) (hce : Try.prog.cellsOf e = 1) (h : DataW.trod enc Try.prog w 0 (fun _ => true) true fuel t [v] = some x) :
    ∃ ai ws ci, v = .slice ai ws.length ci ∧ RowK kd w ai ws ∧ (∀ z ∈ ws, (Lit.int kd z).wf = true) ∧ ws.length ≤ ci := by
  rcases open_ints ht he hce h with ⟨hcs, _⟩ | ⟨a, len, cap, zs, hcs, _, hl, hm, hz, _, hcell, hwz⟩
  · simp only [List.cons.injEq, and_true] at hcs
    exact ⟨none, [], 0, hcs, fun i hi => by simp at hi, fun z hz => by simp at hz, by simp⟩
  · simp only [List.cons.injEq, and_true] at hcs
    simp only [if_true] at hz
    have hlen : (zs.take len).length = len := by rw [List.length_take]; omega
    refine ⟨some a, zs.take len, cap, by rw [hlen]; exact hcs, ?_, fun z hz => hwz z (List.mem_of_mem_take hz), by omega⟩
    intro i hi
    rw [hlen] at hi
    obtain ⟨b, off, spot⟩ := a
    have hc0 := hcell 0 (by omega)
    have hspot : spot = none := by simpa [Addr.add] using World.cell?_spot hc0
    subst hspot
    have hc := hcell i (by omega)
    refine ⟨b, off, rfl, ?_⟩
    have e : (zs.take len).getD i 0 = zs.getD i 0 := by simp [List.getD, hi]
    rw [e, ← addr_add]
    exact hc

theorem isB_of {ws : List Int} (h : ∀ z ∈ ws, (Lit.int .u8 z).wf = true) : IsB ws := fun z hz => by
  have := h z hz
  simp [Lit.wf, IntKind.min, IntKind.max, IntKind.signed, IntKind.bits] at this
  omega

theorem asks_open {H : Type} {enc : TypeId × Value → H} {w : World} {a : Option Addr} {len cap : Nat} {d : DataW H} {p : List MemPlace} (h : DataW.Trod enc Try.prog w 0 (fun _ => true) true 22 (.slice a len cap) d p) : AsksIs w a len := by
  obtain ⟨fuel, hf⟩ := h
  have hC : Try.prog.cellsOf 26 = 4 := by kernel_rfl
  rcases open_slice Try.underlying22 hf with ⟨hcs, _⟩ | ⟨x, l, c, m, n, D, Pl, hcs, hb, hl, hm, hmm, hx, hi⟩
  · simp [Value.cells] at hcs
    obtain ⟨rfl, rfl, rfl⟩ := hcs
    intro i hi; omega
  · simp [Value.cells] at hcs
    obtain ⟨rfl, rfl, rfl⟩ := hcs
    simp only [if_true] at hmm
    intro i hil
    obtain ⟨b, off, spot⟩ := x
    have hspot : spot = none := by
      obtain ⟨cs0, hc0, _⟩ := hi 0 (by omega)
      rw [hC] at hc0
      obtain ⟨_, hcl0, hat0⟩ := World.cells?_some hc0
      have h1 := hat0 0 (by omega)
      rw [List.getElem?_eq_getElem (by omega)] at h1
      have h2 := World.cell?_spot h1
      simpa [Addr.add] using h2
    subst hspot
    obtain ⟨cs', hc, ht⟩ := hi i (by omega)
    rw [hC] at hc
    obtain ⟨_, hcl, hat⟩ := World.cells?_some hc
    obtain ⟨ys, n', _, _, _, hyl, hf'⟩ := DataW.trod_struct Try.underlying26 ht
    have f0 : DataW.trod enc Try.prog w 0 (fun _ => true) true n' 3 ((cs'.drop 0).take (Try.prog.cellsOf 3)) = ys[0]? := hf' 0 _ rfl
    have f1 : DataW.trod enc Try.prog w 0 (fun _ => true) true n' 9 ((cs'.drop 1).take (Try.prog.cellsOf 9)) = ys[1]? := hf' 1 _ rfl
    have f2 : DataW.trod enc Try.prog w 0 (fun _ => true) true n' 23 ((cs'.drop 2).take (Try.prog.cellsOf 23)) = ys[2]? := hf' 2 _ rfl
    have f3 : DataW.trod enc Try.prog w 0 (fun _ => true) true n' 24 ((cs'.drop 3).take (Try.prog.cellsOf 24)) = ys[3]? := hf' 3 _ rfl
    rw [show Try.prog.cellsOf 3 = 1 from by kernel_rfl] at f0
    rw [show Try.prog.cellsOf 9 = 1 from by kernel_rfl] at f1
    rw [show Try.prog.cellsOf 23 = 1 from by kernel_rfl] at f2
    rw [show Try.prog.cellsOf 24 = 1 from by kernel_rfl] at f3
    match cs', hcl with
    | [d0, d1, d2, d3], _ =>
      have hy0 : ys[0]? = some (ys[0]'(by simp at hyl; omega)) := List.getElem?_eq_getElem _
      have hy1 : ys[1]? = some (ys[1]'(by simp at hyl; omega)) := List.getElem?_eq_getElem _
      have hy2 : ys[2]? = some (ys[2]'(by simp at hyl; omega)) := List.getElem?_eq_getElem _
      have hy3 : ys[3]? = some (ys[3]'(by simp at hyl; omega)) := List.getElem?_eq_getElem _
      rw [hy0] at f0
      rw [hy1] at f1
      rw [hy2] at f2
      rw [hy3] at f3
      simp only [List.drop_zero, List.drop_succ_cons, List.take_succ_cons, List.take_zero] at f0 f1 f2 f3
      obtain ⟨t, ht0, _, _⟩ := DataW.trod_int Try.underlying3 f0
      obtain ⟨s, hs0, _, _⟩ := DataW.trod_string Try.underlying9 f1
      obtain ⟨al, ls, cl, hv2, hr2, _, _⟩ := rowK_open Try.underlying23 Try.underlying3 (by kernel_rfl) f2
      obtain ⟨ax, xs, cx, hv3, hr3, hwf3, hcx⟩ := rowK_open Try.underlying24 Try.underlying5 (by kernel_rfl) f3
      simp only [List.cons.injEq, and_true] at ht0 hs0
      have hc0 := hat 0 (by omega)
      have hc1 := hat 1 (by omega)
      have hc2 := hat 2 (by omega)
      have hc3 := hat 3 (by omega)
      rw [add_add] at hc0 hc1 hc2 hc3
      rw [addr_add] at hc0 hc1 hc2 hc3
      rw [Nat.add_zero] at hc0
      refine ⟨b, off, t, s, al, ls, cl, ax, xs, cx, rfl, ⟨?_, ?_, ?_, ?_⟩, hr2, hr3, isB_of hwf3, hcx⟩
      · rw [hc0, ht0]; rfl
      · rw [Nat.add_assoc, hc1, hs0]; rfl
      · rw [Nat.add_assoc, hc2, hv2]; rfl
      · rw [Nat.add_assoc, hc3, hv3]; rfl
end Go.Proofs.Ytnckaefdajnkjaa
