/- Too much to be played; awake; an ask at a place; a list of asks opened. -/
import Derived.Test.YtobnecjkanaofaaK3
import Derived.ProofKit
import Derived.OpenShut
import Derived.Deep.Slices
import Derived.Deep.Fields
import Derived.ChangeSame
import Derived.ChangeSlices
import Derived.ChangeArms
namespace Go.Proofs.Ytobnecjkanaofaa
open Go.ChangeShapes Go.WideShapes Go.ChangeAt Go.RowKit Go.Deep Go.Lib
set_option linter.unusedVariables false

def SomeBool (w : World) (e : Ending) (w' : World) : Prop := ∃ b, e = .returned (.bool b) ∧ Below w.heap.size w w'
set_option maxHeartbeats 400000 in
theorem heavy_any (s t : ByteArray) (w : World) : Calls Try.prog 7 #[.agg #[.string s, .string t]] w (SomeBool w) := by
  go_enter Try.func7, Try.ntmps7
  go_wp2
  go_ret
  exact ⟨_, rfl, (Below.refl _ _).alloc (Nat.le_refl _) _⟩

theorem mid_empty : mid [] [] = [128] := by rw [mid_yes (by simp)]; rfl
theorem betE_empty : betE ⟨#[]⟩ ⟨#[]⟩ = 0 := by
  unfold betE
  rw [strN_nil, if_pos (by rfl), mid_empty]; rfl
theorem betS_empty : betS ⟨#[]⟩ ⟨#[]⟩ = strOfNums [128] := by
  unfold betS
  rw [strN_nil, mid_empty, if_pos ⟨by rfl, by simp⟩]

def BoolPost (w : World) (b : Bool) (e : Ending) (w' : World) : Prop := e = .returned (.bool b) ∧ Below w.heap.size w w'
set_option maxHeartbeats 1000000 in
theorem wakes_any (w : World) : Calls Try.prog 14 #[] w (BoolPost w true) := by
  have H1 := Lib.hid (between_any ⟨#[]⟩ ⟨#[]⟩ w)
  unfold BetPost at H1
  rw [betE_empty, betS_empty] at H1
  have HN := Lib.hid (fun W => num_any 0 W)
  have hT : Hid (∀ W : World, (convert 42 9 (.slice (some ⟨W.heap.size, 0, none⟩) 1 1)).run Try.prog (W.alloc (.cells #[.int .u8 128] 5)) = .ok (.string (strOfNums [128])) (W.alloc (.cells #[.int .u8 128] 5))) := fun W => to_str _ _ [128] 1 1 rfl (one_row .u8 5 W 128)
  generalize strOfNums [128] = st at *
  go_enter Try.func14, Try.ntmps14
  go_wp2_with fail
  refine (H1.out).mono ?_
  rintro e w1 ⟨rfl, hb⟩
  have HB := Lib.hid hb
  have hbs := hb.size
  have hT1 := hT.out w1
  clear hb hT H1
  go_wp2_with fail
  refine (HN.out _).mono ?_
  rintro e w2 ⟨rfl, rfl⟩
  go_wp2
  go_ret
  exact ⟨rfl, HB.out.alloc hbs _⟩

/-- an ask at a place -/
structure AskAt (w : World) (b o : Nat) (s t : ByteArray) : Prop where
  c0 : w.cell? ⟨b, o, none⟩ = some (.string s)
  c1 : w.cell? ⟨b, o + 1, none⟩ = some (.string t)
theorem AskAt.lt {w : World} {b o : Nat} {s t : ByteArray} (h : AskAt w b o s t) : b < w.heap.size := World.block_lt_of_cell? _ _ h.c0
theorem AskAt.below {w w' : World} {b o B : Nat} {s t : ByteArray} (h : AskAt w b o s t) (hb : Below B w w') (hB : b < B) : AskAt w' b o s t :=
  ⟨(hb.cell (p := ⟨b, o, none⟩) hB).trans h.c0, (hb.cell (p := ⟨b, o + 1, none⟩) hB).trans h.c1⟩
def AsksIs (w : World) (a : Option Addr) (len : Nat) : Prop := ∀ i, i < len → ∃ b off s t, a = some ⟨b, off, none⟩ ∧ AskAt w b (off + i * 2) s t

theorem asks_open {H : Type} {enc : TypeId × Value → H} {w : World} {a : Option Addr} {len cap : Nat} {d : DataW H} {p : List MemPlace} (h : DataW.Trod enc Try.prog w 0 (fun _ => true) true 22 (.slice a len cap) d p) : AsksIs w a len := by
  obtain ⟨fuel, hf⟩ := h
  have hC : Try.prog.cellsOf 25 = 2 := by kernel_rfl
  rcases open_slice Try.underlying22 hf with ⟨hcs, _⟩ | ⟨x, l, c, m, n, D, Pl, hcs, hb, hl, hm, hmm, hx, hi⟩
  · simp [Value.cells] at hcs
    obtain ⟨rfl, rfl, rfl⟩ := hcs
    intro i hi; omega
  · simp [Value.cells] at hcs
    obtain ⟨rfl, rfl, rfl⟩ := hcs
    simp only [if_true] at hmm
    intro i hil
    obtain ⟨b, off, spot⟩ := x
    have hspot : spot = none := by
      obtain ⟨cs0, hc0, _⟩ := hi 0 (by omega)
      rw [hC] at hc0
      obtain ⟨_, hcl0, hat0⟩ := World.cells?_some hc0
      have h1 := hat0 0 (by omega)
      rw [List.getElem?_eq_getElem (by omega)] at h1
      have h2 := World.cell?_spot h1
      simpa [Addr.add] using h2
    subst hspot
    obtain ⟨cs', hc, ht⟩ := hi i (by omega)
    rw [hC] at hc
    obtain ⟨_, hcl, hat⟩ := World.cells?_some hc
    obtain ⟨ys, n', _, _, _, hyl, hf'⟩ := DataW.trod_struct Try.underlying25 ht
    have f0 : DataW.trod enc Try.prog w 0 (fun _ => true) true n' 9 ((cs'.drop 0).take (Try.prog.cellsOf 9)) = ys[0]? := hf' 0 _ rfl
    have f1 : DataW.trod enc Try.prog w 0 (fun _ => true) true n' 9 ((cs'.drop 1).take (Try.prog.cellsOf 9)) = ys[1]? := hf' 1 _ rfl
    rw [show Try.prog.cellsOf 9 = 1 from by kernel_rfl] at f0 f1
    match cs', hcl with
    | [d0, d1], _ =>
      have hy0 : ys[0]? = some (ys[0]'(by simp at hyl; omega)) := List.getElem?_eq_getElem _
      have hy1 : ys[1]? = some (ys[1]'(by simp at hyl; omega)) := List.getElem?_eq_getElem _
      rw [hy0] at f0
      rw [hy1] at f1
      simp only [List.drop_zero, List.drop_succ_cons, List.take_succ_cons, List.take_zero] at f0 f1
      obtain ⟨s, hs0, _, _⟩ := DataW.trod_string Try.underlying9 f0
      obtain ⟨t, ht0, _, _⟩ := DataW.trod_string Try.underlying9 f1
      simp only [List.cons.injEq, and_true] at hs0 ht0
      have hc0 := hat 0 (by omega)
      have hc1 := hat 1 (by omega)
      rw [add_add] at hc0 hc1
      rw [addr_add] at hc0 hc1
      rw [Nat.add_zero] at hc0
      refine ⟨b, off, s, t, rfl, ⟨?_, ?_⟩⟩
      · rw [hc0, hs0]; rfl
      · rw [Nat.add_assoc, hc1, ht0]; rfl
end Go.Proofs.Ytobnecjkanaofaa
