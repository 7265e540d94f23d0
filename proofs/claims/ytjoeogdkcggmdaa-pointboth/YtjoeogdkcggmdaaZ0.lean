/- A list of asks that comes in, opened to its cells. -/
import Derived.Test.YtjoeogdkcggmdaaR2
import Derived.ProofKit
import Derived.OpenShut
import Derived.Deep.Slices
import Derived.Deep.Fields
import Derived.ChangeSame
import Derived.ChangeSlices
namespace Go.Proofs.Ytjoeogdkcggmdaa
open Go.ChangeShapes Go.WideShapes Go.ChangeAt Go.RowKit Go.Deep

theorem add_plain (b off i : Nat) : (⟨b, off, none⟩ : Addr).add i = ⟨b, off + i, none⟩ := by unfold Addr.add; split <;> simp_all

theorem trod_float {H : Type} {enc : TypeId × Value → H} {P : Program} {w : World} {base : Nat} {spare : Nat → Bool} {held : Bool} {fuel : Nat} {t : TypeId} {cs : List Value} {x : DataW H × List MemPlace} {k : FloatKind}
    (ht : P.underlying t = some (.float k)) (h : DataW.trod enc P w base spare held fuel t cs = some x) : ∃ n, cs = [.float k n] := by
  cases fuel with
  | zero => simp [DataW.trod] at h
  | succ n =>
    unfold DataW.trod at h
    rw [ht] at h
    split at h <;> simp_all

def bitsAt (cs : List Value) (j : Nat) : Nat := match cs[j]? with
  | some (.float _ b) => b
  | _ => 0

theorem floats_open {H : Type} {enc : TypeId × Value → H} {w : World} {fuel : Nat} {cs : List Value} {x : DataW H × List MemPlace} (h : DataW.trod enc Try.prog w 0 (fun _ => true) true fuel 24 cs = some x) :
    cs.length = 8 ∧ ∀ j, j < 8 → cs[j]? = some (.float .f64 (bitsAt cs j)) := by
  obtain ⟨xs, m, _, _, hl, hxl, hi⟩ := DataW.trod_array Try.underlying24 h
  rw [show Try.prog.cellsOf 24 = 8 from by kernel_rfl] at hl
  refine ⟨hl, fun j hj => ?_⟩
  have hx : xs[j]? = some (xs[j]'(by omega)) := List.getElem?_eq_getElem _
  have := hi j hj
  rw [hx, show Try.prog.cellsOf 23 = 1 from by kernel_rfl] at this
  obtain ⟨n, hn⟩ := trod_float Try.underlying23 this
  have hc : cs[j]? = some (.float .f64 n) := by
    have h1 := congrArg (fun l => l[0]?) hn
    simp at h1
    exact h1
  unfold bitsAt
  rw [hc]

theorem asks_open {H : Type} {enc : TypeId × Value → H} {w : World} {a : Option Addr} {len cap : Nat} {d : DataW H} {p : List MemPlace} (h : DataW.Trod enc Try.prog w 0 (fun _ => true) true 22 (.slice a len cap) d p) : AsksIs w a len := by
  obtain ⟨fuel, hf⟩ := h
  have hC : Try.prog.cellsOf 26 = 10 := by kernel_rfl
  rcases open_slice Try.underlying22 hf with ⟨hcs, _⟩ | ⟨x, l, c, m, n, D, Pl, hcs, hb, hl, hm, hmm, hx, hi⟩
  · simp [Value.cells] at hcs
    obtain ⟨rfl, rfl, rfl⟩ := hcs
    intro i hi; omega
  · simp [Value.cells] at hcs
    obtain ⟨rfl, rfl, rfl⟩ := hcs
    simp only [if_true] at hmm
    intro i hil
    obtain ⟨b, off, spot⟩ := x
    have hspot : spot = none := by
      obtain ⟨cs0, hc0, _⟩ := hi 0 (by omega)
      rw [hC] at hc0
      obtain ⟨_, hcl0, hat0⟩ := World.cells?_some hc0
      have h1 := hat0 0 (by omega)
      rw [List.getElem?_eq_getElem (by omega)] at h1
      have h2 := World.cell?_spot h1
      simpa [Addr.add] using h2
    subst hspot
    obtain ⟨cs', hc, ht⟩ := hi i (by omega)
    rw [hC] at hc
    obtain ⟨_, hcl, hat⟩ := World.cells?_some hc
    obtain ⟨ys, n', _, _, _, hyl, hf'⟩ := DataW.trod_struct Try.underlying26 ht
    have f0 : DataW.trod enc Try.prog w 0 (fun _ => true) true n' 3 ((cs'.drop 0).take (Try.prog.cellsOf 3)) = ys[0]? := hf' 0 _ rfl
    have f1 : DataW.trod enc Try.prog w 0 (fun _ => true) true n' 3 ((cs'.drop 1).take (Try.prog.cellsOf 3)) = ys[1]? := hf' 1 _ rfl
    have f2 : DataW.trod enc Try.prog w 0 (fun _ => true) true n' 24 ((cs'.drop 2).take (Try.prog.cellsOf 24)) = ys[2]? := hf' 2 _ rfl
    rw [show Try.prog.cellsOf 3 = 1 from by kernel_rfl] at f0 f1
    rw [show Try.prog.cellsOf 24 = 8 from by kernel_rfl] at f2
    have hy0 : ys[0]? = some (ys[0]'(by simp at hyl; omega)) := List.getElem?_eq_getElem _
    have hy1 : ys[1]? = some (ys[1]'(by simp at hyl; omega)) := List.getElem?_eq_getElem _
    have hy2 : ys[2]? = some (ys[2]'(by simp at hyl; omega)) := List.getElem?_eq_getElem _
    rw [hy0] at f0
    rw [hy1] at f1
    rw [hy2] at f2
    obtain ⟨s, hs0, _, _⟩ := DataW.trod_int Try.underlying3 f0
    obtain ⟨t, ht0, _, _⟩ := DataW.trod_int Try.underlying3 f1
    obtain ⟨_, hfl⟩ := floats_open f2
    have g0 : cs'[0]? = some (.int .i64 s) := by
      have h1 := congrArg (fun l => l[0]?) hs0
      simp at h1
      simpa using h1
    have g1 : cs'[1]? = some (.int .i64 t) := by
      have h1 := congrArg (fun l => l[0]?) ht0
      simp at h1
      exact h1
    have gf : ∀ j, j < 8 → cs'[2 + j]? = some (.float .f64 (bitsAt ((cs'.drop 2).take 8) j)) := by
      intro j hj
      have h1 := hfl j hj
      rw [List.getElem?_take_of_lt hj, List.getElem?_drop] at h1
      exact h1
    have at' : ∀ j, j < 10 → w.cell? ⟨b, off + i * 10 + j, none⟩ = cs'[j]? := by
      intro j hj
      have h1 := hat j hj
      rw [add_add, add_plain] at h1
      rw [Nat.add_assoc]
      exact h1
    have hcell0 := (at' 0 (by omega)).trans g0
    refine ⟨b, off, s, t, bitsAt ((cs'.drop 2).take 8), rfl, ⟨hcell0, (at' 1 (by omega)).trans g1, (at' 2 (by omega)).trans (gf 0 (by omega)), (at' 3 (by omega)).trans (gf 1 (by omega)), (at' 4 (by omega)).trans (gf 2 (by omega)), (at' 5 (by omega)).trans (gf 3 (by omega)), (at' 6 (by omega)).trans (gf 4 (by omega)), (at' 7 (by omega)).trans (gf 5 (by omega)), (at' 8 (by omega)).trans (gf 6 (by omega)), (at' 9 (by omega)).trans (gf 7 (by omega))⟩, ?_⟩
    exact World.block_lt_of_cell? _ _ hcell0
end Go.Proofs.Ytjoeogdkcggmdaa
