/- The page's taker: a number, a stamp. -/
import Derived.Test.YtknfpildkiekcaaDoorO8
namespace Go.Proofs.YtknfpildkiekcaaDoor
open Go.RowKit Go.Lib
set_option linter.unusedVariables false

theorem Blk.grown {w w' : World} {g : Nat} {v : Value} {vs : List Value} {row : Option Nat} (h : Blk w g (v :: vs)) (hg : w.grownBy w' row) (hne : some g ≠ row) : Blk w' g (v :: vs) :=
  ⟨fun i u hi => hg.cell (h.cell i u hi) hne, fun i u hi => (World.frozen?_of_block (w := w) (w' := w') (hg.block g h.lt hne)).trans (h.free i u hi)⟩
theorem bel_grown {w w' : World} (hb : Below w.heap.size w w') (row : Option Nat) : w.grownBy w' row := ⟨hb.os, hb.tape, hb.output, hb.size, fun k hk _ => hb.block k hk⟩
theorem grown_drew (w : World) (row : Option Nat) : w.grownBy w.drew row := bel_grown (Below.refl _ w).drew row
theorem grown_set {w w' : World} {g : Nat} (h : w.grownBy w' (some g)) (i : Nat) (u : Value) : w.grownBy (w'.setCell ⟨g, i, none⟩ u) (some g) := h.trans (grown_setCell w' ⟨g, i, none⟩ u)
theorem refTakeNum_n (a : Option Addr) (bs : List Int) (n cap : Nat) (w : World) (hn : n = bs.length) (hr : RowK .u8 w a bs) (hb : IsB bs) : Calls Tryd.prog 73 #[.slice a n cap] w (TakePost bs w) := by subst hn; exact refTakeNum_any a bs cap w hr hb
/-- the page's taker -/
def tkrV (a : Option Addr) (n cap : Nat) (z x : Int) : List Value := [.slice a n cap, .int .i64 z, .int .i64 x]
def NumT (h : Nat) (a : Option Addr) (n cap : Nat) (y z x : Int) (w : World) (e : Ending) (w' : World) : Prop := e = .returned (.int .i64 y) ∧ Blk w' h (tkrV a n cap z x) ∧ w.grownBy w' (some h)
def StT (h : Nat) (a : Option Addr) (n cap : Nat) (y1 y2 z x : Int) (w : World) (e : Ending) (w' : World) : Prop := e = .returned (.agg #[.int .i64 y1, .int .i64 y2]) ∧ Blk w' h (tkrV a n cap z x) ∧ w.grownBy w' (some h)

set_option maxHeartbeats 1000000 in
theorem tnum_off (h : Nat) (a : Option Addr) (n cap : Nat) (z x : Int) (w : World) (hB : Blk w h (tkrV a n cap z x)) (hx : x ≠ 0) : Calls Tryd.prog 48 #[.pointer (some ⟨h, 0, none⟩)] w (NumT h a n cap 0 z x w) := by
  have HB := Lib.hid hB
  have e2 : w.cell? ⟨h, 2, none⟩ = some (.int .i64 x) := hB.cell 2 _ rfl
  have hx' : (x == 0) = false := by simpa using hx
  clear hB
  go_enter Tryd.func48, Tryd.ntmps48
  go_wp2
  go_ret
  exact ⟨rfl, HB.out, World.grownBy.refl _ _⟩
set_option maxHeartbeats 1000000 in
theorem tstamp_off (h : Nat) (a : Option Addr) (n cap : Nat) (z x : Int) (w : World) (hB : Blk w h (tkrV a n cap z x)) (hx : x ≠ 0) : Calls Tryd.prog 46 #[.pointer (some ⟨h, 0, none⟩)] w (StT h a n cap 0 0 z x w) := by
  have HB1 := Lib.hid (hB.next (box_bel w (.cells #[.int .i64 0, .int .i64 0] 25)))
  have hlt := hB.lt
  have e2 : w.cell? ⟨h, 2, none⟩ = some (.int .i64 x) := hB.cell 2 _ rfl
  have hx' : (x == 0) = false := by simpa using hx
  have hb0 := St.st_build0
  clear hB
  go_enter Tryd.func46, Tryd.ntmps46
  go_wp2
  refine bodyPost_ret (v := .agg #[.int .i64 0, .int .i64 0]) (by simp [results, Tryd.results46, go_sem]) rfl ?_
  exact ⟨rfl, HB1.out, bel_grown (box_bel w _) _⟩

set_option maxHeartbeats 2000000 in
theorem tnum_on (h : Nat) (a : Option Addr) (bs : List Int) (n cap kk : Nat) (w : World) (hB : Blk w h (tkrV a n cap (kk : Int) 0)) (hn : n = bs.length) (hr : RowK .u8 w a bs) (hb : IsB bs) (hcap : bs.length ≤ cap) (hlen : bs.length ≤ 140737488355328) (hk : kk ≤ bs.length) {y : Int} {k' : Nat} {x : Int} (hs : tkN (bs.drop kk) = (y, k', x)) : Calls Tryd.prog 48 #[.pointer (some ⟨h, 0, none⟩)] w (NumT h a n cap y ((kk + k' : Nat) : Int) x w) := by
  have HB := Lib.hid hB
  have hk' : k' ≤ bs.length - kk := by have := (tkN_k (bs.drop kk) (hb.drop kk)).1; rw [hs, List.length_drop] at this; exact this
  have e0 : w.cell? ⟨h, 0, none⟩ = some (.slice a n cap) := hB.cell 0 _ rfl
  have e1 : w.cell? ⟨h, 1, none⟩ = some (.int .i64 (kk : Int)) := hB.cell 1 _ rfl
  have e2 : w.cell? ⟨h, 2, none⟩ = some (.int .i64 0) := hB.cell 2 _ rfl
  have f1 : w.frozen? ⟨h, 1, none⟩ = false := hB.free 1 _ rfl
  have f2 : w.frozen? ⟨h, 2, none⟩ = false := hB.free 2 _ rfl
  have hS0 : w.drew.cell? ⟨h, 0, none⟩ = some (.slice a n cap) ∧ w.drew.cell? ⟨h, 1, none⟩ = some (.int .i64 (kk : Int)) := ⟨e0, e1⟩
  have hsl := fun W => slice_l W a n cap kk (kk : Int) rfl (by omega)
  have C := Lib.hid (fun (W : World) (hr : RowK .u8 W a bs) => refTakeNum_n (partA a kk cap) (bs.drop kk) (n - kk) (cap - kk) W (by rw [List.length_drop, hn]) (hr.rest kk cap hcap) (hb.drop kk))
  unfold TakePost at C
  rw [hs] at C
  have HC := Lib.hid (C.out w.drew hr.drew)
  have hbd : (kk : Int) + (k' : Int) ≤ 140737488355328 := by omega
  have hk2 : kk ≤ n := by omega
  clear hB C hr hb hs hn hcap hlen hk hk'
  go_enter Tryd.func48, Tryd.ntmps48
  go_wp2_with fail
  go_region_held3 (fun w' => w'.cell? ⟨h, 0, none⟩ = some (.slice a n cap) ∧ w'.cell? ⟨h, 1, none⟩ = some (.int .i64 (kk : Int))) (assumption) (first
    | (go_at_call 73
       (with_reducible refine (HC.out).mono ?_)
       rintro e w8 ⟨rfl, rfl⟩))
  go_wp2
  go_ret
  exact ⟨rfl, (HB.out.drew.set 1 _).set 2 _, grown_set (grown_set (grown_drew w _) _ _) _ _⟩
end Go.Proofs.YtknfpildkiekcaaDoor
