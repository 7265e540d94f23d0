/- The walk of StampBytes. -/
import Derived.Test.YtabbbpmhmlapgaaDoorB4
import Derived.Deep.RegionWith
namespace Go.Proofs.YtabbbpmhmlapgaaDoor.St
open Go.RowKit Go.Lib
set_option linter.unusedVariables false

def TakeIs (x1 x2 : Int) (x3 : Nat) (x4 : Int) (w : World) (e : Ending) (w' : World) : Prop := e = .returned (.tuple #[.agg #[.int .i64 x1, .int .i64 x2], .int .i64 (x3 : Int), .int .i64 x4]) ∧ Below w.heap.size w w'
theorem take_is (a : Option Addr) (bs : List Int) (n cap : Nat) (w : World) (hn : n = bs.length) (hr : RowK .u8 w a bs) (hb : IsB bs) (hcap : bs.length ≤ cap) (hlen : bs.length ≤ 140737488355328) {x1 x2 : Int} {x3 : Nat} {x4 : Int} (h : tkSt bs = (x1, x2, x3, x4)) : Calls Tryd.prog 47 #[.slice a n cap] w (TakeIs x1 x2 x3 x4 w) := by
  have := take_any a bs n cap w hn hr hb hcap hlen
  rw [h] at this
  exact this
theorem StW.drew {w : World} {g : Nat} {t r : Int} (h : StW w g t r) : StW w.drew g t r := ⟨h.c0, h.c1, h.f0, h.f1⟩
theorem st_same (t r : Int) (W : World) : (binOp .neq 24 (.agg #[.int .i64 t, .int .i64 r]) (.agg #[.int .i64 t, .int .i64 r])).run Tryd.prog W = .ok (.bool false) W := by
  rw [st_neq]
  congr 2
  simp

end Go.Proofs.YtabbbpmhmlapgaaDoor.St
