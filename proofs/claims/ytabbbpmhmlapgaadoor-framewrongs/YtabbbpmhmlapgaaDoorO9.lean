/- The operation that bytes begin with: the program's. -/
import Derived.Test.YtabbbpmhmlapgaaDoorO8
import Derived.Test.YtabbbpmhmlapgaaDoorO6
namespace Go.Proofs.YtabbbpmhmlapgaaDoor
open Go.RowKit Go.Lib
set_option linter.unusedVariables false

def TakeOp (R : OpR) (q : Int) (n : Nat) (x : Int) (w : World) (e : Ending) (w' : World) : Prop := ∃ da dn dc, e = .returned (.tuple #[.agg #[.int .i64 R.t, .int .i64 R.r, .int .i64 q, .slice da dn dc, .int .i64 R.k, .int .i64 R.nt, .int .i64 R.nr, .int .i64 R.pt, .int .i64 R.pr, .string R.s, .int .i64 R.p, .int .i64 R.v], .int .i64 (n : Int), .int .i64 x]) ∧ OwnK .i64 3 w' w.heap.size (.slice da dn dc) R.ds ∧ Below w.heap.size w w'
def TakeO (X : OpR × Int × Nat × Int) (w : World) : Ending → World → Prop := TakeOp X.1 X.2.1 X.2.2.1 X.2.2.2 w
theorem op_build0 (w : World) : (Instr.build 27 #[]).run Tryd.prog w = .ok (.agg #[.int .i64 0, .int .i64 0, .int .i64 0, .slice none 0 0, .int .i64 0, .int .i64 0, .int .i64 0, .int .i64 0, .int .i64 0, .string ⟨#[]⟩, .int .i64 0, .int .i64 0]) w := run_build w 27 _ _ (by kernel_rfl)
theorem blk_new (w : World) : Blk (w.alloc (.cells #[.int .i64 0, .int .i64 0, .int .i64 0, .slice none 0 0, .int .i64 0, .int .i64 0, .int .i64 0, .int .i64 0, .int .i64 0, .string ⟨#[]⟩, .int .i64 0, .int .i64 0] 27)) w.heap.size (zR.cells 0 (.slice none 0 0)) := by
  constructor
  · intro i u hi
    match i, hi with
    | 0, hi | 1, hi | 2, hi | 3, hi | 4, hi | 5, hi | 6, hi | 7, hi | 8, hi | 9, hi | 10, hi | 11, hi => simp [OpR.cells, zR] at hi; subst hi; simp
    | _ + 12, hi => simp [OpR.cells] at hi
  · intro i u hi
    match i, hi with
    | 0, hi | 1, hi | 2, hi | 3, hi | 4, hi | 5, hi | 6, hi | 7, hi | 8, hi | 9, hi | 10, hi | 11, hi => simp
    | _ + 12, hi => simp [OpR.cells] at hi
/-- what the loop over the parts keeps -/
structure TakI (w w' : World) (g : Nat) (R : OpR) (da : Option Addr) (dn dc : Nat) : Prop where
  blk : Blk w' g (R.cells 0 (.slice da dn dc))
  own : OwnK .i64 3 w' (g + 1) (.slice da dn dc) R.ds
  bel : Below g w w'
def TakJ (w : World) (g : Nat) (a : Option Addr) (bs : List Int) (n cap : Nat) (act : Act) (w' : World) : Prop :=
  ∃ (R : OpR) (kk i : Nat) (da : Option Addr) (dn dc : Nat) (u1 u4 u6 u7 u8 u9 u10 u11 u12 u13 u14 u15 u16 u17 u18 u19 u20 u21 u22 u23 u24 u25 u26 u27 u28 u29 u30 u31 u32 u33 u34 u35 u36 u37 u38 u39 u40 u41 u42 u43 u44 u45 u46 u47 u48 u49 u50 : Value), act = { tmps := #[.slice a n cap, u1, .pointer (some ⟨g, 0, none⟩), .int .i64 (kk : Int), u4, .int .i64 (i : Int), u6, u7, u8, u9, u10, u11, u12, u13, u14, u15, u16, u17, u18, u19, u20, u21, u22, u23, u24, u25, u26, u27, u28, u29, u30, u31, u32, u33, u34, u35, u36, u37, u38, u39, u40, u41, u42, u43, u44, u45, u46, u47, u48, u49, u50], defers := [] } ∧ i < 6 ∧ runR bs i = (R, kk, 0) ∧ TakI w w' g R da dn dc
theorem run_stepR {bs : List Int} {i kk : Nat} {R : OpR} (h : runR bs i = (R, kk, 0)) {R' : OpR} {k' : Nat} (hs : updF (fAt i R.k) (bs.drop kk) R = (R', k', 0)) : runR bs (i + 1) = (R', kk + k', 0) := by
  have e : stepR bs i (runR bs i) = (R', k', 0) := by rw [h]; exact hs
  rw [runR_ok (by rw [h]) (by rw [e]), e, h]
theorem run_stepE {bs : List Int} {i kk : Nat} {R : OpR} (hi : i < 6) (h : runR bs i = (R, kk, 0)) {R' : OpR} {k' : Nat} {x : Int} (hx : x ≠ 0) (hs : updF (fAt i R.k) (bs.drop kk) R = (R', k', x)) : tkO bs = (zR, 0, 0, x) := by
  have e : stepR bs i (runR bs i) = (R', k', x) := by rw [h]; exact hs
  have e1 : runR bs (i + 1) = (zR, 0, x) := by rw [runR_err (by rw [h]) (by rw [e]; exact hx), e]
  have e6 : runR bs 6 = (zR, 0, x) := by rw [runR_off (i := i + 1) (by omega) (by rw [e1]; exact hx), e1]
  rw [tkO_err (by rw [e6]; exact hx), e6]
theorem fAt_lt (i : Nat) (k : Int) (h : i < 6) : fAt i k < 8 := by unfold fAt; split <;> omega
end Go.Proofs.YtabbbpmhmlapgaaDoor
