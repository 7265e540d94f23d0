/- The page's own: whether an operation may be. -/
import Derived.Test.YtabbbpmhmlapgaaDoorO3
namespace Go.Proofs.YtabbbpmhmlapgaaDoor
open Go.RowKit Go.Lib
set_option linter.unusedVariables false

theorem OpAt.regrown {w : World} {b o : Nat} {t r q : Int} {da : Option Addr} {dn dc : Nat} {k nt nr pt pr : Int} {s : ByteArray} {p v : Int} (h : OpAt w b o t r q da dn dc k nt nr pt pr s p v) : (∀ d os, (Go.Sort.grow (redrawn w d) os).cell? ⟨b, o, none⟩ = some (.int .i64 t)) ∧ (∀ d os, (Go.Sort.grow (redrawn w d) os).cell? ⟨b, o + 1, none⟩ = some (.int .i64 r)) ∧ (∀ d os, (Go.Sort.grow (redrawn w d) os).cell? ⟨b, o + 2, none⟩ = some (.int .i64 q)) ∧ (∀ d os, (Go.Sort.grow (redrawn w d) os).cell? ⟨b, o + 3, none⟩ = some (.slice da dn dc)) ∧ (∀ d os, (Go.Sort.grow (redrawn w d) os).cell? ⟨b, o + 4, none⟩ = some (.int .i64 k)) ∧ (∀ d os, (Go.Sort.grow (redrawn w d) os).cell? ⟨b, o + 5, none⟩ = some (.int .i64 nt)) ∧ (∀ d os, (Go.Sort.grow (redrawn w d) os).cell? ⟨b, o + 6, none⟩ = some (.int .i64 nr)) ∧ (∀ d os, (Go.Sort.grow (redrawn w d) os).cell? ⟨b, o + 7, none⟩ = some (.int .i64 pt)) ∧ (∀ d os, (Go.Sort.grow (redrawn w d) os).cell? ⟨b, o + 8, none⟩ = some (.int .i64 pr)) ∧ (∀ d os, (Go.Sort.grow (redrawn w d) os).cell? ⟨b, o + 9, none⟩ = some (.string s)) ∧ (∀ d os, (Go.Sort.grow (redrawn w d) os).cell? ⟨b, o + 10, none⟩ = some (.int .i64 p)) ∧ (∀ d os, (Go.Sort.grow (redrawn w d) os).cell? ⟨b, o + 11, none⟩ = some (.int .i64 v)) :=
  ⟨cell_regrown h.c0, cell_regrown h.c1, cell_regrown h.c2, cell_regrown h.c3, cell_regrown h.c4, cell_regrown h.c5, cell_regrown h.c6, cell_regrown h.c7, cell_regrown h.c8, cell_regrown h.c9, cell_regrown h.c10, cell_regrown h.c11⟩
theorem RowK.drew {kd : IntKind} {w : World} {a : Option Addr} {zs : List Int} (h : RowK kd w a zs) : RowK kd w.drew a zs := h
end Go.Proofs.YtabbbpmhmlapgaaDoor

