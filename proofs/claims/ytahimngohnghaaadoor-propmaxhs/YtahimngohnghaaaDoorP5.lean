/- Plain, of the program: goto. -/
import Derived.Test.YtahimngohnghaaaDoorP4
namespace Go.Proofs.YtahimngohnghaaaDoor
open Go.RowKit Go.Lib
set_option linter.unusedVariables false

theorem run_make_rowN {P : Program} (t e : TypeId) (i : TypeInfo) (z : Value) (ht : P.underlying t = some (.slice e)) (hi : P.info? e = some i) (hz : i.zero = some z)
    (kl kc : IntKind) (n c : Nat) (hnc : n ≤ c) (hbytes : i.bytes * c ≤ 281474976710656) (h63 : c ≤ 9223372036854775807) (w : World) :
    (Instr.makeSlice t (.int kl (n : Int)) (.int kc (c : Int))).run P w = .ok (.slice (some ⟨w.heap.size, 0, none⟩) n c) (w.alloc (.cells (madeCells z.cells (c * i.size)) e)) := by
  have hb : (i.bytes : Int) * (c : Int) ≤ 281474976710656 := by
    have h : ((i.bytes * c : Nat) : Int) ≤ 281474976710656 := by omega
    rwa [Int.natCast_mul] at h
  have hr := run_make (P := P) w t e i z ht hi hz kl kc n c (by omega) (by omega) hb (by omega)
  simp only [Int.toNat_natCast] at hr
  exact hr
theorem new_block (w : World) (o : Obj) : (w.alloc o).heap[w.heap.size]? = some o := by
  show (w.heap.push o)[w.heap.size]? = some o
  simp
def zero19 : Array Value := madeCells (Value.int .i64 0).cells (19 * 1)
theorem make19 (w : World) : (Instr.makeSlice 23 (.int .i64 19) (.int .i64 19)).run Tryd.prog w = .ok (.slice (some ⟨w.heap.size, 0, none⟩) 19 19) (w.alloc (.cells zero19 3)) := by
  obtain ⟨i0, hi, hz0, hz1, hz2⟩ := info_parts Tryd.info3
  have := run_make_rowN (P := Tryd.prog) 23 3 i0 (.int .i64 0) Tryd.underlying23 hi hz0 .i64 .i64 19 19 (Nat.le_refl _) (by rw [hz2]; omega) (by omega) w
  rw [hz1] at this
  exact this
theorem own19 (w : World) : OwnK .i64 3 (w.alloc (.cells zero19 3)) w.heap.size (.slice (some ⟨w.heap.size, 0, none⟩) 19 19) (List.replicate 19 0) := by
  refine ⟨rfl, .inr ⟨w.heap.size, 19, zero19, rfl, Nat.le_refl _, new_block _ _, by decide, by decide, by kernel_rfl, by kernel_rfl⟩⟩

/-- a cell in a block of one's own, that may be written -/
structure One (w : World) (g : Nat) (v : Value) : Prop where
  c : w.cell? ⟨g, 0, none⟩ = some v
  f : w.frozen? ⟨g, 0, none⟩ = false
theorem One.new (w : World) (v : Value) (t : TypeId) : One (w.alloc (.cells #[v] t)) w.heap.size v := ⟨by simp, by simp⟩
theorem One.lt {w : World} {g : Nat} {v : Value} (h : One w g v) : g < w.heap.size := World.block_lt_of_cell? _ _ h.c
theorem One.below {w w' : World} {g B : Nat} {v : Value} (h : One w g v) (hb : Below B w w') (hg : g < B) : One w' g v :=
  ⟨(hb.cell (p := ⟨g, 0, none⟩) hg).trans h.c, (hb.frozen (p := ⟨g, 0, none⟩) hg).trans h.f⟩
theorem One.next {w w' : World} {g : Nat} {v : Value} (h : One w g v) (hb : Below w.heap.size w w') : One w' g v := h.below hb h.lt
theorem One.set_ {w : World} {g : Nat} {v : Value} (h : One w g v) (u : Value) : One (w.setCell ⟨g, 0, none⟩ u) g u :=
  ⟨World.cell?_setCell_same' _ _ _ (by rw [h.c]; rfl), by rw [World.frozen?_setCell]; exact h.f⟩
theorem One.other {w : World} {g g' o : Nat} {v : Value} (h : One w g v) (hg : g ≠ g') (u : Value) : One (w.setCell ⟨g', o, none⟩ u) g v :=
  ⟨by rw [World.cell?_setCell_other _ _ _ _ (by simp)]; exact h.c, by rw [World.frozen?_setCell]; exact h.f⟩
theorem OwnK.setOther {kd : IntKind} {e : TypeId} {w : World} {base g : Nat} {v : Value} {zs : List Int} (h : OwnK kd e w base v zs) (hg : g < base) (u : Value) : OwnK kd e (w.setCell ⟨g, 0, none⟩ u) base v zs := ownsRow_setCell_below h (a := ⟨g, 0, none⟩) hg u

structure PlI (w : World) (g : Nat) (W : World) (k : Nat) (ys : List Int) : Prop where
  len : ys.length = 19
  own : OwnK .i64 3 W (w.heap.size + 1) (.slice (some ⟨g, 0, none⟩) 19 19) ys
  us : ∀ p, p < k → ys.getD p 0 = usT p
  one : One W w.heap.size (.slice none 0 0)
  bel : Below w.heap.size w W
  tab : Tab W
theorem PlI.stored {w : World} {g : Nat} {W : World} {k : Nat} {ys : List Int} (h : PlI w g W k ys) (hk : k < 19) : PlI w g (W.setCell ⟨g, k, none⟩ (.int .i64 (usT k))) (k + 1) (ys.set k (usT k)) := by
  obtain ⟨_, _, hg1, hg2⟩ := OwnK.cellAt h.len h.own k hk
  refine ⟨by rw [List.length_set]; exact h.len, OwnK.stored h.len h.own k (usT k), fun p hp => ?_, h.one.other (by omega) _, h.bel.setCell (p := ⟨g, k, none⟩) (by simp only; omega) _, ?_⟩
  · rw [List.getD_eq_getElem?_getD, List.getElem?_set]
    by_cases hpk : k = p
    · subst hpk
      rw [if_pos rfl, if_pos (by have := h.len; omega)]
      rfl
    · rw [if_neg hpk, ← List.getD_eq_getElem?_getD]
      exact h.us p (by omega)
  · have h0 : Below 1 W (W.setCell ⟨g, k, none⟩ (.int .i64 (usT k))) := (Below.refl 1 W).setCell (p := ⟨g, k, none⟩) (by simp only; omega) _
    exact h.tab.below h0 (by omega)
theorem usL_of {ys : List Int} (hl : ys.length = 19) (h : ∀ p, p < 19 → ys.getD p 0 = usT p) : ys = usL := by
  refine List.ext_getElem? fun i => ?_
  by_cases hi : i < 19
  · have h1 := h i hi
    have hu : i < usL.length := by rw [show usL.length = 19 from rfl]; exact hi
    unfold usT at h1
    rw [List.getD_eq_getElem?_getD, List.getD_eq_getElem?_getD, List.getElem?_eq_getElem (by omega), List.getElem?_eq_getElem hu] at h1
    rw [List.getElem?_eq_getElem (by omega), List.getElem?_eq_getElem hu]
    exact congrArg some h1
  · rw [List.getElem?_eq_none (by omega), List.getElem?_eq_none (by rw [show usL.length = 19 from rfl]; omega)]
def PlainPost (w : World) (e : Ending) (w' : World) : Prop := ∃ g, e = .returned (.agg #[.slice (some ⟨g, 0, none⟩) 19 19]) ∧ OwnK .i64 3 w' w.heap.size (.slice (some ⟨g, 0, none⟩) 19 19) usL ∧ Below w.heap.size w w'
theorem PlI.finish {w : World} {g : Nat} {W : World} {ys : List Int} (h : PlI w g W 19 ys) : One (W.setCell ⟨w.heap.size, 0, none⟩ (.slice (some ⟨g, 0, none⟩) 19 19)) w.heap.size (.slice (some ⟨g, 0, none⟩) 19 19) ∧
    PlainPost w (.returned (.agg #[.slice (some ⟨g, 0, none⟩) 19 19])) (W.setCell ⟨w.heap.size, 0, none⟩ (.slice (some ⟨g, 0, none⟩) 19 19)) := by
  obtain rfl := usL_of h.len h.us
  exact ⟨h.one.set_ _, g, rfl, (h.own.setOther (by omega) _).mono (by omega), h.bel.setCell (p := ⟨w.heap.size, 0, none⟩) (Nat.le_refl _) _⟩
def PlJ (w : World) (g : Nat) (act : Act) (W : World) : Prop :=
  ∃ (k : Nat) (ys : List Int) (u3 u4 u5 u6 u7 u8 u9 u10 u11 u12 u13 u14 u15 u16 : Value), act = { tmps := #[.pointer (some ⟨w.heap.size, 0, none⟩), .slice (some ⟨g, 0, none⟩) 19 19, .int .i64 (k : Int), u3, u4, u5, u6, u7, u8, u9, u10, u11, u12, u13, u14, u15, u16], defers := [] } ∧ k < 19 ∧ PlI w g W k ys

set_option maxHeartbeats 2000000 in
set_option maxRecDepth 100000 in
theorem plain_any (w : World) (ht : Tab w) : Calls Tryd.prog 26 #[] w (PlainPost w) := by
  have hmk := make19
  obtain ⟨g, hg⟩ : ∃ g, g = w.heap.size + 1 := ⟨_, rfl⟩
  have HI : Hid (PlI w g ((w.alloc (.cells #[.slice none 0 0] 25)).alloc (.cells zero19 3)) 0 (List.replicate 19 0)) := by
    have h1 : Below w.heap.size w (w.alloc (.cells #[.slice none 0 0] 25)) := (Below.refl _ _).alloc (Nat.le_refl _) _
    have h2 : Below w.heap.size w ((w.alloc (.cells #[.slice none 0 0] 25)).alloc (.cells zero19 3)) := h1.alloc h1.size _
    subst hg
    exact ⟨rfl, by simpa using own19 (w.alloc (.cells #[.slice none 0 0] 25)), fun p hp => by omega, (One.new w _ 25).next ((Below.refl _ _).alloc (Nat.le_refl _) _), h2, ht.below h2 ht.lt⟩
  have HG := Lib.hid hg
  clear ht
  go_enter Tryd.func26, Tryd.ntmps26
  go_wp2
  refine wp_scope_jumps 0 (PlJ w g) (fun a' _ => 19 - intV (a'.tmps.getD 2 undef)) rfl ?_ ?_
  · have hz0 := make19 (w.alloc (.cells #[.slice none 0 0] 25))
    rw [show (w.alloc (.cells #[.slice none 0 0] 25)).heap.size = w.heap.size + 1 from by simp, ← hg] at hz0
    clear hg hmk
    go_wp2_with fail
    clear hz0
    generalize (w.alloc (.cells #[.slice none 0 0] 25)).alloc (.cells zero19 3) = W at HI ⊢
    obtain ⟨c1, f1, _, _⟩ := OwnK.cellAt HI.out.len HI.out.own 0 (by omega)
    have c0 : W.cell? ⟨0, 2, none⟩ = some (.int .i64 (usT 0)) := HI.out.tab.us 0 (by omega)
    have HQ := Lib.hid (HI.out.stored (by omega))
    clear HI
    generalize usT 0 = u at c0 HQ
    generalize (List.replicate 19 (0 : Int)).getD 0 0 = x at c1
    generalize (List.replicate 19 (0 : Int)).set 0 u = ys at HQ
    go_step3
    go_wp2_with fail
    go_step3
    exact ⟨rfl, 1, ys, _, _, _, _, _, _, _, _, _, _, _, _, _, _, rfl, by omega, HQ.out⟩
  · rintro a' W ⟨k, ys, u3, u4, u5, u6, u7, u8, u9, u10, u11, u12, u13, u14, u15, u16, rfl, hk, hI⟩
    clear hg hmk HI
    have HI := Lib.hid hI
    clear hI
    obtain ⟨c1, f1, _, _⟩ := OwnK.cellAt HI.out.len HI.out.own k hk
    have c0 : W.cell? ⟨0, k * 4 + 2, none⟩ = some (.int .i64 (usT k)) := HI.out.tab.us k hk
    have HQ := Lib.hid (HI.out.stored hk)
    clear HI
    generalize usT k = u at c0 HQ
    generalize ys.getD k 0 = x at c1
    generalize ys.set k u = zs at HQ
    have hkp : (k : Int) < 19 := by omega
    by_cases hk1 : k + 1 < 19
    · have hkz : decide ((k : Int) + 1 < 19) = true := decide_eq_true (by omega)
      have hkq : (k : Int) + 1 < 19 := by omega
      go_wp2_with fail
      go_step3
      refine ⟨rfl, ⟨k + 1, zs, _, _, _, _, _, _, _, _, _, _, _, _, _, _, by go_num, hk1, HQ.out⟩, ?_⟩
      simp [intV]
      omega
    · have hkz : decide ((k : Int) + 1 < 19) = false := decide_eq_false (by omega)
      have hkq : ¬ (k : Int) + 1 < 19 := by omega
      obtain ⟨c2, f2⟩ := HQ.out.one
      obtain rfl : k = 18 := by omega
      have HF := Lib.hid HQ.out.finish
      clear HQ
      have r0 := HF.out.1.c
      go_wp2
      simp only [Exit.jump]
      refine bodyPost_ret (v := .agg #[.slice (some ⟨g, 0, none⟩) 19 19]) (by simp [results, Tryd.results26, go_sem, r0]) rfl ?_
      exact HF.out.2
end Go.Proofs.YtahimngohnghaaaDoor
