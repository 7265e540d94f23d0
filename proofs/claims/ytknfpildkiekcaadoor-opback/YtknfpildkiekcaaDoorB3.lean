/- The bytes of a place: the program's, the page's. -/
import Derived.Test.YtknfpildkiekcaaDoorB2
namespace Go.Proofs.YtknfpildkiekcaaDoor.St
open Go.RowKit Go.Lib
set_option linter.unusedVariables false

theorem two_rowI (W : World) (t r : Int) : RowK .i64 (W.alloc (.cells #[.int .i64 t, .int .i64 r] 3)) (some ⟨W.heap.size, 0, none⟩) [t, r] := by
  intro i hi
  simp only [List.length_cons, List.length_nil] at hi
  rcases (show i = 0 ∨ i = 1 by omega) with rfl | rfl
  · exact ⟨W.heap.size, 0, rfl, by simp⟩
  · exact ⟨W.heap.size, 0, rfl, by simp⟩
theorem place_is (t r : Int) (b : Bool) (h : plB t r = b) (w : World) : Calls Tryd.prog 63 #[.agg #[.int .i64 t, .int .i64 r]] w (BoolPost w b) := by rw [← h]; exact place_any t r w
theorem refPlace_is (t r : Int) (b : Bool) (h : plB t r = b) (w : World) : Calls Tryd.prog 31 #[.agg #[.int .i64 t, .int .i64 r]] w (BoolPost w b) := by rw [← h]; exact refPlace_any t r w
theorem below_box (w : World) (o : Obj) : Below w.heap.size w (w.alloc o) := (Below.refl _ _).alloc (Nat.le_refl _) _

set_option maxHeartbeats 1000000 in
theorem bytes_no (t r : Int) (w : World) (h : plB t r = false) : Calls Tryd.prog 57 #[.agg #[.int .i64 t, .int .i64 r]] w (NoPost w) := by
  have C := Lib.hid (place_is t r false h (w.alloc (.cells #[.int .i64 t, .int .i64 r] 25)))
  have HB := Lib.hid (below_box w (.cells #[.int .i64 t, .int .i64 r] 25))
  clear h
  go_enter Tryd.func57, Tryd.ntmps57
  go_wp2_with fail
  refine (C.out).mono ?_
  rintro e w1 ⟨rfl, hb⟩
  have HZ := Lib.hid (HB.out.trans (hb.mono HB.out.size))
  clear hb
  go_wp2
  go_ret2
  exact ⟨rfl, HZ.out⟩

set_option maxHeartbeats 1000000 in
theorem bytes_yes (t r : Int) (w : World) (h : plB t r = true) : Calls Tryd.prog 57 #[.agg #[.int .i64 t, .int .i64 r]] w (BytesPost w (encS t r)) := by
  have C := Lib.hid (place_is t r true h (w.alloc (.cells #[.int .i64 t, .int .i64 r] 25)))
  have HB := Lib.hid (below_box w (.cells #[.int .i64 t, .int .i64 r] 25))
  have HM : Hid (∀ z ∈ [t, r], numB z = true) := by
    obtain ⟨h1, h2, h3, h4⟩ := plB_num h
    intro z hz
    simp only [List.mem_cons, List.not_mem_nil, or_false] at hz
    rcases hz with rfl | rfl <;> simp [numB] <;> omega
  clear h
  go_enter Tryd.func57, Tryd.ntmps57
  go_wp2_with fail
  refine (C.out).mono ?_
  rintro e w1 ⟨rfl, hb⟩
  have HZ := Lib.hid (HB.out.trans (hb.mono HB.out.size))
  obtain ⟨e0, e1⟩ := (StAt.new w t r).next hb
  have HC := Lib.hid (encoded_any (some ⟨w1.heap.size, 0, none⟩) [t, r] 2 2 (w1.alloc (.cells #[.int .i64 t, .int .i64 r] 3)) rfl (two_rowI w1 t r) (by simp) HM.out (by simp))
  rw [encS_encs] at HC
  clear hb C HB
  go_wp2_with fail
  refine (HC.out).mono ?_
  rintro e w3 ⟨v3, rfl, ho3, hb3⟩
  have HP : Hid (BytesPost w (encS t r) (.returned (.tuple #[v3, .int .i64 0])) w3) := by
    have hz := HZ.out
    have hs := hz.size
    exact ⟨v3, rfl, ho3.mono (by simp; omega), (hz.alloc hs _).trans (hb3.mono (by simp; omega))⟩
  clear ho3 hb3
  go_wp2
  go_ret2
  exact HP.out

theorem refNum_z (z : Int) (W : World) (h : numB z = true) : Calls Tryd.prog 36 #[.int .i64 z] W (AppPost W.heap.size W (enc z.toNat)) := by
  have h2 := h
  simp only [numB, decide_eq_true_eq] at h2
  have := refNum_any z.toNat W (by omega)
  rw [show ((z.toNat : Nat) : Int) = z by omega] at this
  exact this

set_option maxHeartbeats 2000000 in
theorem refBytes_any (t r : Int) (w : World) (h : plB t r = true) : Calls Tryd.prog 34 #[.agg #[.int .i64 t, .int .i64 r]] w (AppPost w.heap.size w (encS t r)) := by
  have mixed : Tryd.prog.follows .mixedOrders = true := by kernel_rfl
  obtain ⟨g1, g2, g3, g4⟩ := plB_num h
  have CT := Lib.hid (fun W => refNum_z t W (by simp [numB]; omega))
  have CR := Lib.hid (fun W => refNum_z r W (by simp [numB]; omega))
  have HL1 := Lib.hid (enc_len9 (n := t.toNat) (by omega))
  have HL2 := Lib.hid (enc_len9 (n := r.toNat) (by omega))
  have HB := Lib.hid (below_box w (.cells #[.int .i64 t, .int .i64 r] 25)).drew
  have hS0 := heldS_mk (n := w.heap.size) (w0 := w) (StAt.new w t r).drew HB.out
  clear g1 g2 g3 g4 h
  go_enter Tryd.func34, Tryd.ntmps34
  go_wp2_with fail
  go_region_held3 (fun w' => w'.cell? ⟨w.heap.size, 0, none⟩ = some (.int .i64 t) ∧ w'.cell? ⟨w.heap.size, 0 + 1, none⟩ = some (.int .i64 r) ∧ Hid (Below w.heap.size w w')) (assumption) (first
    | (go_at_call 36
       (with_reducible refine (CT.out _).mono ?_)
       rintro e w1 ⟨v1, rfl, ho1, hb1⟩
       have hS1 := heldS_next (n := w.heap.size) (w0 := w) (by assumption) hb1 (Nat.le_refl _)
       have HO1 : Hid (OwnK .u8 5 w1 (w.heap.size + 1) v1 (enc t.toNat)) := ho1.mono (by simp)
       clear ho1 hb1)
    | (go_at_call 36
       (with_reducible refine (CR.out _).mono ?_)
       rintro e w2 ⟨v2, rfl, ho2, hb2⟩
       have hS2 := heldS_next (n := w.heap.size) (w0 := w) (by assumption) hb2 (Nat.le_refl _)
       have HO2 : Hid (OwnK .u8 5 w2 (w.heap.size + 1) v1 (enc t.toNat)) := HO1.out.below hb2
       have HS2 : Hid (w.heap.size + 1 ≤ w2.heap.size) := by have h1 := World.block_lt_of_cell? _ _ hS2.1; exact h1
       obtain ⟨a2, n2, c2, rfl, hn2, hr2, hc2⟩ := ho2.form'
       have HN2 := Lib.hid hn2
       have HR2 := Lib.hid hr2
       clear ho2 hb2 hn2 hr2 hc2)
    | (refine stepB_row (by rfl) _ _ (by rfl) (w.heap.size + 1) w2 v1 (enc t.toNat) (enc r.toNat) a2 n2 c2 HN2.out (by rfl) HO2.out (by rfl) HR2.out (by have h1 := HL1.out; have h2 := HL2.out; have h3 := HN2.out; omega) HS2.out ?_
       intro v3 w3 hp3
       have HP : Hid (AppPost w.heap.size w (encS t r) (.returned v3) w3) := ⟨v3, rfl, hp3.own.mono (by omega), hp3.bel _ _ hS2.2.2.out (by omega) hS2.2.2.out.size⟩
       have hS3 := heldS_mk (n := w.heap.size) (w0 := w) ((StAt.mk hS2.1 hS2.2.1).below (hp3.bel (w.heap.size + 1) w2 (Below.refl _ _) (Nat.le_refl _) HS2.out) (by omega)) (hp3.bel _ _ hS2.2.2.out (by omega) hS2.2.2.out.size)
       clear hp3))
  go_wp2
  go_ret
  exact HP.out
end Go.Proofs.YtknfpildkiekcaaDoor.St
