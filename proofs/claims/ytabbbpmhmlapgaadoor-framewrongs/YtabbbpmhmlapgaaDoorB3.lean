/- The bytes of a place: the program's, the page's. -/
import Derived.Test.YtabbbpmhmlapgaaDoorB2
namespace Go.Proofs.YtabbbpmhmlapgaaDoor.St
open Go.RowKit Go.Lib
set_option linter.unusedVariables false

theorem two_rowI (W : World) (t r : Int) : RowK .i64 (W.alloc (.cells #[.int .i64 t, .int .i64 r] 3)) (some ⟨W.heap.size, 0, none⟩) [t, r] := by
  intro i hi
  simp only [List.length_cons, List.length_nil] at hi
  rcases (show i = 0 ∨ i = 1 by omega) with rfl | rfl
  · exact ⟨W.heap.size, 0, rfl, by simp⟩
  · exact ⟨W.heap.size, 0, rfl, by simp⟩
theorem place_is (t r : Int) (b : Bool) (h : plB t r = b) (w : World) : Calls Tryd.prog 29 #[.agg #[.int .i64 t, .int .i64 r]] w (BoolPost w b) := by rw [← h]; exact place_any t r w
theorem below_box (w : World) (o : Obj) : Below w.heap.size w (w.alloc o) := (Below.refl _ _).alloc (Nat.le_refl _) _

set_option maxHeartbeats 1000000 in
set_option maxRecDepth 100000 in
theorem bytes_no (t r : Int) (w : World) (h : plB t r = false) : Calls Tryd.prog 45 #[.agg #[.int .i64 t, .int .i64 r]] w (NoPost w) := by
  have C := Lib.hid (place_is t r false h (w.alloc (.cells #[.int .i64 t, .int .i64 r] 24)))
  have HB := Lib.hid (below_box w (.cells #[.int .i64 t, .int .i64 r] 24))
  clear h
  go_enter Tryd.func45, Tryd.ntmps45
  go_wp2_with fail
  refine (C.out).mono ?_
  rintro e w1 ⟨rfl, hb⟩
  have HZ := Lib.hid (HB.out.trans (hb.mono HB.out.size))
  clear hb
  go_wp2
  go_ret2
  exact ⟨rfl, HZ.out⟩

set_option maxHeartbeats 1000000 in
set_option maxRecDepth 100000 in
theorem bytes_yes (t r : Int) (w : World) (h : plB t r = true) : Calls Tryd.prog 45 #[.agg #[.int .i64 t, .int .i64 r]] w (BytesPost w (encS t r)) := by
  have C := Lib.hid (place_is t r true h (w.alloc (.cells #[.int .i64 t, .int .i64 r] 24)))
  have HB := Lib.hid (below_box w (.cells #[.int .i64 t, .int .i64 r] 24))
  have HM : Hid (∀ z ∈ [t, r], numB z = true) := by
    obtain ⟨h1, h2, h3, h4⟩ := plB_num h
    intro z hz
    simp only [List.mem_cons, List.not_mem_nil, or_false] at hz
    rcases hz with rfl | rfl <;> simp [numB] <;> omega
  clear h
  go_enter Tryd.func45, Tryd.ntmps45
  go_wp2_with fail
  refine (C.out).mono ?_
  rintro e w1 ⟨rfl, hb⟩
  have HZ := Lib.hid (HB.out.trans (hb.mono HB.out.size))
  obtain ⟨e0, e1⟩ := (StAt.new w t r).next hb
  have HC := Lib.hid (encoded_any (some ⟨w1.heap.size, 0, none⟩) [t, r] 2 2 (w1.alloc (.cells #[.int .i64 t, .int .i64 r] 3)) rfl (two_rowI w1 t r) (by simp) HM.out (by simp))
  rw [encS_encs] at HC
  clear hb C HB
  go_wp2_with fail
  refine (HC.out).mono ?_
  rintro e w3 ⟨v3, rfl, ho3, hb3⟩
  have HP : Hid (BytesPost w (encS t r) (.returned (.tuple #[v3, .int .i64 0])) w3) := by
    have hz := HZ.out
    have hs := hz.size
    exact ⟨v3, rfl, ho3.mono (by simp; omega), (hz.alloc hs _).trans (hb3.mono (by simp; omega))⟩
  clear ho3 hb3
  go_wp2
  go_ret2
  exact HP.out

end Go.Proofs.YtabbbpmhmlapgaaDoor.St
