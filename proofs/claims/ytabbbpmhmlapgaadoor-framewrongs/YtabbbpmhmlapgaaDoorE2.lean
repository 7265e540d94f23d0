/- The page's Num; the program's Num. -/
import Derived.Test.YtabbbpmhmlapgaaDoorE1
namespace Go.Proofs.YtabbbpmhmlapgaaDoor
open Go.RowKit Go.Lib
set_option linter.unusedVariables false

theorem wraps_i64 (n : Int) (h₀ : 0 ≤ n) (h₁ : n < 2 ^ 63) : IntKind.i64.wrap n = n := by rw [IntKind.wrap_i64]; omega
theorem and127 (x : Int) (h0 : 0 ≤ x) (h1 : x ≤ 4611686018427387904) : bits .and .i64 x 127 = x % 128 := bits_mask .i64 63 (by decide) wraps_i64 7 (by decide) x h0 (by omega)
theorem or128 (x : Int) (h0 : 0 ≤ x) (h1 : x < 128) : bits .or .u8 x 128 = x + 128 := by
  have h := bits_join .u8 8 (by decide) wraps_u8 7 128 x (by decide) (by decide) (by decide) h0 (by omega) (by omega)
  obtain ⟨b, rfl⟩ := Int.eq_ofNat_of_zero_le h0
  have e : (128 : Int) = ((128 : Nat) : Int) := rfl
  rw [e] at h ⊢
  rw [(bits_nat .u8 8 (by decide) wraps_u8 128 b (by decide) (by omega)).2] at h
  rw [(bits_nat .u8 8 (by decide) wraps_u8 b 128 (by omega) (by decide)).2, Nat.or_comm, h]
  omega

/-- what Num, Text, Nums tell -/
def BytesPost (w : World) (zs : List Int) (e : Ending) (w' : World) : Prop := ∃ v', e = .returned (.tuple #[v', .int .i64 0]) ∧ OwnK .u8 5 w' w.heap.size v' zs ∧ Below w.heap.size w w'

set_option maxHeartbeats 1000000 in
theorem num_yes (n : Nat) (w : World) (hn : n ≤ 4611686018427387904) : Calls Tryd.prog 36 #[.int .i64 (n : Int)] w (BytesPost w (enc n)) := by
  have hb : numB (n : Int) = true := by simp [numB]; omega
  have H1 := Lib.hid (isNum_any (n : Int) w)
  rw [hb] at H1
  have H2 := Lib.hid (appendNum_any w.heap.size (.slice none 0 0) [] n w (OwnK.nil _ _ _ _) (Nat.le_refl _) hn (by have := enc_len9 hn; simp; omega))
  clear hb
  go_enter Tryd.func36, Tryd.ntmps36
  go_wp2_with fail
  refine (H1.out).mono ?_
  rintro e w' ⟨rfl, rfl⟩
  go_wp2_with fail
  refine (H2.out).mono ?_
  rintro e w1 ⟨v1, rfl, ho, hb⟩
  have HP : Hid (BytesPost w (enc n) (.returned (.tuple #[v1, .int .i64 0])) w1) := ⟨v1, rfl, ho, hb⟩
  clear ho hb
  go_wp2
  go_ret2
  exact HP.out

set_option maxHeartbeats 1000000 in
theorem num_no (z : Int) (w : World) (hn : numB z = false) : Calls Tryd.prog 36 #[.int .i64 z] w fun e w' => e = .returned (.tuple #[.slice none 0 0, .int .i64 1]) ∧ w = w' := by
  have H1 := Lib.hid (isNum_any z w)
  rw [hn] at H1
  clear hn
  go_enter Tryd.func36, Tryd.ntmps36
  go_wp2_with fail
  refine (H1.out).mono ?_
  rintro e w' ⟨rfl, rfl⟩
  go_wp2
  go_ret2
  exact ⟨rfl, rfl⟩

set_option maxHeartbeats 1000000 in
theorem text_yes (s : ByteArray) (w : World) (hs : s.size ≤ 65536) : Calls Tryd.prog 46 #[.string s] w (BytesPost w (enc s.size ++ strN s)) := by
  have H2 := Lib.hid (appendNum_any w.heap.size (.slice none 0 0) [] s.size w (OwnK.nil _ _ _ _) (Nat.le_refl _) (by omega) (by have := enc_len9 (n := s.size) (by omega); simp; omega))
  have h9 := enc_len9 (n := s.size) (by omega)
  have hsz : ¬ (65536 : Int) < (s.size : Int) := by omega
  go_enter Tryd.func46, Tryd.ntmps46
  go_wp2_with fail
  refine (H2.out).mono ?_
  rintro e w1 ⟨v1, rfl, ho, hb⟩
  rw [List.nil_append] at ho
  have HO := Lib.hid ho
  have HB := Lib.hid hb
  have hbs := hb.size
  clear ho hb H2
  go_wp2_with (at_builtin
               refine wpB_str rfl _ _ rfl w.heap.size w1 v1 (enc s.size) s rfl HO.out rfl (by omega) (by omega) ?_
               intro v2 w2 ho2 hb2
               have HP : Hid (BytesPost w (enc s.size ++ strN s) (.returned (.tuple #[v2, .int .i64 0])) w2) := ⟨v2, rfl, ho2, HB.out.trans hb2⟩
               clear ho2 hb2)
  go_ret2
  exact HP.out

set_option maxHeartbeats 1000000 in
theorem text_no (s : ByteArray) (w : World) (hs : 65536 < s.size) : Calls Tryd.prog 46 #[.string s] w fun e w' => e = .returned (.tuple #[.slice none 0 0, .int .i64 1]) ∧ w = w' := by
  have hsz : (65536 : Int) < (s.size : Int) := by omega
  go_enter Tryd.func46, Tryd.ntmps46
  go_wp2
  go_ret2
  exact ⟨rfl, rfl⟩

end Go.Proofs.YtabbbpmhmlapgaaDoor
