/- The walk of CodeEdges. -/
import Derived.Test.YtnckaefdajnkjaaE9
namespace Go.Proofs.Ytnckaefdajnkjaa
open Go.RowKit Go.Lib
set_option linter.unusedVariables false

def nine : List Int := [128, 128, 128, 128, 128, 128, 128, 128, 64]
def many : List Int := [128, 128, 128, 128, 128, 128, 128, 128, 128]
theorem enc_step (n q r : Nat) (h : ¬ n < 128) (hq : n / 128 = q) (hr : n % 128 = r) : enc n = ((r + 128 : Nat) : Int) :: enc q := by rw [enc_big h, hq, hr]
theorem enc_nine : enc 4611686018427387904 = nine := by
  rw [enc_step 4611686018427387904 36028797018963968 0 (by decide) (by decide) (by decide), enc_step 36028797018963968 281474976710656 0 (by decide) (by decide) (by decide), enc_step 281474976710656 2199023255552 0 (by decide) (by decide) (by decide),
    enc_step 2199023255552 17179869184 0 (by decide) (by decide) (by decide), enc_step 17179869184 134217728 0 (by decide) (by decide) (by decide), enc_step 134217728 1048576 0 (by decide) (by decide) (by decide), enc_step 1048576 8192 0 (by decide) (by decide) (by decide),
    enc_step 8192 64 0 (by decide) (by decide) (by decide), enc_small (by decide)]
  rfl
theorem tk_nine_ok : tkN nine = (4611686018427387904, 9, 0) := by
  have := tkN_enc (n := 4611686018427387904) (by decide) []
  rw [List.append_nil, enc_nine] at this
  rw [this]; rfl
theorem tk_many : ∀ i, i < 10 → tkN (many.take i) = (0, 0, if i = 9 then 1 else 7) := by decide
theorem tk_two : tkN [128, 0] = (0, 0, 1) := by decide
theorem tk_zero : tkN [0, 5] = (0, 1, 0) := by decide
theorem tk_over : tkN (nine.set 0 129) = (0, 0, 1) := by decide
theorem lit_row (W : World) (zs : List Int) : RowK .u8 (W.alloc (.cells (zs.map (Value.int .u8)).toArray 5)) (some ⟨W.heap.size, 0, none⟩) zs := by
  intro i hi
  refine ⟨W.heap.size, 0, rfl, ?_⟩
  rw [Nat.zero_add]
  simp [List.getD, List.getElem?_eq_getElem hi]
theorem own_some {kd : IntKind} {e : TypeId} {w : World} {base : Nat} {v : Value} {zs : List Int} (h : OwnK kd e w base v zs) (h0 : 0 < zs.length) : ∃ g cap, v = .slice (some ⟨g, 0, none⟩) zs.length cap ∧ zs.length ≤ cap := by
  rcases h.2 with ⟨_, hz⟩ | ⟨g, cap, cur, rfl, _, _, hn, _⟩
  · omega
  · exact ⟨g, cap, rfl, hn⟩
theorem RowK.of_own {kd : IntKind} {e : TypeId} {w : World} {base : Nat} {a : Option Addr} {n c : Nat} {zs : List Int} (h : OwnK kd e w base (.slice a n c) zs) : RowK kd w a zs ∧ n = zs.length ∧ zs.length ≤ c := by
  obtain ⟨a', c', e', hr, hc, _⟩ := h.form
  simp only [Value.slice.injEq] at e'
  obtain ⟨rfl, rfl, rfl⟩ := e'
  exact ⟨hr, rfl, hc⟩

set_option maxHeartbeats 4000000 in
set_option maxRecDepth 100000 in
theorem codeEdges_walk (a : Option Addr) (n cap : Nat) (w : World) (h : AsksIs w a n) :
    Calls Try.prog 6 #[.slice a n cap] w (BoolPost w true) := by
  have mixed : Try.prog.follows .mixedOrders = true := by kernel_rfl
  clear h
  have H1 : Hid (Calls Try.prog 9 #[.int .i64 4611686018427387904] w (BytesPost w nine)) := by rw [← enc_nine]; exact num_yes 4611686018427387904 w (by decide)
  have HN0 := Lib.hid (fun W => num_any 0 W)
  have HN1 := Lib.hid (fun W => num_any 1 W)
  have HN7 := Lib.hid (fun W => num_any 7 W)
  have HB1 := Lib.hid (fun W => num_no 4611686018427387905 W (by decide))
  have HB2 := Lib.hid (fun W => num_no (-1) W (by decide))
  have hnz : (0 : Int) ≤ (n : Int) := by omega
  go_enter Try.func6, Try.ntmps6
  go_wp2_with fail
  refine (H1.out).mono ?_
  rintro e w1 ⟨v1, rfl, ho, hb⟩
  obtain ⟨g, c1, rfl, hc1⟩ := own_some ho (by decide)
  have HO := Lib.hid ho
  have HB := Lib.hid hb
  have hbs := hb.size
  have H2 := Lib.hid (takeNum_any (some ⟨g, 0, none⟩) nine c1 w1 (RowK.of_own ho).1 (by rw [← enc_nine]; exact enc_isB _))
  unfold TakePost at H2
  rw [tk_nine_ok] at H2
  have hn9 : nine.length = 9 := rfl
  rw [hn9] at H2 HO hc1 ⊢
  clear ho hb H1 hn9
  go_wp2_with fail
  refine (HB1.out _).mono ?_
  rintro e w' ⟨rfl, rfl⟩
  go_wp2_with fail
  refine (HB2.out _).mono ?_
  rintro e w' ⟨rfl, rfl⟩
  go_wp2_with fail
  refine (H2.out).mono ?_
  rintro e w' ⟨rfl, rfl⟩
  go_wp2_with fail
  refine (HN0.out _).mono ?_
  rintro e w' ⟨rfl, rfl⟩
  go_wp2_with fail
  refine (HN1.out _).mono ?_
  rintro e w' ⟨rfl, rfl⟩
  go_wp2_with fail
  refine (HN1.out _).mono ?_
  rintro e w' ⟨rfl, rfl⟩
  go_wp2_with fail
  refine (HN0.out _).mono ?_
  rintro e w' ⟨rfl, rfl⟩
  go_wp2
  obtain ⟨W2, hW2⟩ : ∃ W, W = w1.alloc (.cells #[.int .u8 128, .int .u8 128, .int .u8 128, .int .u8 128, .int .u8 128, .int .u8 128, .int .u8 128, .int .u8 128, .int .u8 128] 5) := ⟨_, rfl⟩
  rw [← hW2]
  have HR2 : Hid (RowK .u8 W2 (some ⟨w1.heap.size, 0, none⟩) many) := by rw [hW2]; exact lit_row w1 many
  have HO2 : Hid (OwnK .u8 5 W2 w.heap.size (.slice (some ⟨g, 0, none⟩) 9 c1) nine) := by rw [hW2]; exact HO.out.alloc _
  have HB3 : Hid (Below w.heap.size w W2) := by rw [hW2]; exact HB.out.alloc hbs _
  clear hW2 HO HB H2 HB1 HB2
  generalize w1.heap.size = gm at *
  go_loopg [13] 10 (fun g1 v wr => ∃ i : Nat, v = .int .i64 i ∧ i ≤ 10 ∧ 10 - i ≤ g1 ∧ W2 = wr)
  case atStart => exact ⟨0, rfl, by omega, by omega, rfl⟩
  case round =>
    obtain ⟨i, rfl, hi10, hg1, rfl⟩ := hrel
    by_cases hi : i < 10
    · have hiz : (i : Int) ≤ 9 := by omega
      have hsl := slice_h W2 (some ⟨gm, 0, none⟩) 9 9 i (i : Int) rfl (by omega)
      have H3 := Lib.hid (takeNum_any (partA (some ⟨gm, 0, none⟩) 0 9) (many.take i) 9 W2 (HR2.out.first i 9 (by decide)) (IsB.take (by intro z hz; simp [many] at hz; omega) i))
      unfold TakePost at H3
      rw [tk_many i hi, List.length_take, show min i many.length = i by have : many.length = 9 := rfl; omega] at H3
      by_cases h9 : i = 9
      · subst h9
        rw [if_pos rfl] at H3
        go_wp2_with fail
        refine (H3.out).mono ?_
        rintro e w' ⟨rfl, rfl⟩
        go_wp2_with fail
        refine (HN1.out _).mono ?_
        rintro e w' ⟨rfl, rfl⟩
        go_wp2
        go_roundg (10 - (9 + 1))
        case measure => omega
        case rel => exact ⟨9 + 1, by go_num, by omega, by omega, rfl⟩
      · rw [if_neg h9] at H3
        have h9z : ¬ (i : Int) = 9 := by omega
        go_wp2_with fail
        refine (H3.out).mono ?_
        rintro e w' ⟨rfl, rfl⟩
        go_wp2_with fail
        refine (HN7.out _).mono ?_
        rintro e w' ⟨rfl, rfl⟩
        go_wp2
        go_roundg (10 - (i + 1))
        case measure => omega
        case rel => exact ⟨i + 1, by go_num, by omega, by omega, rfl⟩
    · have hiz : ¬ (i : Int) ≤ 9 := by omega
      have hs2 := HB3.out.size
      have H4 : Hid (Calls Try.prog 21 #[.slice (some ⟨W2.heap.size, 0, none⟩) 2 2] (W2.alloc (.cells #[.int .u8 128, .int .u8 0] 5)) fun e w' => e = .returned (.tuple #[.int .i64 0, .int .i64 0, .int .i64 1]) ∧ W2.alloc (.cells #[.int .u8 128, .int .u8 0] 5) = w') := by
        have := takeNum_any (some ⟨W2.heap.size, 0, none⟩) [128, 0] 2 _ (lit_row W2 [128, 0]) (by intro z hz; simp at hz; omega)
        unfold TakePost at this
        rw [tk_two] at this
        exact this
      go_wp2_with fail
      refine (H4.out).mono ?_
      rintro e w' ⟨rfl, rfl⟩
      obtain ⟨W3, hW3⟩ : ∃ W, W = W2.alloc (.cells #[.int .u8 128, .int .u8 0] 5) := ⟨_, rfl⟩
      rw [← hW3]
      have HO3 : Hid (OwnK .u8 5 W3 w.heap.size (.slice (some ⟨g, 0, none⟩) 9 c1) nine) := by rw [hW3]; exact HO2.out.alloc _
      have HB4 : Hid (Below w.heap.size w W3) := by rw [hW3]; exact HB3.out.alloc hs2 _
      clear hW3 HO2 HB3 H4 HR2
      have hs3 := HB4.out.size
      have H5 : Hid (Calls Try.prog 21 #[.slice (some ⟨W3.heap.size, 0, none⟩) 2 2] (W3.alloc (.cells #[.int .u8 0, .int .u8 5] 5)) fun e w' => e = .returned (.tuple #[.int .i64 0, .int .i64 1, .int .i64 0]) ∧ W3.alloc (.cells #[.int .u8 0, .int .u8 5] 5) = w') := by
        have := takeNum_any (some ⟨W3.heap.size, 0, none⟩) [0, 5] 2 _ (lit_row W3 [0, 5]) (by intro z hz; simp at hz; omega)
        unfold TakePost at this
        rw [tk_zero] at this
        exact this
      go_wp2_with fail
      refine (H5.out).mono ?_
      rintro e w' ⟨rfl, rfl⟩
      obtain ⟨W4, hW4⟩ : ∃ W, W = W3.alloc (.cells #[.int .u8 0, .int .u8 5] 5) := ⟨_, rfl⟩
      rw [← hW4]
      have HO4 : Hid (OwnK .u8 5 W4 w.heap.size (.slice (some ⟨g, 0, none⟩) 9 c1) nine) := by rw [hW4]; exact HO3.out.alloc _
      have HB5 : Hid (Below w.heap.size w W4) := by rw [hW4]; exact HB4.out.alloc hs3 _
      clear hW4 HO3 HB4 H5
      obtain ⟨q0, q1, q2, q3⟩ := OwnK.cellAt (n := 9) rfl HO4.out 0 (by decide)
      have q0' : W4.cell? ⟨g, 0, none⟩ = some (.int .u8 128) := q0
      clear q0
      have HO5 : Hid (OwnK .u8 5 (W4.setCell ⟨g, 0, none⟩ (.int .u8 129)) w.heap.size (.slice (some ⟨g, 0, none⟩) 9 c1) (nine.set 0 129)) := OwnK.stored rfl HO4.out 0 129
      have HB6 : Hid (Below w.heap.size w (W4.setCell ⟨g, 0, none⟩ (.int .u8 129))) := HB5.out.setCell q2 _
      have H6 := Lib.hid (takeNum_any (some ⟨g, 0, none⟩) (nine.set 0 129) c1 _ (RowK.of_own HO5.out).1 (by intro z hz; simp [nine] at hz; omega))
      unfold TakePost at H6
      rw [tk_over] at H6
      have hn9 : (nine.set 0 129).length = 9 := rfl
      rw [hn9] at H6
      clear hn9 HO4 HB5
      go_wp2_with fail
      refine (H6.out).mono ?_
      rintro e w' ⟨rfl, rfl⟩
      have HB7 := HB6
      clear H6 HO5 HB6 q0' q1
      generalize W4.setCell ⟨g, 0, none⟩ (.int .u8 129) = W5 at *
      have HWK := Lib.hid (wakes_any W5)
      go_wp2_with fail
      refine (HN1.out _).mono ?_
      rintro e w' ⟨rfl, rfl⟩
      go_wp2_with fail
      refine (HN0.out _).mono ?_
      rintro e w' ⟨rfl, rfl⟩
      go_wp2_with fail
      refine (HN1.out _).mono ?_
      rintro e w' ⟨rfl, rfl⟩
      go_wp2_with fail
      refine (HWK.out).mono ?_
      rintro e w6 ⟨rfl, hb6⟩
      have HZ : Hid (Below w.heap.size w w6) := HB7.out.trans (hb6.mono HB7.out.size)
      clear hb6
      go_wp2
      go_ret
      exact ⟨rfl, HZ.out⟩
end Go.Proofs.Ytnckaefdajnkjaa
