/- A plain operation; awake. -/
import Derived.Test.YtabbbpmhmlapgaaDoorO15
import Derived.Test.YtabbbpmhmlapgaaDoorO9b
namespace Go.Proofs.YtabbbpmhmlapgaaDoor
open Go.RowKit Go.Lib
set_option linter.unusedVariables false

theorem fldE_isB (f : Nat) (t r : Int) (ds : List Int) (k nt nr pt pr : Int) (s : ByteArray) (p v : Int) : IsB (fldE f t r ds k nt nr pt pr s p v) := by
  unfold fldE
  split
  · exact St.encS_isB _ _
  · exact encL_isB _
  · exact enc_isB _
  · exact St.encS_isB _ _
  · exact St.encS_isB _ _
  · exact (enc_isB _).app (strN_isB _)
  · exact enc_isB _
  · exact enc_isB _
theorem preE_isB (n : Nat) (t r : Int) (ds : List Int) (k nt nr pt pr : Int) (s : ByteArray) (p v : Int) : IsB (preE n t r ds k nt nr pt pr s p v) := by
  induction n with
  | zero => exact IsB.nil
  | succ n ih => rw [preE_succ]; exact ih.app (fldE_isB _ _ _ _ _ _ _ _ _ _ _ _)
theorem encO_isB (t r : Int) (ds : List Int) (k nt nr pt pr : Int) (s : ByteArray) (p v : Int) : IsB (encO t r ds k nt nr pt pr s p v) := preE_isB 6 _ _ _ _ _ _ _ _ _ _ _
theorem encO_len {t r q : Int} {ds : List Int} {k nt nr pt pr : Int} {s : ByteArray} {p v : Int} (h : opB t r q ds k nt nr pt pr s p v = true) : (encO t r ds k nt nr pt pr s p v).length ≤ 918 := preE_len h 6 (by omega)

theorem st_buildT (x : Int) (w : World) : (Instr.build 24 #[(0, .int .i64 x)]).run Tryd.prog w = .ok (.agg #[.int .i64 x, .int .i64 0]) w := run_build w 24 _ _ (by kernel_rfl)
theorem op_buildO (da : Option Addr) (dn dc : Nat) (w : World) : (Instr.build 27 #[(0, .agg #[.int .i64 1, .int .i64 0]), (1, .int .i64 1), (2, .slice da dn dc), (3, .int .i64 1), (4, .agg #[.int .i64 1, .int .i64 0]), (6, .string ⟨#[107]⟩)]).run Tryd.prog w = .ok (.agg #[.int .i64 1, .int .i64 0, .int .i64 1, .slice da dn dc, .int .i64 1, .int .i64 1, .int .i64 0, .int .i64 0, .int .i64 0, .string ⟨#[107]⟩, .int .i64 0, .int .i64 0]) w := run_build w 27 _ _ (by kernel_rfl)
def OPost (w : World) (e : Ending) (w' : World) : Prop := ∃ a, e = .returned (.agg #[.int .i64 1, .int .i64 0, .int .i64 1, .slice a 1 1, .int .i64 1, .int .i64 1, .int .i64 0, .int .i64 0, .int .i64 0, .string ⟨#[107]⟩, .int .i64 0, .int .i64 0]) ∧ RowK .i64 w' a [0] ∧ Below w.heap.size w w'
set_option maxHeartbeats 1000000 in
set_option maxRecDepth 100000 in
theorem mkO_any (w : World) : Calls Tryd.prog 5 #[] w (OPost w) := by
  have h1 := st_buildT
  have h2 := op_buildO
  go_enter Tryd.func5, Tryd.ntmps5
  go_wp2
  refine bodyPost_ret (v := .agg #[.int .i64 1, .int .i64 0, .int .i64 1, .slice (some ⟨w.heap.size + 1, 0, none⟩) 1 1, .int .i64 1, .int .i64 1, .int .i64 0, .int .i64 0, .int .i64 0, .string ⟨#[107]⟩, .int .i64 0, .int .i64 0]) (by simp [results, Tryd.results5, go_sem]) rfl ?_
  refine ⟨_, rfl, ?_, St.below2 w _ _⟩
  have := one_row .i64 3 (w.alloc (.cells #[.int .i64 1, .int .i64 0, .int .i64 1, .slice (some ⟨w.heap.size + 1, 0, none⟩) 1 1, .int .i64 1, .int .i64 1, .int .i64 0, .int .i64 0, .int .i64 0, .string ⟨#[107]⟩, .int .i64 0, .int .i64 0] 27)) 0
  rw [World.size_alloc] at this
  exact this

theorem ok0 : opB 1 0 1 [0] 1 1 0 0 0 ⟨#[107]⟩ 0 0 = true := by decide
theorem take0 : tkO (encO 1 0 [0] 1 1 0 0 0 ⟨#[107]⟩ 0 0) = (⟨1, 0, [0], 1, 1, 0, 0, 0, ⟨#[107]⟩, 0, 0⟩, 1, (encO 1 0 [0] 1 1 0 0 0 ⟨#[107]⟩ 0 0).length, 0) := by
  have := tkO_enc (R := ⟨1, 0, [0], 1, 1, 0, 0, 0, ⟨#[107]⟩, 0, 0⟩) (q := 1) ok0 []
  rw [List.append_nil] at this
  exact this

set_option maxHeartbeats 4000000 in
set_option maxRecDepth 100000 in
theorem wakes_op (w : World) (ht : Pr.Tab w) : Calls Tryd.prog 9 #[] w (BoolPost w true) := by
  have HT := Lib.hid ht
  have HO := Lib.hid (mkO_any)
  have H1 := Lib.hid (fun a W hT hR => opBytes_yes 1 0 1 a [0] 1 1 1 1 0 0 0 ⟨#[107]⟩ 0 0 W hT hR rfl (by decide) ok0)
  have HTK := Lib.hid take0
  have HIB := Lib.hid (encO_isB 1 0 [0] 1 1 0 0 0 ⟨#[107]⟩ 0 0)
  have HLN := Lib.hid (encO_len ok0)
  have HN := Lib.hid (fun W => num15_any 0 W)
  clear ht
  generalize encO 1 0 [0] 1 1 0 0 0 ⟨#[107]⟩ 0 0 = bs at *
  go_enter Tryd.func9, Tryd.ntmps9
  go_wp2_with fail
  refine (HO.out _).mono ?_
  rintro e w1 ⟨a1, rfl, hr1, hb1⟩
  have HT1 := Lib.hid (HT.out.below hb1 HT.out.lt)
  have HR1 := Lib.hid hr1
  have HB1 := Lib.hid hb1
  clear hr1 hb1
  go_wp2_with fail
  refine (H1.out _ _ HT1.out HR1.out).mono ?_
  rintro e w2 ⟨v2, rfl, ho2, hb2⟩
  obtain ⟨a2, n2, c2, rfl, hn2, hr2, hc2⟩ := ho2.form'
  have HT2 := Lib.hid (HT1.out.below hb2 HT1.out.lt)
  have HB2 := Lib.hid (HB1.out.trans (hb2.mono HB1.out.size))
  have H2 := Lib.hid (opTake_any a2 bs n2 c2 w2 HT2.out hn2 hr2 HIB.out hc2 (by have := HLN.out; omega))
  rw [HTK.out, ← hn2] at H2
  clear ho2 hb2 hr2 hc2 hn2 H1
  go_wp2_with fail
  refine (H2.out).mono ?_
  rintro e w3 ⟨a3, n3, c3, rfl, ho3, hb3⟩
  have HB3 := Lib.hid (HB2.out.trans (hb3.mono HB2.out.size))
  obtain ⟨hr3, hn3, hc3⟩ := RowK.ofOwn ho3
  have HA3 := Lib.hid (OpAt.new w3 1 0 1 a3 [0] n3 c3 1 1 0 0 0 ⟨#[107]⟩ 0 0)
  have HR3 := Lib.hid (hr3.alloc (.cells #[.int .i64 1, .int .i64 0, .int .i64 1, .slice a3 n3 c3, .int .i64 1, .int .i64 1, .int .i64 0, .int .i64 0, .int .i64 0, .string ⟨#[107]⟩, .int .i64 0, .int .i64 0] 27))
  have HB4 := Lib.hid (HB3.out.trans ((box_bel w3 (.cells #[.int .i64 1, .int .i64 0, .int .i64 1, .slice a3 n3 c3, .int .i64 1, .int .i64 1, .int .i64 0, .int .i64 0, .int .i64 0, .string ⟨#[107]⟩, .int .i64 0, .int .i64 0] 27)).mono HB3.out.size))
  have HN3 := Lib.hid hn3
  clear ho3 hb3 hr3 hn3 hc3 H2
  go_wp2_with fail
  generalize w3.alloc (.cells #[.int .i64 1, .int .i64 0, .int .i64 1, .slice a3 n3 c3, .int .i64 1, .int .i64 1, .int .i64 0, .int .i64 0, .int .i64 0, .string ⟨#[107]⟩, .int .i64 0, .int .i64 0] 27) = WX at *
  generalize w3.heap.size = b at *
  have hS0 := heldO_mk (w0 := WX) (n := WX.heap.size) HA3.out.drew (Below.refl WX.heap.size WX).drew
  have HOX := Lib.hid (HO.out WX.drew)
  go_region_held3 (fun w' => w'.cell? ⟨b, 0, none⟩ = some (.int .i64 1) ∧ w'.cell? ⟨b, 0 + 1, none⟩ = some (.int .i64 0) ∧ w'.cell? ⟨b, 0 + 2, none⟩ = some (.int .i64 1) ∧ w'.cell? ⟨b, 0 + 3, none⟩ = some (.slice a3 n3 c3) ∧ w'.cell? ⟨b, 0 + 4, none⟩ = some (.int .i64 1) ∧ w'.cell? ⟨b, 0 + 5, none⟩ = some (.int .i64 1) ∧ w'.cell? ⟨b, 0 + 6, none⟩ = some (.int .i64 0) ∧ w'.cell? ⟨b, 0 + 7, none⟩ = some (.int .i64 0) ∧ w'.cell? ⟨b, 0 + 8, none⟩ = some (.int .i64 0) ∧ w'.cell? ⟨b, 0 + 9, none⟩ = some (.string ⟨#[107]⟩) ∧ w'.cell? ⟨b, 0 + 10, none⟩ = some (.int .i64 0) ∧ w'.cell? ⟨b, 0 + 11, none⟩ = some (.int .i64 0) ∧ Hid (Below WX.heap.size WX w')) (with_reducible assumption) (first
    | (go_at_call 6
       (with_reducible refine (HN.out _).mono ?_)
       rintro e w8 ⟨rfl, rfl⟩)
    | (go_at_call 5
       (with_reducible refine (HOX.out).mono ?_)
       rintro e w8 ⟨a8, rfl, hr8, hb8⟩
       have hS8 := heldO_mk (w0 := WX) (n := WX.heap.size) (HA3.out.drew.next hb8) ((Below.refl WX.heap.size WX).drew.trans hb8)
       have HR8 := Lib.hid hr8
       have HB8 := Lib.hid ((Below.refl WX.heap.size WX).drew.trans hb8)
       have HE := Lib.hid (eqOp_any 1 0 1 a3 [0] n3 c3 1 1 0 0 0 ⟨#[107]⟩ 0 0 0 0 ⟨#[107]⟩ 0 0 a8 1 1 w8 (HR3.out.below HB8.out (Nat.le_refl _)) HN3.out (by decide) HR8.out rfl)
       rw [eqOB_same] at HE
       clear hr8 hb8)
    | (go_at_call 20
       (with_reducible refine (HE.out).mono ?_)
       rintro e w9 ⟨rfl, hb9⟩
       have HB9 := Lib.hid (HB8.out.trans (hb9.mono HB8.out.size))
       have hS9 := heldO_mk (w0 := WX) (n := WX.heap.size) (HA3.out.next HB9.out) HB9.out
       clear hb9))
  go_wp2
  go_ret
  exact ⟨rfl, HB4.out.trans (HB9.out.mono HB4.out.size)⟩
end Go.Proofs.YtabbbpmhmlapgaaDoor
