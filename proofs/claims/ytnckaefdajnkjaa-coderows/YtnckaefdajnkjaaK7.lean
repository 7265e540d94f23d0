/- What CodeRows writes one behind the other: mathematics; the asks as functions. -/
import Derived.Test.YtnckaefdajnkjaaK5
namespace Go.Proofs.Ytnckaefdajnkjaa
open Go.RowKit Go.Lib
set_option linter.unusedVariables false

section
variable (fN : Nat → Int) (fs : Nat → ByteArray) (fl : Nat → List Int)
def P1 (k : Nat) : List Int := enc (modW (fN k)).toNat
def P2 (k : Nat) : List Int := enc (fs k).size ++ strN (fs k)
def P3 (k : Nat) : List Int := numsE (fl k)
def preF : Nat → List Int
  | 0 => []
  | k + 1 => preF k ++ (P1 fN k ++ (P2 fs k ++ P3 fl k))
def smallF (k : Nat) : Prop := (fs k).size ≤ 300 ∧ (fl k).length ≤ 50

theorem modW_in (z : Int) : 0 ≤ modW z ∧ modW z < 4611686018427387904 := by unfold modW; omega
theorem P1_len (k : Nat) : (P1 fN k).length ≤ 9 := enc_len9 (by have := modW_in (fN k); omega)
theorem P2_len (k : Nat) (h : (fs k).size ≤ 300) : (P2 fs k).length ≤ 309 := by
  have := enc_len9 (n := (fs k).size) (by omega)
  unfold P2
  rw [List.length_append, strN_len]
  omega
theorem P3_len (k : Nat) : (P3 fl k).length ≤ 9225 := numsE_len _
theorem preF_len (m : Nat) (h : ∀ k, k < m → smallF fs fl k) : (preF fN fs fl m).length ≤ 9600 * m := by
  induction m with
  | zero => simp [preF]
  | succ m ih =>
    have h1 := P1_len fN m
    have h2 := P2_len fs m (h m (by omega)).1
    have h3 := P3_len fl m
    have := ih fun k hk => h k (by omega)
    rw [preF, List.length_append, List.length_append, List.length_append]
    omega
theorem preF_isB (m : Nat) : IsB (preF fN fs fl m) := by
  induction m with
  | zero => exact IsB.nil
  | succ m ih => exact ih.app ((enc_isB _).app (((enc_isB _).app (strN_isB _)).app (numsE_isB _)))
theorem preF_split (m : Nat) : ∀ j, j < m → ∃ X, preF fN fs fl m = preF fN fs fl j ++ (P1 fN j ++ (P2 fs j ++ (P3 fl j ++ X))) := by
  induction m with
  | zero => intro j h; omega
  | succ m ih =>
    intro j h
    by_cases hj : j = m
    · subst hj
      exact ⟨[], by rw [preF, List.append_nil]⟩
    · obtain ⟨X, hX⟩ := ih j (by omega)
      exact ⟨X ++ (P1 fN m ++ (P2 fs m ++ P3 fl m)), by rw [preF, hX]; simp only [List.append_assoc]⟩
theorem preF_succ_len (j : Nat) : (preF fN fs fl (j + 1)).length = (preF fN fs fl j).length + (P1 fN j).length + (P2 fs j).length + (P3 fl j).length := by
  rw [preF, List.length_append, List.length_append, List.length_append]; omega
theorem rows_at {m j : Nat} (hj : j < m) : ∃ X, (preF fN fs fl m).drop (preF fN fs fl j).length = P1 fN j ++ (P2 fs j ++ (P3 fl j ++ X)) ∧ (preF fN fs fl m).drop ((preF fN fs fl j).length + (P1 fN j).length) = P2 fs j ++ (P3 fl j ++ X) ∧
    (preF fN fs fl m).drop ((preF fN fs fl j).length + (P1 fN j).length + (P2 fs j).length) = P3 fl j ++ X ∧ (preF fN fs fl (j + 1)).length ≤ (preF fN fs fl m).length := by
  obtain ⟨X, hX⟩ := preF_split fN fs fl m j hj
  have h1 : (preF fN fs fl m).drop (preF fN fs fl j).length = P1 fN j ++ (P2 fs j ++ (P3 fl j ++ X)) := by rw [hX, List.drop_left]
  have h2 : (preF fN fs fl m).drop ((preF fN fs fl j).length + (P1 fN j).length) = P2 fs j ++ (P3 fl j ++ X) := by rw [← List.drop_drop, h1, List.drop_left]
  have h3 : (preF fN fs fl m).drop ((preF fN fs fl j).length + (P1 fN j).length + (P2 fs j).length) = P3 fl j ++ X := by rw [← List.drop_drop, h2, List.drop_left]
  refine ⟨X, h1, h2, h3, ?_⟩
  rw [preF_succ_len, hX]
  simp only [List.length_append]
  omega
end

theorem tk_P1 (fN : Nat → Int) (j : Nat) (x : List Int) : tkN (P1 fN j ++ x) = (modW (fN j), (P1 fN j).length, 0) := by
  have h := modW_in (fN j)
  have := tkN_enc (n := (modW (fN j)).toNat) (by omega) x
  unfold P1
  rw [this, show (((modW (fN j)).toNat : Nat) : Int) = modW (fN j) by omega]
theorem tk_P2 (fs : Nat → ByteArray) (j : Nat) (h : (fs j).size ≤ 300) (x : List Int) : tkS (P2 fs j ++ x) = (fs j, (P2 fs j).length, 0) := tkS_enc (fs j) (by omega) x
theorem tk_P3 (fl : Nat → List Int) (j : Nat) (h : numsOK (fl j) = true) (x : List Int) : tkNs (P3 fl j ++ x) = (fl j, (P3 fl j).length, 0) := by
  have h2 := h
  unfold numsOK at h2
  simp only [Bool.and_eq_true, decide_eq_true_eq] at h2
  have h4 : P3 fl j = encL (fl j) := by unfold P3 numsE; rw [h]; rfl
  rw [h4]
  exact tkNs_enc (fl j) x (fun z hz => (List.all_eq_true.1 h2.1) z hz) h2.2

def AsksF (w : World) (a : Option Addr) (n : Nat) (fN : Nat → Int) (fs : Nat → ByteArray) (fl : Nat → List Int) : Prop :=
  ∀ i, i < n → ∃ b off al cl ax nx cx, a = some ⟨b, off, none⟩ ∧ AskAt w b (off + i * 4) (fN i) (fs i) al (fl i).length cl ax nx cx ∧ RowK .i64 w al (fl i)
theorem asks_fun {w : World} {a : Option Addr} {n : Nat} (h : AsksIs w a n) : ∃ fN fs fl, AsksF w a n fN fs fl := by
  have h1 : ∀ i, ∃ t : Int × ByteArray × List Int, i < n → ∃ b off al cl ax nx cx, a = some ⟨b, off, none⟩ ∧ AskAt w b (off + i * 4) t.1 t.2.1 al t.2.2.length cl ax nx cx ∧ RowK .i64 w al t.2.2 := by
    intro i
    by_cases hi : i < n
    · obtain ⟨b, off, N, s, al, ls, cl, ax, xs, cx, e, hk, hl, _⟩ := h i hi
      exact ⟨(N, s, ls), fun _ => ⟨b, off, al, cl, ax, _, cx, e, hk, hl⟩⟩
    · exact ⟨(0, ⟨#[]⟩, []), fun hi' => absurd hi' hi⟩
  refine ⟨fun i => (Classical.choose (h1 i)).1, fun i => (Classical.choose (h1 i)).2.1, fun i => (Classical.choose (h1 i)).2.2, fun i hi => ?_⟩
  exact Classical.choose_spec (h1 i) hi

theorem quiet_numbers (a : Option Addr) (l : List Int) (n cap : Nat) (w : World) (hn : n = l.length) (hr : RowK .i64 w a l) (hl : l.length ≤ 140737488355328) (m : Nat) :
    Calls Try.prog 15 #[.slice a n cap] (w.drewN m) fun e w'' => e = .returned (.bool (numsOK l)) ∧ ∃ m', w'' = w.drewN m' := by
  subst hn
  exact quiet_left (numbers_any a l cap (w.drewN m) hr hl)
theorem errC_eq (b : Bool) : (errC b == 0) = b := by cases b <;> rfl
end Go.Proofs.Ytnckaefdajnkjaa
