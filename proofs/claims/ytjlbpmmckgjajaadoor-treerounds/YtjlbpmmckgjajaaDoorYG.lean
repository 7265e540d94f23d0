/- Joined: G5 G6 G7 G9. -/
import Derived.Test.YtjlbpmmckgjajaaDoorZD
import Derived.Test.YtjlbpmmckgjajaaDoorZF
import Derived.Test.YtjlbpmmckgjajaaDoorZC
import Derived.Deep.AppendLies

/- Words for rows of operations and for frames; may a frame be: the program's. -/
namespace Go.Proofs.YtjlbpmmckgjajaaDoor
open Go.RowKit Go.Lib
set_option linter.unusedVariables false

abbrev OpD := OpR × Int
/-- an operation in memory -/
def OpIs (w : World) (b o : Nat) (x : OpD) : Prop :=
  ∃ da dc, OpAt w b o x.1.t x.1.r x.2 da x.1.ds.length dc x.1.k x.1.nt x.1.nr x.1.pt x.1.pr x.1.s x.1.p x.1.v ∧ RowK .i64 w da x.1.ds ∧ x.1.ds.length ≤ 17592186044416
theorem OpIs.below {w w' : World} {b o : Nat} {x : OpD} (h : OpIs w b o x) (hb : Below w.heap.size w w') : OpIs w' b o x := by
  obtain ⟨da, dc, h1, h2, h3⟩ := h
  exact ⟨da, dc, h1.next hb, h2.below hb (Nat.le_refl _), h3⟩
/-- a row of operations, in a world -/
def RowO (w : World) (a : Option Addr) (os : List OpD) : Prop := ∀ i x, os[i]? = some x → ∃ b off, a = some ⟨b, off, none⟩ ∧ OpIs w b (off + i * 12) x
theorem RowO.nil (w : World) (a : Option Addr) : RowO w a [] := fun i x h => by simp at h
theorem RowO.below {w w' : World} {a : Option Addr} {os : List OpD} (h : RowO w a os) (hb : Below w.heap.size w w') : RowO w' a os := fun i x hi => by
  obtain ⟨b, off, e, h1⟩ := h i x hi
  exact ⟨b, off, e, h1.below hb⟩
theorem RowO.alloc {w : World} {a : Option Addr} {os : List OpD} (h : RowO w a os) (o : Obj) : RowO (w.alloc o) a os := h.below (box_bel w o)
def OpD.ok (x : OpD) : Bool := x.1.ok x.2
/-- as many as one frame holds, and each may be -/
def batB (os : List OpD) : Bool := decide (1 ≤ os.length ∧ os.length ≤ 8) && os.all OpD.ok
def repB (z : Int) : Bool := decide (0 ≤ z ∧ z < 16)
def fkB (k : Int) (hs : List Int) (os : List OpD) : Bool := if k = 1 then Hv.vecB hs && decide (os.length = 0) else if k = 2 then batB os && decide (hs.length = 0) else false
/-- may a frame be? -/
def frB (fr tu k : Int) (hs : List Int) (os : List OpD) : Bool := repB fr && repB tu && decide (fr ≠ tu) && fkB k hs os

/-- a frame at a place -/
structure FrAt (w : World) (b o : Nat) (fr tu k : Int) (ha : Option Addr) (hn hc : Nat) (oa : Option Addr) (on oc : Nat) : Prop where
  c0 : w.cell? ⟨b, o, none⟩ = some (.int .i64 fr)
  c1 : w.cell? ⟨b, o + 1, none⟩ = some (.int .i64 tu)
  c2 : w.cell? ⟨b, o + 2, none⟩ = some (.int .i64 k)
  c3 : w.cell? ⟨b, o + 3, none⟩ = some (.slice ha hn hc)
  c4 : w.cell? ⟨b, o + 4, none⟩ = some (.slice oa on oc)
theorem FrAt.lt {w : World} {b o : Nat} {fr tu k : Int} {ha : Option Addr} {hn hc : Nat} {oa : Option Addr} {on oc : Nat} (h : FrAt w b o fr tu k ha hn hc oa on oc) : b < w.heap.size := World.block_lt_of_cell? _ _ h.c0
theorem FrAt.below {w w' : World} {b o B : Nat} {fr tu k : Int} {ha : Option Addr} {hn hc : Nat} {oa : Option Addr} {on oc : Nat} (h : FrAt w b o fr tu k ha hn hc oa on oc) (hb : Below B w w') (hB : b < B) : FrAt w' b o fr tu k ha hn hc oa on oc :=
  ⟨(hb.cell (p := ⟨b, o, none⟩) hB).trans h.c0, (hb.cell (p := ⟨b, o + 1, none⟩) hB).trans h.c1, (hb.cell (p := ⟨b, o + 2, none⟩) hB).trans h.c2, (hb.cell (p := ⟨b, o + 3, none⟩) hB).trans h.c3, (hb.cell (p := ⟨b, o + 4, none⟩) hB).trans h.c4⟩
theorem FrAt.next {w w' : World} {b o : Nat} {fr tu k : Int} {ha : Option Addr} {hn hc : Nat} {oa : Option Addr} {on oc : Nat} (h : FrAt w b o fr tu k ha hn hc oa on oc) (hb : Below w.heap.size w w') : FrAt w' b o fr tu k ha hn hc oa on oc := h.below hb h.lt
theorem FrAt.drew {w : World} {b o : Nat} {fr tu k : Int} {ha : Option Addr} {hn hc : Nat} {oa : Option Addr} {on oc : Nat} (h : FrAt w b o fr tu k ha hn hc oa on oc) : FrAt w.drew b o fr tu k ha hn hc oa on oc := ⟨h.c0, h.c1, h.c2, h.c3, h.c4⟩
/-- what a frame's rows are -/
structure FrR (w : World) (ha : Option Addr) (hs : List Int) (hn : Nat) (oa : Option Addr) (os : List OpD) (on : Nat) : Prop where
  rh : RowK .i64 w ha hs
  hl : hn = hs.length
  hm : hs.length ≤ 17592186044416
  ro : RowO w oa os
  ol : on = os.length
  om : os.length * 120 ≤ 140737488355328
theorem FrR.below {w w' : World} {ha : Option Addr} {hs : List Int} {hn : Nat} {oa : Option Addr} {os : List OpD} {on : Nat} (h : FrR w ha hs hn oa os on) (hb : Below w.heap.size w w') : FrR w' ha hs hn oa os on :=
  ⟨h.rh.below hb (Nat.le_refl _), h.hl, h.hm, h.ro.below hb, h.ol, h.om⟩

theorem batB_no {os : List OpD} {i : Nat} {x : OpD} (h : os[i]? = some x) (hx : x.ok = false) : batB os = false := by
  have hm := List.mem_of_getElem? h
  unfold batB
  rw [show os.all OpD.ok = false by rw [List.all_eq_false]; exact ⟨x, hm, by simp [hx]⟩]
  simp
theorem all_take {os : List OpD} {i : Nat} {x : OpD} (h : os[i]? = some x) (hx : x.ok = true) (ha : (os.take i).all OpD.ok = true) : (os.take (i + 1)).all OpD.ok = true := by
  rw [List.take_add_one, h, List.all_append, ha]
  simp [hx]

end Go.Proofs.YtjlbpmmckgjajaaDoor

/- May a frame be: the program's. -/
namespace Go.Proofs.YtjlbpmmckgjajaaDoor
open Go.RowKit Go.Lib
set_option linter.unusedVariables false


theorem haveCheck_is (a : Option Addr) (l : List Int) (n c : Nat) (w : World) (hr : RowK .i64 w a l) (hn : n = l.length) (hl : l.length ≤ 17592186044416) (b : Bool) (h : Hv.vecB l = b) : Calls Tryd.prog 85 #[.slice a n c] w fun e w' => e = .returned (.int .i64 (errC b)) ∧ w = w' := by
  subst h
  cases h : Hv.vecB l
  · exact Hv.check_no a l n c w hr hn (by omega) h
  · exact Hv.check_yes a l n c w hr hn (by omega) h
theorem frB_split {fr tu k : Int} {hs : List Int} {os : List OpD} {b1 b2 b3 b4 : Bool} (h1 : repB fr = b1) (h2 : repB tu = b2) (h3 : decide (fr ≠ tu) = b3) (h4 : fkB k hs os = b4) : frB fr tu k hs os = (b1 && b2 && b3 && b4) := by
  unfold frB
  rw [h1, h2, h3, h4]
end Go.Proofs.YtjlbpmmckgjajaaDoor

/- A frame's bytes: mathematics; the program's. -/
namespace Go.Proofs.YtjlbpmmckgjajaaDoor
open Go.RowKit Go.Lib
set_option linter.unusedVariables false


def encR (x : OpD) : List Int := encO x.1.t x.1.r x.1.ds x.1.k x.1.nt x.1.nr x.1.pt x.1.pr x.1.s x.1.p x.1.v
def encOs (os : List OpD) : List Int := os.flatMap encR
theorem encOs_take {os : List OpD} {i : Nat} {x : OpD} (h : os[i]? = some x) : encOs (os.take (i + 1)) = encOs (os.take i) ++ encR x := by
  unfold encOs
  rw [List.take_add_one, h, List.flatMap_append]
  simp
theorem encR_len {x : OpD} (h : x.ok = true) : (encR x).length ≤ 918 := encO_len (q := x.2) h
theorem encOs_len : ∀ {os : List OpD}, os.all OpD.ok = true → (encOs os).length ≤ 918 * os.length
  | [], _ => by simp [encOs]
  | x :: r, h => by
    rw [List.all_cons, Bool.and_eq_true] at h
    have h1 := encR_len h.1
    have h2 := encOs_len h.2
    unfold encOs at h2 ⊢
    rw [List.flatMap_cons, List.length_append, List.length_cons]
    omega
theorem encR_isB (x : OpD) : IsB (encR x) := encO_isB _ _ _ _ _ _ _ _ _ _ _
theorem encOs_isB (os : List OpD) : IsB (encOs os) := fun z hz => by
  unfold encOs at hz
  rw [List.mem_flatMap] at hz
  obtain ⟨x, _, hx⟩ := hz
  exact encR_isB x z hx
/-- the parts of a frame's body -/
def fprt (i : Nat) (fr tu k : Int) (hs : List Int) (os : List OpD) : List Int :=
  match i with
  | 0 => enc fr.toNat
  | 1 => enc tu.toNat
  | 2 => enc k.toNat
  | _ => if k = 1 then encL hs else enc os.length ++ encOs os
def fpre (n : Nat) (fr tu k : Int) (hs : List Int) (os : List OpD) : List Int := (List.range n).flatMap fun i => fprt i fr tu k hs os
theorem fpre_succ (n : Nat) (fr tu k : Int) (hs : List Int) (os : List OpD) : fpre (n + 1) fr tu k hs os = fpre n fr tu k hs os ++ fprt n fr tu k hs os := by simp [fpre, List.range_succ]
/-- a frame's body, its bytes -/
def encF (fr tu k : Int) (hs : List Int) (os : List OpD) : List Int := fpre 4 fr tu k hs os
def byF (fr tu k : Int) (hs : List Int) (os : List OpD) : List Int := be4 (crc (encF fr tu k hs os)) ++ encF fr tu k hs os
theorem frB_parts {fr tu k : Int} {hs : List Int} {os : List OpD} (h : frB fr tu k hs os = true) : repB fr = true ∧ repB tu = true ∧ fr ≠ tu ∧ fkB k hs os = true := by
  simp only [frB, Bool.and_eq_true, decide_eq_true_eq] at h
  exact ⟨h.1.1.1, h.1.1.2, h.1.2, h.2⟩
theorem repB_num {z : Int} (h : repB z = true) : 0 ≤ z ∧ z < 16 := of_decide_eq_true h
theorem fkB_parts {k : Int} {hs : List Int} {os : List OpD} (h : fkB k hs os = true) : (k = 1 ∧ Hv.vecB hs = true ∧ os = []) ∨ (k = 2 ∧ batB os = true ∧ hs = []) := by
  unfold fkB at h
  by_cases g1 : k = 1
  · rw [if_pos g1, Bool.and_eq_true, decide_eq_true_eq] at h
    exact .inl ⟨g1, h.1, List.eq_nil_of_length_eq_zero h.2⟩
  · rw [if_neg g1] at h
    by_cases g2 : k = 2
    · rw [if_pos g2, Bool.and_eq_true, decide_eq_true_eq] at h
      exact .inr ⟨g2, h.1, List.eq_nil_of_length_eq_zero h.2⟩
    · rw [if_neg g2] at h
      cases h
theorem batB_parts {os : List OpD} (h : batB os = true) : 1 ≤ os.length ∧ os.length ≤ 8 ∧ os.all OpD.ok = true := by
  simp only [batB, Bool.and_eq_true, decide_eq_true_eq] at h
  exact ⟨h.1.1, h.1.2, h.2⟩
theorem encL_len16 {l : List Int} (h : Hv.vecB l = true) : (encL l).length ≤ 153 := by
  have h1 := encs_len l (Hv.vec_num h)
  have h2 := Hv.vecB_len h
  have h3 := enc_len9 (n := l.length) (by omega)
  unfold encL
  rw [List.length_append]
  omega
theorem fprt_len {fr tu k : Int} {hs : List Int} {os : List OpD} (h : frB fr tu k hs os = true) (i : Nat) : (fprt i fr tu k hs os).length ≤ 7353 := by
  obtain ⟨h1, h2, h3, h4⟩ := frB_parts h
  have e1 := repB_num h1
  have e2 := repB_num h2
  have e3 : k = 1 ∨ k = 2 := by rcases fkB_parts h4 with h | h <;> omega
  unfold fprt
  split
  · have := enc_len9 (n := fr.toNat) (by omega); omega
  · have := enc_len9 (n := tu.toNat) (by omega); omega
  · have := enc_len9 (n := k.toNat) (by omega); omega
  · rcases fkB_parts h4 with ⟨rfl, g1, g2⟩ | ⟨rfl, g1, g2⟩
    · rw [if_pos rfl]
      have := encL_len16 g1
      omega
    · rw [if_neg (by decide), List.length_append]
      obtain ⟨b1, b2, b3⟩ := batB_parts g1
      have := enc_len9 (n := os.length) (by omega)
      have := encOs_len b3
      omega
theorem fpre_len {fr tu k : Int} {hs : List Int} {os : List OpD} (h : frB fr tu k hs os = true) : ∀ n : Nat, (fpre n fr tu k hs os).length ≤ 7353 * n
  | 0 => by simp [fpre]
  | n + 1 => by
    rw [fpre_succ, List.length_append]
    have h1 := fpre_len h n
    have h2 := fprt_len h n
    omega
theorem fprt_isB (i : Nat) (fr tu k : Int) (hs : List Int) (os : List OpD) : IsB (fprt i fr tu k hs os) := by
  unfold fprt
  split
  · exact enc_isB _
  · exact enc_isB _
  · exact enc_isB _
  · split
    · exact encL_isB _
    · exact (enc_isB _).app (encOs_isB _)
theorem fpre_isB (fr tu k : Int) (hs : List Int) (os : List OpD) : ∀ n : Nat, IsB (fpre n fr tu k hs os)
  | 0 => IsB.nil
  | n + 1 => by rw [fpre_succ]; exact (fpre_isB fr tu k hs os n).app (fprt_isB _ _ _ _ _ _)
theorem encF_isB (fr tu k : Int) (hs : List Int) (os : List OpD) : IsB (encF fr tu k hs os) := fpre_isB fr tu k hs os 4
theorem byF_isB (fr tu k : Int) (hs : List Int) (os : List OpD) : IsB (byF fr tu k hs os) := (be4_isB (crc_lt (encF_isB _ _ _ _ _))).app (encF_isB _ _ _ _ _)
theorem byF_len {fr tu k : Int} {hs : List Int} {os : List OpD} (h : frB fr tu k hs os = true) : (byF fr tu k hs os).length ≤ 29416 := by
  have := fpre_len h 4
  unfold byF encF
  rw [List.length_append, be4_len]
  omega

end Go.Proofs.YtjlbpmmckgjajaaDoor

/- Rows of operations that the call owns: one more behind them; what they read as. -/
namespace Go.Proofs.YtjlbpmmckgjajaaDoor
open Go.RowKit Go.Lib
set_option linter.unusedVariables false


def cellsO : List OpD → List Value → List Value
  | x :: r, d :: s => x.1.cells x.2 d ++ cellsO r s
  | _, _ => []
theorem cellsO_app : ∀ {os : List OpD} {dl : List Value} (x : OpD) (d : Value), dl.length = os.length → cellsO (os ++ [x]) (dl ++ [d]) = cellsO os dl ++ x.1.cells x.2 d
  | [], [], x, d, _ => by simp [cellsO]
  | _ :: _, [], _, _, h => by simp at h
  | [], _ :: _, _, _, h => by simp at h
  | y :: r, e :: s, x, d, h => by
    rw [List.cons_append, List.cons_append, cellsO, cellsO, cellsO_app x d (by simpa using h), List.append_assoc]
theorem cells12 (x : OpD) (d : Value) : (x.1.cells x.2 d).length = 12 := rfl
theorem cellsO_len : ∀ {os : List OpD} {dl : List Value}, dl.length = os.length → (cellsO os dl).length = os.length * 12
  | [], [], _ => by simp [cellsO]
  | _ :: _, [], h => by simp at h
  | [], _ :: _, h => by simp at h
  | y :: r, e :: s, h => by
    rw [cellsO, List.length_append, cells12, cellsO_len (by simpa using h), List.length_cons]
    omega
theorem cellsO_at : ∀ {os : List OpD} {dl : List Value} (i : Nat) {x : OpD} {d : Value}, os[i]? = some x → dl[i]? = some d → ∀ j u, (x.1.cells x.2 d)[j]? = some u → (cellsO os dl)[i * 12 + j]? = some u
  | [], _, _, _, _, h, _, _, _, _ => by simp at h
  | _ :: _, [], _, _, _, _, h, _, _, _ => by simp at h
  | y :: r, e :: s, 0, x, d, hx, hd, j, u, hu => by
    simp only [List.getElem?_cons_zero, Option.some.injEq] at hx hd
    subst hx; subst hd
    have hj : j < 12 := by have := (List.getElem?_eq_some_iff.1 hu).1; rwa [cells12] at this
    rw [cellsO, Nat.zero_mul, Nat.zero_add, List.getElem?_append_left (by rw [cells12]; exact hj)]
    exact hu
  | y :: r, e :: s, i + 1, x, d, hx, hd, j, u, hu => by
    rw [List.getElem?_cons_succ] at hx hd
    rw [cellsO, List.getElem?_append_right (by rw [cells12]; omega), cells12, show (i + 1) * 12 + j - 12 = i * 12 + j by omega]
    exact cellsO_at i hx hd j u hu

/-- a row of operations that the call owns, with what holds their Deps -/
structure OwnO (w : World) (base : Nat) (v : Value) (os : List OpD) (dl : List Value) : Prop where
  len : dl.length = os.length
  own : w.ownsRow base 39 12 v os.length (cellsO os dl)
theorem OwnO.nil (w : World) (base : Nat) : OwnO w base (.slice none 0 0) [] [] := ⟨rfl, World.ownsRow_nil w base 39 12⟩
theorem OwnO.grown {w w' : World} {base : Nat} {v : Value} {os : List OpD} {dl : List Value} {row : Option Nat} (h : OwnO w base v os dl) (hg : w.grownBy w' row) (hne : v.ownBlock = none ∨ v.ownBlock ≠ row) : OwnO w' base v os dl := ⟨h.len, World.ownsRow.kept h.own hg hne⟩
theorem OwnO.below {w w' : World} {base : Nat} {v : Value} {os : List OpD} {dl : List Value} (h : OwnO w base v os dl) (hb : Below w.heap.size w w') : OwnO w' base v os dl := h.grown (row := none) ⟨hb.os, hb.tape, hb.output, hb.size, fun k hk _ => hb.block k hk⟩ (by cases h : v.ownBlock <;> simp)
theorem OwnO.mono {w : World} {base base' : Nat} {v : Value} {os : List OpD} {dl : List Value} (h : OwnO w base v os dl) (hb : base' ≤ base) : OwnO w base' v os dl := by
  refine ⟨h.len, h.own.1, ?_⟩
  rcases h.own.2 with hn | ⟨g, cap, cur, e, h1, h2⟩
  · exact .inl hn
  · exact .inr ⟨g, cap, cur, e, by omega, h2⟩
theorem OwnO.lt {w : World} {base : Nat} {v : Value} {os : List OpD} {dl : List Value} (h : OwnO w base v os dl) {g : Nat} (hg : v.ownBlock = some g) : base ≤ g ∧ g < w.heap.size := World.ownsRow.lt h.own g hg
theorem OwnO.form {w : World} {base : Nat} {v : Value} {os : List OpD} {dl : List Value} (h : OwnO w base v os dl) : ∃ a n cap, v = .slice a n cap ∧ n = os.length ∧ n ≤ cap ∧ ∀ i x d, os[i]? = some x → dl[i]? = some d → ∃ g, a = some ⟨g, 0, none⟩ ∧ base ≤ g ∧ ∀ j u, (x.1.cells x.2 d)[j]? = some u → w.cell? ⟨g, i * 12 + j, none⟩ = some u := by
  rcases h.own.2 with ⟨rfl, h0⟩ | ⟨g, cap, cur, rfl, hg, hh, hn, hm, hs, ht⟩
  · exact ⟨none, 0, 0, rfl, h0.symm, Nat.le_refl _, fun i x d hi _ => by rw [List.eq_nil_of_length_eq_zero h0] at hi; simp at hi⟩
  · refine ⟨_, _, cap, rfl, rfl, hn, fun i x d hi hd => ⟨g, rfl, hg, fun j u hu => ?_⟩⟩
    have hc := World.ownsRow.cells h.own (g := g) rfl (i * 12 + j) u (cellsO_at i hi hd j u hu)
    rw [addr_add, Nat.zero_add] at hc
    exact hc
/-- what the Deps read as -/
def DepsR (w : World) (os : List OpD) (dl : List Value) : Prop := ∀ (i : Nat) (x : OpD) (d : Value), os[i]? = some x → dl[i]? = some d → ∃ (da : Option Addr) (dc : Nat), d = .slice da x.1.ds.length dc ∧ RowK .i64 w da x.1.ds ∧ x.1.ds.length ≤ 17592186044416
theorem OwnO.row {w : World} {base : Nat} {v : Value} {os : List OpD} {dl : List Value} (h : OwnO w base v os dl) (hd : DepsR w os dl) : ∃ a n cap, v = .slice a n cap ∧ n = os.length ∧ n ≤ cap ∧ RowO w a os := by
  obtain ⟨a, n, cap, e1, e2, e3, hc⟩ := h.form
  refine ⟨a, n, cap, e1, e2, e3, fun i x hi => ?_⟩
  have hi' := (List.getElem?_eq_some_iff.1 hi).1
  obtain ⟨d, hdd⟩ : ∃ d, dl[i]? = some d := ⟨_, List.getElem?_eq_getElem (by rw [h.len]; exact hi')⟩
  obtain ⟨g, rfl, _, hcell⟩ := hc i x d hi hdd
  obtain ⟨da, dc, rfl, hr, hl⟩ := hd i x d hi hdd
  refine ⟨g, 0, rfl, da, dc, ?_, hr, hl⟩
  rw [Nat.zero_add]
  exact ⟨hcell 0 _ rfl, hcell 1 _ rfl, hcell 2 _ rfl, hcell 3 _ rfl, hcell 4 _ rfl, hcell 5 _ rfl, hcell 6 _ rfl, hcell 7 _ rfl, hcell 8 _ rfl, hcell 9 _ rfl, hcell 10 _ rfl, hcell 11 _ rfl⟩
/-- the Deps are the call's own, each in a row of its own -/
structure DepsO (w : World) (base : Nat) (os : List OpD) (dl : List Value) : Prop where
  own : ∀ (i : Nat) (x : OpD) (d : Value), os[i]? = some x → dl[i]? = some d → OwnK .i64 3 w base d x.1.ds ∧ x.1.ds.length ≤ 17592186044416
  apart : dl.Pairwise fun d d' => d.ownBlock = none ∨ d.ownBlock ≠ d'.ownBlock
theorem DepsO.nil (w : World) (base : Nat) : DepsO w base [] [] := ⟨fun i x d h => by simp at h, List.Pairwise.nil⟩
theorem DepsO.read {w : World} {base : Nat} {os : List OpD} {dl : List Value} (h : DepsO w base os dl) : DepsR w os dl := fun i x d hi hd => by
  obtain ⟨h1, h2⟩ := h.own i x d hi hd
  obtain ⟨a, c, e, hr, _⟩ := h1.form
  exact ⟨a, c, e, hr, h2⟩
theorem DepsO.mono {w : World} {base base' : Nat} {os : List OpD} {dl : List Value} (h : DepsO w base os dl) (hb : base' ≤ base) : DepsO w base' os dl := ⟨fun i x d hi hd => ⟨(h.own i x d hi hd).1.mono hb, (h.own i x d hi hd).2⟩, h.apart⟩
theorem DepsO.below {w w' : World} {base : Nat} {os : List OpD} {dl : List Value} (h : DepsO w base os dl) (hb : Below w.heap.size w w') : DepsO w' base os dl := ⟨fun i x d hi hd => ⟨(h.own i x d hi hd).1.below hb, (h.own i x d hi hd).2⟩, h.apart⟩
/-- a row of numbers and a row of operations do not lie in one block -/
theorem apart_types {w : World} {b b' : Nat} {d v : Value} {zs : List Int} {os : List OpD} {dl : List Value} (h : OwnK .i64 3 w b d zs) (k : OwnO w b' v os dl) : d.ownBlock = none ∨ d.ownBlock ≠ v.ownBlock := by
  rcases h.2 with ⟨rfl, _⟩ | ⟨g, cap, cur, rfl, _, hh, _⟩
  · exact .inl rfl
  · right
    rcases k.own.2 with ⟨rfl, _⟩ | ⟨g', cap', cur', rfl, _, hh', _⟩
    · simp [Value.ownBlock]
    · intro e
      simp only [Value.ownBlock, Option.some.injEq] at e
      subst e
      rw [hh] at hh'
      injection hh' with hh'
      injection hh' with _ h2
      exact absurd h2 (by decide)
theorem DepsO.grown {w w' : World} {base b' : Nat} {os os' : List OpD} {dl dl' : List Value} {v : Value} (h : DepsO w base os dl) (k : OwnO w b' v os' dl') (hg : w.grownBy w' v.ownBlock) : DepsO w' base os dl :=
  ⟨fun i x d hi hd => ⟨(h.own i x d hi hd).1.grown hg (apart_types (h.own i x d hi hd).1 k), (h.own i x d hi hd).2⟩, h.apart⟩
theorem DepsO.push {w0 w : World} {base : Nat} {os : List OpD} {dl : List Value} {x : OpD} {d : Value} (h0 : DepsO w0 base os dl) (hlen : dl.length = os.length) (h : DepsO w base os dl) (hx : OwnK .i64 3 w base d x.1.ds) (hl : x.1.ds.length ≤ 17592186044416) (hnew : ∀ g, d.ownBlock = some g → w0.heap.size ≤ g) : DepsO w base (os ++ [x]) (dl ++ [d]) := by
  constructor
  · intro i y e hi he
    by_cases hlt : i < os.length
    · rw [List.getElem?_append_left hlt] at hi
      rw [List.getElem?_append_left (by omega)] at he
      exact h.own i y e hi he
    · rw [List.getElem?_append_right (by omega)] at hi
      rw [List.getElem?_append_right (by omega)] at he
      rw [hlen] at he
      by_cases h0 : i - os.length = 0
      · rw [h0] at hi he
        simp only [List.getElem?_cons_zero, Option.some.injEq] at hi he
        subst hi; subst he
        exact ⟨hx, hl⟩
      · rw [List.getElem?_eq_none (by simp; omega)] at hi
        cases hi
  · rw [List.pairwise_append]
    refine ⟨h.apart, List.pairwise_singleton _ _, fun a ha b hb => ?_⟩
    simp only [List.mem_singleton] at hb
    subst hb
    obtain ⟨i, hi⟩ := List.getElem?_of_mem ha
    have hi' := (List.getElem?_eq_some_iff.1 hi).1
    obtain ⟨y, hy⟩ : ∃ y, os[i]? = some y := ⟨_, List.getElem?_eq_getElem (by omega)⟩
    cases hab : a.ownBlock with
    | none => exact .inl rfl
    | some g =>
      right
      have hlt := ((h0.own i y a hy hi).1.lt hab).2
      intro e
      have := hnew g e.symm
      omega

theorem Tryd.info39 : (Tryd.prog.info? 39).map (fun i => (i.zero, i.size, i.bytes)) = some (some (.agg #[.int .i64 0, .int .i64 0, .int .i64 0, .slice none 0 0, .int .i64 0, .int .i64 0, .int .i64 0, .int .i64 0, .int .i64 0, .string ⟨#[]⟩, .int .i64 0, .int .i64 0]), 12, 120) := by kernel_rfl
/-- one more -/
structure GrewO (base : Nat) (W : World) (v : Value) (os : List OpD) (dl : List Value) (y : OpD) (d : Value) (v' : Value) (w' : World) : Prop where
  own : OwnO w' base v' (os ++ [y]) (dl ++ [d])
  gr : W.grownBy w' v.ownBlock
  old : OwnO W base v os dl
theorem GrewO.bel {base : Nat} {W w' : World} {v v' d : Value} {os : List OpD} {dl : List Value} {y : OpD} (h : GrewO base W v os dl y d v' w') {B : Nat} {a : World} (hb : Below B a W) (h1 : B ≤ base) (h2 : B ≤ W.heap.size) : Below B a w' := by
  refine hb.trans ⟨h.gr.os, h.gr.tape, h.gr.output, h.gr.size, fun k hk => h.gr.block k (by omega) fun e => ?_⟩
  have := (h.old.lt e.symm).1
  omega
theorem GrewO.deps {base b' : Nat} {W w' : World} {v v' d : Value} {os : List OpD} {dl : List Value} {y : OpD} (h : GrewO base W v os dl y d v' w') {os' : List OpD} {dl' : List Value} (hd : DepsO W b' os' dl') : DepsO w' b' os' dl' := hd.grown h.old h.gr
theorem GrewO.row {base b' : Nat} {W w' : World} {v v' d : Value} {os : List OpD} {dl : List Value} {y : OpD} (h : GrewO base W v os dl y d v' w') {e : Value} {zs : List Int} (hd : OwnK .i64 3 W b' e zs) : OwnK .i64 3 w' b' e zs := hd.grown h.gr (apart_types hd h.old)
theorem run_one (base : Nat) (W : World) (v : Value) (os : List OpD) (dl : List Value) (t r q : Int) (da : Option Addr) (ds : List Int) (dn dc : Nat) (kd nt nr pt pr : Int) (s : ByteArray) (p vv : Int) (ty : TypeId) (hown : OwnO W base v os dl) (hlen : (os.length + 1) * 120 ≤ 140737488355328) (hbase : base ≤ W.heap.size) :
    ∃ v' w', (Builtin.append_ #[26, 26] ty #[v, .slice (some ⟨W.heap.size, 0, none⟩) 1 1]).run Tryd.prog (W.alloc (.cells #[.int .i64 t, .int .i64 r, .int .i64 q, .slice da dn dc, .int .i64 kd, .int .i64 nt, .int .i64 nr, .int .i64 pt, .int .i64 pr, .string s, .int .i64 p, .int .i64 vv] 39)) = .ok v' w' ∧
      GrewO base W v os dl (⟨t, r, ds, kd, nt, nr, pt, pr, s, p, vv⟩, q) (.slice da dn dc) v' w' := by
  obtain ⟨i0, hi, hz0, hz1, hz2⟩ := info_parts Tryd.info39
  obtain ⟨v', w', hr, h2, h3, h4, h5⟩ := run_append_own_at (P := Tryd.prog) (W.alloc (.cells #[.int .i64 t, .int .i64 r, .int .i64 q, .slice da dn dc, .int .i64 kd, .int .i64 nt, .int .i64 nr, .int .i64 pt, .int .i64 pr, .string s, .int .i64 p, .int .i64 vv] 39)) base 26 ty 39 i0 _ 12 120 Tryd.underlying26 hi hz0 hz1 hz2 rfl (by decide) v os.length (cellsO os dl) (hown.own.alloc _) ⟨W.heap.size, 0, none⟩ 1 1
    ((⟨t, r, ds, kd, nt, nr, pt, pr, s, p, vv⟩ : OpR).cells q (.slice da dn dc)) (by rfl)
    (by
      intro j u hu
      rw [addr_add, Nat.zero_add]
      have hj := (List.getElem?_eq_some_iff.1 hu).1
      match j, hu with
      | 0, hu | 1, hu | 2, hu | 3, hu | 4, hu | 5, hu | 6, hu | 7, hu | 8, hu | 9, hu | 10, hu | 11, hu => simp only [OpR.cells, List.getElem?_cons_zero, List.getElem?_cons_succ, Option.some.injEq] at hu; subst hu; simp
      | j + 12, hu => simp [OpR.cells] at hu)
    (by intro u hu; simp only [OpR.cells, List.mem_cons, List.not_mem_nil, or_false] at hu; rcases hu with rfl | rfl | rfl | rfl | rfl | rfl | rfl | rfl | rfl | rfl | rfl | rfl <;> rfl)
    (by unfold maxLen; omega) hlen (by rw [World.size_alloc]; omega)
  refine ⟨v', w', hr, ⟨⟨by simp [hown.len], ?_⟩, ?_, hown⟩⟩
  · rw [cellsO_app _ _ hown.len, List.length_append, List.length_singleton]
    exact h2
  · exact (World.grownBy_alloc W _ _).trans h3

set_option maxHeartbeats 400000 in
theorem wpO_one {ops : Array Oper} {rest : List Oper} {o : Oper} {a : Act} {Q : Exit → Act → World → Prop} (hgd : o.guard = none) (s0 x0 : Operand)
    (ho : o.op = .call { callee := .builtin .append, args := #[s0, x0], argTypes := #[26, 26] }) (base : Nat) (W : World) (v : Value) (os : List OpD) (dl : List Value) (t r q : Int) (da : Option Addr) (ds : List Int) (dn dc : Nat) (kd nt nr pt pr : Int) (s : ByteArray) (p vv : Int) (hs : a.eval s0 = v) (hown : OwnO W base v os dl)
    (H : Nat) (hx : a.eval x0 = .slice (some ⟨H, 0, none⟩) 1 1) (hH : W.heap.size = H) (hlen : (os.length + 1) * 120 ≤ 140737488355328) (hbase : base ≤ W.heap.size)
    (h : ∀ v' w', GrewO base W v os dl (⟨t, r, ds, kd, nt, nr, pt, pr, s, p, vv⟩, q) (.slice da dn dc) v' w' → wpList Tryd.prog ops Q rest (a.put o.dst v') w') : wpList Tryd.prog ops Q (o :: rest) a (W.alloc (.cells #[.int .i64 t, .int .i64 r, .int .i64 q, .slice da dn dc, .int .i64 kd, .int .i64 nt, .int .i64 nr, .int .i64 pt, .int .i64 pr, .string s, .int .i64 p, .int .i64 vv] 39)) := by
  subst hH
  refine wpList_plain hgd fun K hK => ?_
  obtain ⟨v', w', hr, hG⟩ := run_one base W v os dl t r q da ds dn dc kd nt nr pt pr s p vv o.type hown hlen hbase
  unfold Oper.wp execOp
  simp only [ho, resolve, invoke, builtin, Sem.run_bind, Sem.run_pure, Result.andThen_ok, List.map_toArray, List.map_cons, List.map_nil, hs, hx, hr]
  exact hK _ _ (h v' w' hG)
end Go.Proofs.YtjlbpmmckgjajaaDoor
