/- encoded: the bytes of numbers, one behind another. -/
import Derived.Test.YtabbbpmhmlapgaaDoorB1
namespace Go.Proofs.YtabbbpmhmlapgaaDoor.St
open Go.RowKit Go.Lib
set_option linter.unusedVariables false

def EncI (l : List Int) (w w' : World) (a : Option Addr) (c : Nat) (v : Value) (done rest : List Int) : Prop :=
  done ++ rest = l ∧ RowK .i64 w a rest ∧ rest.length ≤ c ∧ OwnK .u8 5 w' w.heap.size v (encs done) ∧ Below w.heap.size w w'
def EncJ (l : List Int) (w : World) (act : Act) (w' : World) : Prop :=
  ∃ (a : Option Addr) (n c : Nat) (v : Value) (done rest : List Int) (u1 u2 u3 u5 u6 u7 u8 u9 u10 u11 u12 u13 u14 u15 u16 u17 u18 u19 u20 u21 u22 u23 u24 u25 : Value), act = { tmps := #[.slice a n c, u1, u2, u3, v, u5, u6, u7, u8, u9, u10, u11, u12, u13, u14, u15, u16, u17, u18, u19, u20, u21, u22, u23, u24, u25], defers := [] } ∧ n = rest.length ∧ EncI l w w' a c v done rest
def lenOfS : Value → Nat
  | .slice _ n _ => n
  | _ => 0
theorem enc_end {l : List Int} {w w' : World} {a : Option Addr} {c : Nat} {v : Value} {done : List Int} (h : EncI l w w' a c v done []) : BytesPost w (encs l) (.returned (.tuple #[v, .int .i64 0])) w' := by
  obtain ⟨h1, h2, h3, h4, h5⟩ := h
  rw [List.append_nil] at h1
  subst h1
  exact ⟨v, rfl, h4, h5⟩
theorem enc_next {l : List Int} {w w0 w1 w2 : World} {a : Option Addr} {c : Nat} {v v2 : Value} {z : Int} {done rest : List Int} (h : EncI l w w0 a c v done (z :: rest)) (hb1 : Below w0.heap.size w0 w1) (hg : Grew .u8 5 w.heap.size w1 v (encs done) (enc z.toNat) v2 w2) : EncI l w w2 (partA a 1 c) (c - 1) v2 (done ++ [z]) rest := by
  obtain ⟨h1, h2, h3, h4, h5⟩ := h
  have hs := h5.size
  have hs1 := hb1.size
  have hb : Below w.heap.size w w1 := h5.trans (hb1.mono hs)
  refine ⟨by rw [List.append_assoc]; exact h1, h2.rest 1 c h3, by simp at h3; omega, ?_, hg.bel _ _ hb (Nat.le_refl _) (by omega)⟩
  rw [encs_snoc]
  exact hg.own
theorem enc_bound {l done rest : List Int} {z : Int} (h : done ++ z :: rest = l) (hn : ∀ x ∈ l, numB x = true) (hl : l.length ≤ 1000) : (encs done).length + (enc z.toNat).length ≤ 140737488355328 := by
  have h1 := encs_len l hn
  have h2 : (encs l).length = (encs done).length + (enc z.toNat).length + (encs rest).length := by
    rw [← h]
    simp [encs]
    omega
  omega
theorem num_z (z : Int) (w : World) (h : numB z = true) : Calls Tryd.prog 36 #[.int .i64 z] w (BytesPost w (enc z.toNat)) := by
  have h2 := h
  simp only [numB, decide_eq_true_eq] at h2
  have := num_yes z.toNat w (by omega)
  rw [show ((z.toNat : Nat) : Int) = z by omega] at this
  exact this

set_option maxHeartbeats 2000000 in
set_option maxRecDepth 100000 in
theorem encoded_any (a : Option Addr) (l : List Int) (n c : Nat) (w : World) (hn : n = l.length) (hr : RowK .i64 w a l) (hc : l.length ≤ c) (hm : ∀ z ∈ l, numB z = true) (hl : l.length ≤ 1000) :
    Calls Tryd.prog 57 #[.slice a n c] w (BytesPost w (encs l)) := by
  obtain ⟨v, hv⟩ : ∃ v, v = Value.slice none 0 0 := ⟨_, rfl⟩
  obtain ⟨done, hdone⟩ : ∃ d : List Int, d = [] := ⟨_, rfl⟩
  obtain ⟨rest, hrest⟩ : ∃ r : List Int, r = l := ⟨_, rfl⟩
  have HI : Hid (EncI l w w a c v done rest) := by
    subst hv hdone hrest
    exact ⟨rfl, hr, hc, OwnK.nil _ _ _ _, Below.refl _ _⟩
  have HN : Hid (n = rest.length) := by rw [hrest]; exact hn
  have HM := Lib.hid hm
  have HL := Lib.hid hl
  clear hm hl hn hr hc hdone hrest
  go_enter Tryd.func57, Tryd.ntmps57
  go_wp2
  refine wp_scope_jumps 0 (EncJ l w) (fun a' _ => lenOfS (a'.tmps.getD 0 undef)) rfl ?_ ?_
  · rw [← hv]
    clear hv
    cases rest with
    | nil =>
      have HE := Lib.hid (enc_end HI.out)
      have hn0 : ((n : Nat) : Int) = 0 := by rw [HN.out]; rfl
      have hn1 : n = 0 := HN.out
      subst hn1
      clear HN HI hn0
      go_wp2_with fail
      go_step3
      go_wp2
      simp only [Exit.jump]
      go_ret2
      exact HE.out
    | cons z rest =>
      have hnr : n = rest.length + 1 := HN.out
      have hn1 : 1 ≤ n := by omega
      have hnz : ¬ ((n : Nat) : Int) = 0 := by omega
      have hnp : (0 : Int) < (n : Int) := by omega
      have HNR := Lib.hid hnr
      clear hnr HN
      have HZ := Lib.hid (HM.out z (by rw [← HI.out.1]; simp))
      obtain ⟨b, off, rfl, hc0⟩ := HI.out.2.1 0 (by simp)
      have hc : w.cell? ⟨b, off, none⟩ = some (.int .i64 z) := by
        have hlt := World.block_lt_of_cell? _ _ hc0
        exact (HI.out.2.2.2.2.cell (p := ⟨b, off, none⟩) hlt).trans hc0
      clear hc0
      have HC := Lib.hid (num_z z w HZ.out)
      have HBD := Lib.hid (enc_bound HI.out.1 HM.out HL.out)
      have hsl := fun W => sliceI_1 W (some ⟨b, off, none⟩) n c hn1
      have hsz := HI.out.2.2.2.2.size
      go_wp2_with fail
      go_step3
      go_wp2_with fail
      refine (HC.out).mono ?_
      rintro e w1 ⟨v5, rfl, ho5, hb5⟩
      have HO1 : Hid (OwnK .u8 5 w1 w.heap.size v (encs done)) := HI.out.2.2.2.1.below hb5
      have HB5 := Lib.hid hb5
      have hs5 := hb5.size
      obtain ⟨a5, n5, c5, rfl, hn5, hr5, hc5⟩ := ho5.form'
      have HN5 := Lib.hid hn5
      have HR5 := Lib.hid hr5
      clear ho5 hb5 hn5 hr5 hc hc5
      go_wp2_with (at_builtin
                   refine wpB_row rfl _ _ rfl w.heap.size w1 v (encs done) (enc z.toNat) a5 n5 c5 HN5.out rfl HO1.out rfl HR5.out HBD.out (by omega) ?_
                   intro v6 w6 hp6
                   have HQ := Lib.hid (enc_next HI.out HB5.out hp6)
                   clear hp6)
      go_step3
      exact ⟨rfl, _, n - 1, c - 1, v6, done ++ [z], rest, _, _, _, _, _, _, _, _, _, _, _, _, _, _, _, _, _, _, _, _, _, _, _, _, rfl, by have := HNR.out; omega, HQ.out⟩
  · rintro a' w' ⟨a, n, c, v, done, rest, u1, u2, u3, u5, u6, u7, u8, u9, u10, u11, u12, u13, u14, u15, u16, u17, u18, u19, u20, u21, u22, u23, u24, u25, rfl, hn, hI⟩
    have HI := Lib.hid hI
    have HN := Lib.hid hn
    clear hI hn
    cases rest with
    | nil =>
      have HE := Lib.hid (enc_end HI.out)
      have hn0 : ((n : Nat) : Int) = 0 := by rw [HN.out]; rfl
      have hn1 : n = 0 := HN.out
      subst hn1
      clear HN HI hn0
      go_wp2
      simp only [Exit.jump]
      go_ret2
      exact HE.out
    | cons z rest =>
      have hnr : n = rest.length + 1 := HN.out
      have hn1 : 1 ≤ n := by omega
      have hnz : ¬ ((n : Nat) : Int) = 0 := by omega
      have hnp : (0 : Int) < (n : Int) := by omega
      have HNR := Lib.hid hnr
      clear hnr HN
      have HZ := Lib.hid (HM.out z (by rw [← HI.out.1]; simp))
      obtain ⟨b, off, rfl, hc0⟩ := HI.out.2.1 0 (by simp)
      have hc : w'.cell? ⟨b, off, none⟩ = some (.int .i64 z) := by
        have hlt := World.block_lt_of_cell? _ _ hc0
        exact (HI.out.2.2.2.2.cell (p := ⟨b, off, none⟩) hlt).trans hc0
      clear hc0
      have HC := Lib.hid (num_z z w' HZ.out)
      have HBD := Lib.hid (enc_bound HI.out.1 HM.out HL.out)
      have hsl := fun W => sliceI_1 W (some ⟨b, off, none⟩) n c hn1
      have hsz := HI.out.2.2.2.2.size
      go_wp2_with fail
      refine (HC.out).mono ?_
      rintro e w1 ⟨v5, rfl, ho5, hb5⟩
      have HO1 : Hid (OwnK .u8 5 w1 w.heap.size v (encs done)) := HI.out.2.2.2.1.below hb5
      have HB5 := Lib.hid hb5
      have hs5 := hb5.size
      obtain ⟨a5, n5, c5, rfl, hn5, hr5, hc5⟩ := ho5.form'
      have HN5 := Lib.hid hn5
      have HR5 := Lib.hid hr5
      clear ho5 hb5 hn5 hr5 hc hc5
      go_wp2_with (at_builtin
                   refine wpB_row rfl _ _ rfl w.heap.size w1 v (encs done) (enc z.toNat) a5 n5 c5 HN5.out rfl HO1.out rfl HR5.out HBD.out (by omega) ?_
                   intro v6 w6 hp6
                   have HQ := Lib.hid (enc_next HI.out HB5.out hp6)
                   clear hp6)
      go_step3
      refine ⟨rfl, ⟨_, n - 1, c - 1, v6, done ++ [z], rest, _, _, _, _, _, _, _, _, _, _, _, _, _, _, _, _, _, _, _, _, _, _, _, _, rfl, by have := HNR.out; omega, HQ.out⟩, ?_⟩
      simp [lenOfS]
      omega
end Go.Proofs.YtabbbpmhmlapgaaDoor.St
