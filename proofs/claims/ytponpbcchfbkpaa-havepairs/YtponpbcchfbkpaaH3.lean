/- The sum of a row: goto. -/
import Derived.Test.YtponpbcchfbkpaaH2
namespace Go.Proofs.Ytponpbcchfbkpaa
open Go.RowKit Go.Lib
set_option linter.unusedVariables false

theorem size3 (w : World) : (Go.sizeOf 3).run Try.prog w = .ok 1 w := by
  obtain ⟨i0, hi, hz0, hz1, hz2⟩ := info_parts Try.info3
  simp [Go.sizeOf, typeInfo, hi, hz1]
theorem sliceI_1 (w : World) (a : Option Addr) (len cap : Nat) (h1 : 1 ≤ len) :
    (Instr.slice 23 (.slice a len cap) (some (.int .i64 1)) none none).run Try.prog w = .ok (.slice (partA a 1 cap) (len - 1) (cap - 1)) w := by
  have ht' : Try.prog.underlying 23 = some (.slice (Try.prog.elem 23)) := by simp [Program.elem, Try.underlying23]
  have he : Try.prog.elem 23 = 3 := by simp [Program.elem, Try.underlying23]
  rw [run_slice_l w 23 _ _ _ ht' .i64 _ (by omega) (by omega), he, size3]
  simp [Result.andThen, sliced, partA]
def lenOfS : Value → Nat
  | .slice _ n _ => n
  | _ => 0

def SumI (l : List Int) (w : World) (a : Option Addr) (c : Nat) (s : Int) (done rest : List Int) : Prop :=
  done ++ rest = l ∧ RowK .i64 w a rest ∧ rest.length ≤ c ∧ s = done.sum
def SumJ (l : List Int) (w : World) (act : Act) (w' : World) : Prop :=
  ∃ (a : Option Addr) (n c : Nat) (s : Int) (done rest : List Int) (u1 u2 u4 u5 u6 u7 u8 u9 u10 u11 u12 u13 u14 : Value), act = { tmps := #[.slice a n c, u1, u2, .int .i64 s, u4, u5, u6, u7, u8, u9, u10, u11, u12, u13, u14], defers := [] } ∧ n = rest.length ∧ SumI l w a c s done rest ∧ w' = w
theorem sum_end {l : List Int} {w : World} {a : Option Addr} {c : Nat} {s : Int} {done : List Int} (h : SumI l w a c s done []) : s = l.sum := by
  obtain ⟨h1, h2, h3, h4⟩ := h
  rw [List.append_nil] at h1
  subst h1
  exact h4
theorem sum_next {l : List Int} {w : World} {a : Option Addr} {c : Nat} {s z : Int} {done rest : List Int} (h : SumI l w a c s done (z :: rest)) : SumI l w (partA a 1 c) (c - 1) (s + z) (done ++ [z]) rest := by
  obtain ⟨h1, h2, h3, h4⟩ := h
  refine ⟨by rw [List.append_assoc]; exact h1, h2.rest 1 c h3, by simp at h3; omega, ?_⟩
  rw [List.sum_append, h4]
  simp
theorem sum_le : ∀ (l : List Int) (B : Int), (∀ z ∈ l, 0 ≤ z ∧ z ≤ B) → 0 ≤ l.sum ∧ l.sum ≤ (l.length : Int) * B
  | [], B, _ => by simp
  | z :: r, B, h => by
    have h1 := sum_le r B (fun x hx => h x (List.mem_cons_of_mem _ hx))
    have h2 := h z (List.mem_cons_self ..)
    rw [List.sum_cons, List.length_cons]
    have e : ((r.length + 1 : Nat) : Int) * B = (r.length : Int) * B + B := by rw [Int.natCast_add, Int.add_mul]; simp
    rw [e]
    omega
theorem sum_bound {l : List Int} {w : World} {a : Option Addr} {c : Nat} {s z : Int} {done rest : List Int} (h : SumI l w a c s done (z :: rest)) (hm : ∀ x ∈ l, 0 ≤ x ∧ x ≤ 1099511627776) (hl : l.length ≤ 16) :
    0 ≤ s ∧ s ≤ 17592186044416 ∧ 0 ≤ z ∧ z ≤ 1099511627776 := by
  obtain ⟨h1, h2, h3, h4⟩ := h
  have hz := hm z (by rw [← h1]; simp)
  have hd := sum_le done 1099511627776 (fun x hx => hm x (by rw [← h1]; simp [hx]))
  have hdl : done.length ≤ 16 := by have := congrArg List.length h1; simp at this; omega
  rw [h4]
  omega

set_option maxHeartbeats 2000000 in
set_option maxRecDepth 100000 in
theorem sum_any (a : Option Addr) (l : List Int) (n c : Nat) (w : World) (hn : n = l.length) (hr : RowK .i64 w a l) (hc : l.length ≤ c) (hm : ∀ z ∈ l, 0 ≤ z ∧ z ≤ 1099511627776) (hl : l.length ≤ 16) :
    Calls Try.prog 25 #[.slice a n c] w fun e w' => e = .returned (.int .i64 l.sum) ∧ w = w' := by
  obtain ⟨s, hs⟩ : ∃ s : Int, s = 0 := ⟨_, rfl⟩
  obtain ⟨done, hdone⟩ : ∃ d : List Int, d = [] := ⟨_, rfl⟩
  obtain ⟨rest, hrest⟩ : ∃ r : List Int, r = l := ⟨_, rfl⟩
  have HI : Hid (SumI l w a c s done rest) := by
    subst hs hdone hrest
    exact ⟨rfl, hr, hc, rfl⟩
  have HN : Hid (n = rest.length) := by rw [hrest]; exact hn
  have HM := Lib.hid hm
  have HL := Lib.hid hl
  have HS := Lib.hid hs
  clear hm hl hn hr hc hdone hrest hs
  go_enter Try.func25, Try.ntmps25
  go_wp2
  refine wp_scope_jumps 0 (SumJ l w) (fun a' _ => lenOfS (a'.tmps.getD 0 undef)) rfl ?_ ?_
  · have hs := HS.out
    subst hs
    clear HS
    cases rest with
    | nil =>
      have HE := Lib.hid (sum_end HI.out)
      have hn1 : n = 0 := HN.out
      subst hn1
      clear HN HI
      go_wp2_with fail
      go_step3
      go_wp2
      simp only [Exit.jump]
      go_ret
      exact ⟨ret_int HE.out, rfl⟩
    | cons z rest =>
      have hnr : n = rest.length + 1 := HN.out
      have hn1 : 1 ≤ n := by omega
      have hnz : ¬ ((n : Nat) : Int) = 0 := by omega
      have hnp : (0 : Int) < (n : Int) := by omega
      have HNR := Lib.hid hnr
      clear hnr HN
      obtain ⟨b, off, rfl, hc0⟩ := HI.out.2.1 0 (by simp)
      have hc : w.cell? ⟨b, off, none⟩ = some (.int .i64 z) := hc0
      clear hc0
      obtain ⟨hs0, hs1, hz0, hz1⟩ := sum_bound HI.out HM.out HL.out
      have hsl := fun W => sliceI_1 W (some ⟨b, off, none⟩) n c hn1
      have HQ := Lib.hid (sum_next HI.out)
      go_wp2_with fail
      go_step3
      go_wp2_with fail
      go_step3
      exact ⟨rfl, _, n - 1, c - 1, z, done ++ [z], rest, _, _, _, _, _, _, _, _, _, _, _, _, _, rfl, by have := HNR.out; omega, by have h := HQ.out; rw [Int.zero_add] at h; exact h, rfl⟩
  · rintro a' w' ⟨a, n, c, s, done, rest, u1, u2, u4, u5, u6, u7, u8, u9, u10, u11, u12, u13, u14, rfl, hn, hI, rfl⟩
    have HI := Lib.hid hI
    have HN := Lib.hid hn
    clear hI hn HS
    cases rest with
    | nil =>
      have HE := Lib.hid (sum_end HI.out)
      have hn1 : n = 0 := HN.out
      subst hn1
      clear HN HI
      go_wp2
      simp only [Exit.jump]
      go_ret
      exact ⟨ret_int HE.out, rfl⟩
    | cons z rest =>
      have hnr : n = rest.length + 1 := HN.out
      have hn1 : 1 ≤ n := by omega
      have hnz : ¬ ((n : Nat) : Int) = 0 := by omega
      have hnp : (0 : Int) < (n : Int) := by omega
      have HNR := Lib.hid hnr
      clear hnr HN
      obtain ⟨b, off, rfl, hc0⟩ := HI.out.2.1 0 (by simp)
      have hc : w'.cell? ⟨b, off, none⟩ = some (.int .i64 z) := hc0
      clear hc0
      obtain ⟨hs0, hs1, hz0, hz1⟩ := sum_bound HI.out HM.out HL.out
      have hsl := fun W => sliceI_1 W (some ⟨b, off, none⟩) n c hn1
      have HQ := Lib.hid (sum_next HI.out)
      go_wp2_with fail
      go_step3
      refine ⟨rfl, ⟨_, n - 1, c - 1, s + z, done ++ [z], rest, _, _, _, _, _, _, _, _, _, _, _, _, _, rfl, by have := HNR.out; omega, HQ.out, rfl⟩, ?_⟩
      simp [lenOfS]
      omega
end Go.Proofs.Ytponpbcchfbkpaa
