/- Which number bytes begin with: the program's TakeNum. -/
import Derived.Test.YtabbbpmhmlapgaaDoorE2
import Derived.Lib.EndianBits
namespace Go.Proofs.YtabbbpmhmlapgaaDoor
open Go.RowKit Go.Lib
set_option linter.unusedVariables false

def TakePost (bs : List Int) (w : World) (e : Ending) (w' : World) : Prop := e = .returned (.tuple #[.int .i64 (tkN bs).1, .int .i64 ((tkN bs).2.1 : Int), .int .i64 (tkN bs).2.2]) ∧ w = w'
def TakeJ (a : Option Addr) (bs : List Int) (cap : Nat) (w : World) (a' : Act) (w' : World) : Prop :=
  ∃ (i : Nat) (acc z : Int) (u1 u4 u5 u6 u7 u8 u9 u10 u11 u12 u13 u14 u15 u16 u17 u18 u19 u20 u21 u22 u23 u24 u25 u26 u27 u28 u29 u30 u31 u32 u33 u34 u35 u36 u37 u38 u39 u40 u41 u42 u43 u44 u45 u46 u47 u48 u49 : Value), a' = { tmps := #[.slice a bs.length cap, u1, .int .i64 acc, .int .i64 z, u4, u5, u6, u7, u8, u9, u10, u11, u12, u13, u14, u15, u16, u17, u18, u19, u20, u21, u22, u23, u24, u25, u26, u27, u28, u29, u30, u31, u32, u33, u34, u35, u36, u37, u38, u39, u40, u41, u42, u43, u44, u45, u46, u47, u48, u49], defers := [] } ∧ z = (i : Int) ∧ i ≤ 8 ∧ 0 ≤ acc ∧ acc < 128 ^ i ∧ i ≤ bs.length ∧ tk i acc (bs.drop i) = tkN bs ∧ w = w'

theorem tk_at (bs : List Int) (i : Nat) (acc : Int) (h : i < bs.length) : tk i acc (bs.drop i) = if 128 ≤ bs.getD i 0 then (if i = 8 then (0, 0, 1) else tk (i + 1) (acc + bs.getD i 0 % 128 * 128 ^ i) (bs.drop (i + 1))) else if (bs.getD i 0 = 0 ∧ 0 < i) ∨ 4611686018427387904 < acc + bs.getD i 0 % 128 * 128 ^ i then (0, 0, 1) else (acc + bs.getD i 0 % 128 * 128 ^ i, i + 1, 0) := by
  rw [drop_getD bs i h, tk]

theorem tk_form {bs : List Int} {w : World} {i : Nat} {s c g : Int} {R : Int × Nat × Int} (h : tkN bs = if 128 ≤ c then R else if (c = 0 ∧ 0 < i) ∨ 4611686018427387904 < s then (0, 0, 1) else (s, i + 1, 0)) (hl : c < 128) (hg : g = c) (hn : needB g ((i : Int) + 1) = true ∨ numB s = false) (h0 : 0 ≤ s) :
    TakePost bs w (.returned (.tuple #[.int .i64 0, .int .i64 0, .int .i64 1])) w := by
  rw [if_neg (by omega), if_pos ?_] at h
  · exact ⟨by rw [h]; rfl, rfl⟩
  · rcases hn with hn | hn
    · simp only [needB, decide_eq_true_eq] at hn
      exact .inl ⟨by omega, by omega⟩
    · have := numB_no hn
      exact .inr (by omega)
theorem tk_ok {bs : List Int} {w : World} {i : Nat} {s c g : Int} {R : Int × Nat × Int} (h : tkN bs = if 128 ≤ c then R else if (c = 0 ∧ 0 < i) ∨ 4611686018427387904 < s then (0, 0, 1) else (s, i + 1, 0)) (hl : c < 128) (hg : g = c) (hn : needB g ((i : Int) + 1) = false) (hb : numB s = true) :
    TakePost bs w (.returned (.tuple #[.int .i64 s, .int .i64 ((i : Int) + 1), .int .i64 0])) w := by
  simp only [needB, decide_eq_false_iff_not] at hn
  simp only [numB, decide_eq_true_eq] at hb
  rw [if_neg (by omega), if_neg (by omega)] at h
  exact ⟨by rw [h]; rfl, rfl⟩
theorem tk_more {bs : List Int} {i : Nat} {c : Int} {R S : Int × Nat × Int} (h : tkN bs = if 128 ≤ c then (if i = 8 then (0, 0, 1) else R) else S) (hl : ¬ c < 128) (h8 : ¬ i = 8) : R = tkN bs := by
  rw [if_pos (by omega), if_neg h8] at h
  exact h.symm
theorem tk_nine {bs : List Int} {w : World} {c : Int} {R S : Int × Nat × Int} (h : tkN bs = if 128 ≤ c then (if 8 = 8 then (0, 0, 1) else R) else S) (hl : ¬ c < 128) : TakePost bs w (.returned (.tuple #[.int .i64 0, .int .i64 0, .int .i64 1])) w := by
  rw [if_pos (by omega), if_pos rfl] at h
  exact ⟨by rw [h]; rfl, rfl⟩
theorem or_low (i : Nat) (acc p : Int) (ha0 : 0 ≤ acc) (ha1 : acc < 2 ^ i) (hp0 : 0 ≤ p) (hp : p % 2 ^ i = 0) (h : acc + p ≤ 9223372036854775807) : bits .or .i64 acc p = acc + p :=
  bits_join_low .i64 63 (by decide) wraps_i64 i acc p ha0 ha1 (by omega) hp0 hp (by omega)
theorem pow_128 (i : Nat) : (128 : Int) ^ i = 2 ^ (7 * i) := by rw [Int.pow_mul]; rfl
theorem or_at {i : Nat} {acc p g : Int} (hp : p = g * 128 ^ i) (hg0 : 0 ≤ g) (ha0 : 0 ≤ acc) (ha1 : acc < 128 ^ i) (h : acc + p ≤ 9223372036854775807) : bits .or .i64 acc p = acc + p := by
  refine or_low (7 * i) acc p ha0 (by rw [← pow_128]; exact ha1) (by rw [hp]; exact Int.mul_nonneg hg0 (Int.le_of_lt (pow128 i))) ?_ h
  rw [hp, ← pow_128, Int.mul_emod_left]
theorem acc_lt {i : Nat} {acc p g : Int} (hp : p = g * 128 ^ i) (hg1 : g < 128) (ha1 : acc < 128 ^ i) : acc + p < 128 ^ (i + 1) := by
  have h1 : g * 128 ^ i ≤ 127 * 128 ^ i := Int.mul_le_mul_of_nonneg_right (by omega) (Int.le_of_lt (pow128 i))
  rw [hp, Int.pow_succ]
  omega

set_option maxHeartbeats 2000000 in
set_option maxRecDepth 100000 in
theorem takeNum_any (a : Option Addr) (bs : List Int) (cap : Nat) (w : World) (hr : RowK .u8 w a bs) (hb : IsB bs) :
    Calls Tryd.prog 51 #[.slice a bs.length cap] w (TakePost bs w) := by
  have HR := Lib.hid hr
  have HB := Lib.hid hb
  clear hr hb
  go_enter Tryd.func51, Tryd.ntmps51
  go_wp2
  refine wp_scope_jumps 0 (TakeJ a bs cap w) (fun a' _ => 9 - (intOf (a'.tmps.getD 3 undef)).toNat) rfl ?_ ?_
  · have hT : tk 0 0 (bs.drop 0) = tkN bs := rfl
    by_cases hlt : 0 < bs.length
    · have hne : ¬ ((0 : Nat) : Int) = (bs.length : Int) := by omega
      have hltz : ((0 : Nat) : Int) < (bs.length : Int) := by omega
      obtain ⟨b, off, rfl, hc⟩ := HR.out 0 hlt
      rw [Nat.add_zero] at hc
      obtain ⟨c0, c1⟩ := HB.out.getD hlt
      have hst := tk_at bs 0 0 hlt
      rw [hT] at hst
      obtain ⟨c, hcc⟩ : ∃ c, c = bs.getD 0 0 := ⟨_, rfl⟩
      rw [← hcc] at hc hst c0 c1
      clear hcc hT
      have hm1 : c.tmod 128 = c % 128 := Int.tmod_eq_emod_of_nonneg c0
      obtain ⟨g, hg⟩ : ∃ g, g = c % 128 := ⟨_, rfl⟩
      have hg0 : 0 ≤ g := by omega
      have hg1 : g < 128 := by omega
      rw [← hg] at hst hm1
      have hg2 := hg.symm
      have HG := Lib.hid hg
      clear hg
      have hp : g * 128 ^ 0 = g := by omega
      rw [hp, Int.zero_add] at hst
      have ho : bits .or .i64 0 g = g := by have := or_low 0 0 g (by omega) (by omega) (by omega) (by omega) (by omega); rw [this]; omega
      clear hp
      have HST := Lib.hid hst
      clear hst
      have HNE := Lib.hid (fun W => needless_any g (1) W)
      have HIS := Lib.hid (fun W => isNum_any (g) W)
      by_cases hl : c < 128
      · have hld : decide (c < 128) = true := decide_eq_true hl
        have HGC : Hid (g = c) := by have := HG.out; show g = c; omega
        cases hnb : needB g (1)
        · cases hib : numB (g)
          · rw [hnb] at HNE; rw [hib] at HIS
            have HE := Lib.hid (tk_form (w := w) HST.out hl HGC.out (.inr hib) (by omega))
            go_wp2_with fail
            go_step3
            go_wp2_with fail
            refine (HNE.out _).mono ?_
            rintro e w' ⟨rfl, rfl⟩
            go_wp2_with fail
            refine (HIS.out _).mono ?_
            rintro e w' ⟨rfl, rfl⟩
            go_wp2
            simp only [Exit.jump]
            go_ret3
            exact HE.out
          · rw [hnb] at HNE; rw [hib] at HIS
            have HE := Lib.hid (tk_ok (w := w) HST.out hl HGC.out hnb hib)
            go_wp2_with fail
            go_step3
            go_wp2_with fail
            refine (HNE.out _).mono ?_
            rintro e w' ⟨rfl, rfl⟩
            go_wp2_with fail
            refine (HIS.out _).mono ?_
            rintro e w' ⟨rfl, rfl⟩
            go_wp2
            simp only [Exit.jump]
            go_ret3
            exact HE.out
        · rw [hnb] at HNE
          have HE := Lib.hid (tk_form (w := w) HST.out hl HGC.out (.inl hnb) (by omega))
          go_wp2_with fail
          go_step3
          go_wp2_with fail
          refine (HNE.out _).mono ?_
          rintro e w' ⟨rfl, rfl⟩
          go_wp2
          simp only [Exit.jump]
          go_ret3
          exact HE.out
      · have hld : decide (c < 128) = false := decide_eq_false hl
        have HE := Lib.hid (tk_more HST.out hl (by omega))
        go_wp2
        go_step3
        go_wp2
        go_step3
        refine ⟨rfl, 1, _, _, _, _, _, _, _, _, _, _, _, _, _, _, _, _, _, _, _, _, _, _, _, _, _, _, _, _, _, _, _, _, _, _, _, _, _, _, _, _, _, _, _, _, _, _, _, _, _, rfl, rfl, by omega, ?_, ?_, by omega, HE.out, rfl⟩
        · omega
        · simp; omega
    · have hne : ((0 : Nat) : Int) = (bs.length : Int) := by omega
      have HE : Hid (TakePost bs w (.returned (.tuple #[.int .i64 0, .int .i64 0, .int .i64 7])) w) := by
        rw [List.drop_of_length_le (by omega), tk] at hT
        exact ⟨by rw [← hT]; rfl, rfl⟩
      go_wp2
      go_step3
      go_wp2
      simp only [Exit.jump]
      go_ret3
      exact HE.out
  · rintro a' w' ⟨i, acc, z, u1, u4, u5, u6, u7, u8, u9, u10, u11, u12, u13, u14, u15, u16, u17, u18, u19, u20, u21, u22, u23, u24, u25, u26, u27, u28, u29, u30, u31, u32, u33, u34, u35, u36, u37, u38, u39, u40, u41, u42, u43, u44, u45, u46, u47, u48, u49, rfl, rfl, hi8, ha0, ha1, hil, hT, rfl⟩
    by_cases hlt : i < bs.length
    · have hne : ¬ ((i : Nat) : Int) = (bs.length : Int) := by omega
      have hltz : ((i : Nat) : Int) < (bs.length : Int) := by omega
      obtain ⟨b, off, rfl, hc⟩ := HR.out i hlt
      skip
      obtain ⟨c0, c1⟩ := HB.out.getD hlt
      have hst := tk_at bs i acc hlt
      rw [hT] at hst
      obtain ⟨c, hcc⟩ : ∃ c, c = bs.getD i 0 := ⟨_, rfl⟩
      rw [← hcc] at hc hst c0 c1
      clear hcc hT
      have hm1 : c.tmod 128 = c % 128 := Int.tmod_eq_emod_of_nonneg c0
      obtain ⟨g, hg⟩ : ∃ g, g = c % 128 := ⟨_, rfl⟩
      have hg0 : 0 ≤ g := by omega
      have hg1 : g < 128 := by omega
      rw [← hg] at hst hm1
      have hg2 := hg.symm
      have HG := Lib.hid hg
      clear hg
      obtain ⟨p, hp⟩ : ∃ p, p = g * 128 ^ i := ⟨_, rfl⟩
      rw [← hp] at hst
      have hp0 : 0 ≤ p := by rw [hp]; exact Int.mul_nonneg hg0 (Int.le_of_lt (pow128 i))
      have hp1 : acc + p < 128 ^ (i + 1) := acc_lt hp hg1 ha1
      have hp2 : (128 : Int) ^ (i + 1) ≤ 9223372036854775808 := pow128_lt (show i + 1 ≤ 9 by omega)
      have hp3 : acc + p ≤ 9223372036854775807 := by omega
      have hp4 := or_at hp hg0 ha0 ha1 hp3
      have hw0 : g * 2 ^ (7 * i) = p := by rw [hp, Int.pow_mul]; rfl
      have hw1 : g * 2 ^ (7 * (i : Int)).toNat = p := by rw [← hw0]; congr 2
      have HP1 := Lib.hid hp1
      clear hp hp1 hp2 ha1
      have HST := Lib.hid hst
      clear hst
      have HNE := Lib.hid (fun W => needless_any g ((i : Int) + 1) W)
      have HIS := Lib.hid (fun W => isNum_any (acc + p) W)
      by_cases hl : c < 128
      · have hld : decide (c < 128) = true := decide_eq_true hl
        have HGC : Hid (g = c) := by have := HG.out; show g = c; omega
        cases hnb : needB g ((i : Int) + 1)
        · cases hib : numB (acc + p)
          · rw [hnb] at HNE; rw [hib] at HIS
            have HE := Lib.hid (tk_form (w := w) HST.out hl HGC.out (.inr hib) (by omega))
            go_wp2_with fail
            refine (HNE.out _).mono ?_
            rintro e w' ⟨rfl, rfl⟩
            go_wp2_with fail
            refine (HIS.out _).mono ?_
            rintro e w' ⟨rfl, rfl⟩
            go_wp2
            simp only [Exit.jump]
            go_ret3
            exact HE.out
          · rw [hnb] at HNE; rw [hib] at HIS
            have HE := Lib.hid (tk_ok (w := w) HST.out hl HGC.out hnb hib)
            go_wp2_with fail
            refine (HNE.out _).mono ?_
            rintro e w' ⟨rfl, rfl⟩
            go_wp2_with fail
            refine (HIS.out _).mono ?_
            rintro e w' ⟨rfl, rfl⟩
            go_wp2
            simp only [Exit.jump]
            go_ret3
            exact HE.out
        · rw [hnb] at HNE
          have HE := Lib.hid (tk_form (w := w) HST.out hl HGC.out (.inl hnb) (by omega))
          go_wp2_with fail
          refine (HNE.out _).mono ?_
          rintro e w' ⟨rfl, rfl⟩
          go_wp2
          simp only [Exit.jump]
          go_ret3
          exact HE.out
      · have hld : decide (c < 128) = false := decide_eq_false hl
        by_cases h8 : i = 8
        · subst h8
          have HE := Lib.hid (tk_nine (w := w) HST.out hl)
          go_wp2
          simp only [Exit.jump]
          go_ret3
          exact HE.out
        · have HE := Lib.hid (tk_more HST.out hl h8)
          have hi9 : (i : Int) + 1 < 9 := by omega
          go_wp2
          go_step3
          refine ⟨rfl, ⟨i + 1, _, _, _, _, _, _, _, _, _, _, _, _, _, _, _, _, _, _, _, _, _, _, _, _, _, _, _, _, _, _, _, _, _, _, _, _, _, _, _, _, _, _, _, _, _, _, _, _, _, rfl, by omega, by omega, ?_, HP1.out, by omega, HE.out, rfl⟩, ?_⟩
          · omega
          · simp [intOf]
            omega
    · have hne : ((i : Nat) : Int) = (bs.length : Int) := by omega
      have HE : Hid (TakePost bs w (.returned (.tuple #[.int .i64 0, .int .i64 0, .int .i64 7])) w) := by
        rw [List.drop_of_length_le (by omega), tk] at hT
        exact ⟨by rw [← hT]; rfl, rfl⟩
      go_wp2
      simp only [Exit.jump]
      go_ret3
      exact HE.out
end Go.Proofs.YtabbbpmhmlapgaaDoor
