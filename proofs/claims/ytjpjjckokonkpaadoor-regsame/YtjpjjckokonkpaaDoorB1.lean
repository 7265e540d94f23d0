/- Registers: RegSame's walk. -/
import Derived.Test.YtjpjjckokonkpaaDoorA11
namespace Go.Proofs.YtjpjjckokonkpaaDoor
open Go.RowKit Go.Lib
set_option linter.unusedVariables false

set_option maxHeartbeats 8000000 in
set_option maxRecDepth 100000 in
theorem regSame_walk (ra : Option Addr) (rs : List RgD) (rn rc : Nat) (qa : Option Addr) (qs : List RgD) (qn qc : Nat) (la : Option Addr) (ls : List RgD) (ln lc : Nat) (w : World) (ht : Pr.Tab w) (h : ScG w ra rs rn rc qa qs qn qc la ls ln lc) :
    Calls Tryd.prog 7 #[.agg #[.slice ra rn rc, .slice qa qn qc, .slice la ln lc]] w (BoolPost w true) := by
  have HT := Lib.hid (fun W (hb : Below w.heap.size w W) => ht.below hb ht.lt)
  have HB0 := Lib.hid (bel1 w (scG ra rn rc qa qn qc la ln lc))
  have HS0 := Lib.hid (ScB.new w ra rn rc qa qn qc la ln lc)
  have C1 := Lib.hid (fun W (hb : Below w.heap.size w W) => set_first ⟨17, 7, 4, 2⟩ W (HT.out W hb) (by decide))
  have C2 := Lib.hid (fun a c W (hb : Below w.heap.size w W) hr hc => set_again a c ⟨17, 7, 4, 2⟩ ⟨17, 8, 4, 2⟩ W (HT.out W hb) hr hc (by decide) (by decide) rfl)
  rw [show latG ⟨17, 7, 4, 2⟩ ⟨17, 8, 4, 2⟩ = ⟨17, 7, 4, 2⟩ by decide] at C2
  have C3 := Lib.hid (fun a c W (hb : Below w.heap.size w W) hr hc => set_again a c ⟨17, 7, 4, 2⟩ ⟨17, 9, 4, 3⟩ W (HT.out W hb) hr hc (by decide) (by decide) rfl)
  rw [show latG ⟨17, 7, 4, 2⟩ ⟨17, 9, 4, 3⟩ = ⟨17, 9, 4, 3⟩ by decide] at C3
  have C4 := Lib.hid (fun a c W (hb : Below w.heap.size w W) hr hc => set_again a c ⟨17, 7, 4, 2⟩ ⟨17, 5, 4, 1⟩ W (HT.out W hb) hr hc (by decide) (by decide) rfl)
  rw [show latG ⟨17, 7, 4, 2⟩ ⟨17, 5, 4, 1⟩ = ⟨17, 7, 4, 2⟩ by decide] at C4
  have G7 := Lib.hid (fun a c W (hb : Below w.heap.size w W) hr => get_first a c ⟨17, 7, 4, 2⟩ W (HT.out W hb) hr (by decide))
  have G9 := Lib.hid (fun a c W (hb : Below w.heap.size w W) hr => get_first a c ⟨17, 9, 4, 3⟩ W (HT.out W hb) hr (by decide))
  have CW := Lib.hid (fun W (hb : Below w.heap.size w W) => wakes15_any W (HT.out W hb))
  have k1 := St.st_build 4 1
  have k2 := St.st_build 4 2
  have k3 := St.st_build 4 3
  clear ht h
  go_enter Tryd.func7, Tryd.ntmps7
  go_wp2
  generalize w.alloc (scG ra rn rc qa qn qc la ln lc) = W0 at *
  generalize hg : w.heap.size = g at HS0 ⊢
  have HG : Hid (w.heap.size = g) := hg
  have HSN := Lib.hid (fun W (hb : Below w.heap.size w W) (hb0 : Below W0.heap.size W0 W) => HS0.out.next hb0)
  clear hg
  go_loopg [3, 4, 5, 6, 7, 8, 9, 10, 11, 12, 13, 14, 15, 16, 17] 19 (fun gg s3 _ _ _ _ _ _ _ _ _ _ _ _ _ _ wr => ∃ i : Nat, s3 = .int .i64 i ∧ i ≤ 19 ∧ 19 - i ≤ gg ∧ Hid (Below W0.heap.size W0 wr))
  case atStart => exact ⟨0, rfl, by omega, by omega, Below.refl _ _⟩
  case round =>
    obtain ⟨i, rfl, hi, hgk, HI⟩ := hrel
    have HBr := Lib.hid (HB0.out.trans (HI.out.mono HB0.out.size))
    by_cases hin : i < 19
    · have hinz : (i : Int) < 19 := by omega
      have HB := HBr
      have HI2 := HI
      clear HBr HI
      go_wp2_with fail
      refine (C1.out _ HB.out).mono ?_
      rintro e w1 ⟨a1, c1, rfl, hc, hr, hb⟩
      have HBx := Lib.hid (HB.out.trans (hb.mono HB.out.size))
      have HI3 := Lib.hid (HI2.out.trans (hb.mono HI2.out.size))
      clear HI2
      have HI2 := HI3
      clear HI3
      clear HB 
      have HB := HBx
      clear HBx 
      have R1 := Lib.hid hr
      have HC1 := Lib.hid hc
      clear hb hr hc
      go_wp2_with fail
      refine (C2.out a1 c1 _ HB.out R1.out HC1.out).mono ?_
      rintro e w2 ⟨a2, c2, rfl, hc, hr, hb⟩
      have HBx := Lib.hid (HB.out.trans (hb.mono HB.out.size))
      have HI3 := Lib.hid (HI2.out.trans (hb.mono HI2.out.size))
      clear HI2
      have HI2 := HI3
      clear HI3
      have R1x := Lib.hid (R1.out.next hb)
      clear HB R1
      have HB := HBx
      have R1 := R1x
      clear HBx R1x
      have R2 := Lib.hid hr
      have HC2 := Lib.hid hc
      clear hb hr hc
      go_wp2_with fail
      refine (C3.out a1 c1 _ HB.out R1.out HC1.out).mono ?_
      rintro e w3 ⟨a3, c3, rfl, hc, hr, hb⟩
      have HBx := Lib.hid (HB.out.trans (hb.mono HB.out.size))
      have HI3 := Lib.hid (HI2.out.trans (hb.mono HI2.out.size))
      clear HI2
      have HI2 := HI3
      clear HI3
      have R1x := Lib.hid (R1.out.next hb)
      have R2x := Lib.hid (R2.out.next hb)
      clear HB R1 R2
      have HB := HBx
      have R1 := R1x
      have R2 := R2x
      clear HBx R1x R2x
      have R3 := Lib.hid hr
      have HC3 := Lib.hid hc
      clear hb hr hc
      go_wp2_with fail
      refine (C4.out a1 c1 _ HB.out R1.out HC1.out).mono ?_
      rintro e w4 ⟨a4, c4, rfl, hc, hr, hb⟩
      have HBx := Lib.hid (HB.out.trans (hb.mono HB.out.size))
      have HI3 := Lib.hid (HI2.out.trans (hb.mono HI2.out.size))
      clear HI2
      have HI2 := HI3
      clear HI3
      have R1x := Lib.hid (R1.out.next hb)
      have R2x := Lib.hid (R2.out.next hb)
      have R3x := Lib.hid (R3.out.next hb)
      clear HB R1 R2 R3
      have HB := HBx
      have R1 := R1x
      have R2 := R2x
      have R3 := R3x
      clear HBx R1x R2x R3x
      have R4 := Lib.hid hr
      have HC4 := Lib.hid hc
      clear hb hr hc
      go_wp2_with fail
      refine (G7.out a2 c2 _ HB.out R2.out).mono ?_
      rintro e w5 ⟨rfl, hb⟩
      have HBx := Lib.hid (HB.out.trans (hb.mono HB.out.size))
      have HI3 := Lib.hid (HI2.out.trans (hb.mono HI2.out.size))
      clear HI2
      have HI2 := HI3
      clear HI3
      have R1x := Lib.hid (R1.out.next hb)
      have R2x := Lib.hid (R2.out.next hb)
      have R3x := Lib.hid (R3.out.next hb)
      have R4x := Lib.hid (R4.out.next hb)
      clear HB R1 R2 R3 R4
      have HB := HBx
      have R1 := R1x
      have R2 := R2x
      have R3 := R3x
      have R4 := R4x
      clear HBx R1x R2x R3x R4x
      clear hb
      go_wp2_with fail
      refine (G9.out a3 c3 _ HB.out R3.out).mono ?_
      rintro e w6 ⟨rfl, hb⟩
      have HBx := Lib.hid (HB.out.trans (hb.mono HB.out.size))
      have HI3 := Lib.hid (HI2.out.trans (hb.mono HI2.out.size))
      clear HI2
      have HI2 := HI3
      clear HI3
      have R1x := Lib.hid (R1.out.next hb)
      have R2x := Lib.hid (R2.out.next hb)
      have R3x := Lib.hid (R3.out.next hb)
      have R4x := Lib.hid (R4.out.next hb)
      clear HB R1 R2 R3 R4
      have HB := HBx
      have R1 := R1x
      have R2 := R2x
      have R3 := R3x
      have R4 := R4x
      clear HBx R1x R2x R3x R4x
      clear hb
      go_wp2_with fail
      refine (G7.out a4 c4 _ HB.out R4.out).mono ?_
      rintro e w7 ⟨rfl, hb⟩
      have HBx := Lib.hid (HB.out.trans (hb.mono HB.out.size))
      have HI3 := Lib.hid (HI2.out.trans (hb.mono HI2.out.size))
      clear HI2
      have HI2 := HI3
      clear HI3
      have R1x := Lib.hid (R1.out.next hb)
      have R2x := Lib.hid (R2.out.next hb)
      have R3x := Lib.hid (R3.out.next hb)
      have R4x := Lib.hid (R4.out.next hb)
      clear HB R1 R2 R3 R4
      have HB := HBx
      have R1 := R1x
      have R2 := R2x
      have R3 := R3x
      have R4 := R4x
      clear HBx R1x R2x R3x R4x
      clear hb
      go_wp2_with fail
      refine (num15_any 0 _).mono ?_
      rintro e wn ⟨rfl, rfl⟩
      go_wp2_with fail
      refine (num15_any 0 _).mono ?_
      rintro e wn ⟨rfl, rfl⟩
      go_wp2_with fail
      refine (num15_any 0 _).mono ?_
      rintro e wn ⟨rfl, rfl⟩
      go_wp2_with fail
      refine (num15_any 0 _).mono ?_
      rintro e wn ⟨rfl, rfl⟩
      go_wp2_with fail
      refine (num15_any 0 _).mono ?_
      rintro e wn ⟨rfl, rfl⟩
      go_wp2_with fail
      refine (num15_any 0 _).mono ?_
      rintro e wn ⟨rfl, rfl⟩
      go_wp2_with fail
      refine (num15_any 0 _).mono ?_
      rintro e wn ⟨rfl, rfl⟩
      go_wp2_with fail
      go_roundg (19 - (i + 1))
      case measure => omega
      case rel => exact ⟨i + 1, by go_num, by omega, by omega, HI2.out⟩
    · have hinz : ¬ (i : Int) < 19 := by omega
      obtain ⟨s0, s1, s2⟩ := HS0.out.next HI.out
      go_wp2_with fail
      refine (CW.out _ HBr.out).mono ?_
      rintro e w1 ⟨rfl, hb⟩
      have HB1 := Lib.hid (HBr.out.trans (hb.mono HBr.out.size))
      clear hb
      go_wp2
      go_ret
      exact ⟨rfl, HB1.out⟩
end Go.Proofs.YtjpjjckokonkpaaDoor
