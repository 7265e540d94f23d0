/- Joined: G21 G22 G23. -/
import Derived.Test.YtfhppfbmnnkikaaDoorZK
import Derived.Test.YtfhppfbmnnkikaaDoorZI
import Derived.Lib.QuietBelow
import Derived.Test.YtfhppfbmnnkikaaDoorZW

/- May a frame be, and its bytes: the page's. -/
namespace Go.Proofs.YtfhppfbmnnkikaaDoor
open Go.RowKit Go.Lib
set_option linter.unusedVariables false


set_option maxHeartbeats 400000 in
theorem refRep_is (z : Int) (b : Bool) (h : repB z = b) (w : World) : Calls Tryd.prog 36 #[.int .i64 z, .int .i64 15] w fun e w' => e = .returned (.bool b) ∧ w = w' := by
  subst h
  by_cases g1 : 0 ≤ z
  · have hd : decide (0 ≤ z) = true := decide_eq_true g1
    by_cases g2 : z ≤ 15
    · have HC : Hid (repB z = true) := by show _ = true; simp [repB]; omega
      have hd2 : decide (z ≤ 15) = true := decide_eq_true g2
      go_enter Tryd.func36, Tryd.ntmps36
      go_wp2
      go_ret
      exact ⟨ret_bool HC.out.symm, rfl⟩
    · have HC : Hid (repB z = false) := by show _ = false; simp [repB]; omega
      have hd2 : decide (z ≤ 15) = false := decide_eq_false g2
      go_enter Tryd.func36, Tryd.ntmps36
      go_wp2
      go_ret
      exact ⟨ret_bool HC.out.symm, rfl⟩
  · have HC : Hid (repB z = false) := by show _ = false; simp [repB]; omega
    have hd : decide (0 ≤ z) = false := decide_eq_false g1
    go_enter Tryd.func36, Tryd.ntmps36
    go_wp2
    go_ret
    exact ⟨ret_bool HC.out.symm, rfl⟩

set_option maxHeartbeats 2000000 in
set_option maxRecDepth 100000 in
theorem refFrame_any (fr tu k : Int) (ha : Option Addr) (hs : List Int) (hn hc : Nat) (oa : Option Addr) (os : List OpD) (on oc : Nat) (w : World) (h : FrR w ha hs hn oa os on) : Calls Tryd.prog 14 #[.agg #[.int .i64 fr, .int .i64 tu, .int .i64 k, .slice ha hn hc, .slice oa on oc]] w (BoolPost w (frB fr tu k hs os)) := by
  have HB := Lib.hid (box_bel w (.cells #[.int .i64 fr, .int .i64 tu, .int .i64 k, .slice ha hn hc, .slice oa on oc] 40))
  cases g1 : repB fr with
  | false =>
    have H1 := Lib.hid (fun W => refRep_is fr false g1 W)
    have HE : Hid (frB fr tu k hs os = false) := by show _ = false; rw [frB_split g1 rfl rfl rfl]; simp
    clear g1 h
    go_enter Tryd.func14, Tryd.ntmps14
    go_wp2_with fail
    refine (H1.out _).mono ?_
    rintro e w1 ⟨rfl, rfl⟩
    go_wp2
    go_ret
    exact ⟨ret_bool HE.out.symm, HB.out⟩
  | true =>
    have H1 := Lib.hid (fun W => refRep_is fr true g1 W)
    cases g2 : repB tu with
    | false =>
      have H2 := Lib.hid (fun W => refRep_is tu false g2 W)
      have HE : Hid (frB fr tu k hs os = false) := by show _ = false; rw [frB_split g1 g2 rfl rfl]; simp
      clear g1 g2 h
      go_enter Tryd.func14, Tryd.ntmps14
      go_wp2_with fail
      refine (H1.out _).mono ?_
      rintro e w1 ⟨rfl, rfl⟩
      go_wp2_with fail
      refine (H2.out _).mono ?_
      rintro e w1 ⟨rfl, rfl⟩
      go_wp2
      go_ret
      exact ⟨ret_bool HE.out.symm, HB.out⟩
    | true =>
      have H2 := Lib.hid (fun W => refRep_is tu true g2 W)
      by_cases g3 : fr = tu
      · have HE : Hid (frB fr tu k hs os = false) := by show _ = false; rw [frB_split g1 g2 (show decide (fr ≠ tu) = false by simp [g3]) rfl]; simp
        clear g1 g2 h
        subst g3
        go_enter Tryd.func14, Tryd.ntmps14
        go_wp2_with fail
        refine (H1.out _).mono ?_
        rintro e w1 ⟨rfl, rfl⟩
        go_wp2_with fail
        refine (H2.out _).mono ?_
        rintro e w1 ⟨rfl, rfl⟩
        go_wp2
        go_ret
        exact ⟨ret_bool HE.out.symm, HB.out⟩
      · have g3z : (fr == tu) = false := by simpa using g3
        by_cases k1 : k = 1
        · subst k1
          have HA := Lib.hid (FrAt.new w fr tu 1 ha hn hc oa on oc)
          cases gv : Hv.vecB hs with
          | true =>
            have C := Lib.hid (Hv.refVector_is ha hs hn hc (w.alloc (.cells #[.int .i64 fr, .int .i64 tu, .int .i64 1, .slice ha hn hc, .slice oa on oc] 40)) (h.rh.alloc _) h.hl (by have := h.hm; omega) gv)
            by_cases k2 : os.length = 0
            · have hon : on = 0 := by have := h.ol; omega
              subst hon
              have HE : Hid (frB fr tu 1 hs os = true) := by show _ = true; rw [frB_split g1 g2 (show decide (fr ≠ tu) = true by simp [g3]) rfl]; simp [fkB, gv, k2]
              clear gv k2 h g1 g2
              go_enter Tryd.func14, Tryd.ntmps14
              go_wp2_with fail
              refine (H1.out _).mono ?_
              rintro e w1 ⟨rfl, rfl⟩
              go_wp2_with fail
              refine (H2.out _).mono ?_
              rintro e w1 ⟨rfl, rfl⟩
              go_wp2_with fail
              refine (C.out).mono ?_
              rintro e w1 ⟨rfl, rfl⟩
              go_wp2
              go_ret
              exact ⟨ret_bool HE.out.symm, HB.out⟩
            · have honz : ((on : Int) == 0) = false := by have := h.ol; simp; omega
              have honz2 : ¬ (on : Int) = 0 := by have := h.ol; omega
              have HE : Hid (frB fr tu 1 hs os = false) := by show _ = false; rw [frB_split g1 g2 (show decide (fr ≠ tu) = true by simp [g3]) rfl]; simp [fkB, gv, k2]
              clear gv k2 h g1 g2
              go_enter Tryd.func14, Tryd.ntmps14
              go_wp2_with fail
              refine (H1.out _).mono ?_
              rintro e w1 ⟨rfl, rfl⟩
              go_wp2_with fail
              refine (H2.out _).mono ?_
              rintro e w1 ⟨rfl, rfl⟩
              go_wp2_with fail
              refine (C.out).mono ?_
              rintro e w1 ⟨rfl, rfl⟩
              go_wp2
              go_ret
              exact ⟨ret_bool HE.out.symm, HB.out⟩
          | false =>
            have C := Lib.hid (Hv.refVector_is ha hs hn hc (w.alloc (.cells #[.int .i64 fr, .int .i64 tu, .int .i64 1, .slice ha hn hc, .slice oa on oc] 40)) (h.rh.alloc _) h.hl (by have := h.hm; omega) gv)
            have HE : Hid (frB fr tu 1 hs os = false) := by show _ = false; rw [frB_split g1 g2 (show decide (fr ≠ tu) = true by simp [g3]) rfl]; simp [fkB, gv]
            clear gv h g1 g2
            go_enter Tryd.func14, Tryd.ntmps14
            go_wp2_with fail
            refine (H1.out _).mono ?_
            rintro e w1 ⟨rfl, rfl⟩
            go_wp2_with fail
            refine (H2.out _).mono ?_
            rintro e w1 ⟨rfl, rfl⟩
            go_wp2_with fail
            refine (C.out).mono ?_
            rintro e w1 ⟨rfl, rfl⟩
            go_wp2
            go_ret
            exact ⟨ret_bool HE.out.symm, HB.out⟩
        · have k1z : (k == 1) = false := by simpa using k1
          by_cases k2 : k = 2
          · subst k2
            have HA := Lib.hid (FrAt.new w fr tu 2 ha hn hc oa on oc)
            have HSP : Hid (frB fr tu 2 hs os = fkB 2 hs os) := by show _ = _; rw [frB_split g1 g2 (show decide (fr ≠ tu) = true by simp [g3]) rfl]; simp
            have HH := Lib.hid h
            have honb : on ≤ 1172812402961 := by have := h.om; have := h.ol; omega
            clear h g1 g2
            go_enter Tryd.func14, Tryd.ntmps14
            go_wp2_with fail
            refine (H1.out _).mono ?_
            rintro e w1 ⟨rfl, rfl⟩
            go_wp2_with fail
            refine (H2.out _).mono ?_
            rintro e w1 ⟨rfl, rfl⟩
            go_wp2
            go_loopg [3] on (fun g1 v wr => ∃ i : Nat, v = .int .i64 i ∧ i ≤ on ∧ on - i ≤ g1 ∧ Hid (Below (w.heap.size + 1) (w.alloc (.cells #[.int .i64 fr, .int .i64 tu, .int .i64 2, .slice ha hn hc, .slice oa on oc] 40)) wr ∧ (os.take i).all OpD.ok = true))
            case atStart => exact ⟨0, rfl, by omega, by omega, ⟨Below.refl _ _, by simp⟩⟩
            case round =>
              obtain ⟨i, rfl, hi, hg, HI⟩ := hrel
              have HL := Lib.hid (HB.out.trans (HI.out.1.mono (Nat.le_succ _)))
              obtain ⟨c0, c1, c2, c3, c4⟩ := HA.out.below HI.out.1 (Nat.lt_succ_self _)
              have HR := Lib.hid (HH.out.below HL.out)
              by_cases hin : i < on
              · have hinz : (i : Int) < (on : Int) := by omega
                obtain ⟨x, hx⟩ : ∃ x, os[i]? = some x := ⟨_, List.getElem?_eq_getElem (by rw [← HH.out.ol]; exact hin)⟩
                have HX := Lib.hid hx
                obtain ⟨b, off, rfl, da, dc, hat, hrow, hdm⟩ := HR.out.ro i x hx
                obtain ⟨⟨t, r, ds, kd, nt, nr, pt, pr, s, p, v⟩, q⟩ := x
                simp only at hat hrow hdm
                obtain ⟨d0, d1, d2, d3, d4, d5, d6, d7, d8, d9, d10, d11⟩ := hat
                have C := Lib.hid (refOp_any t r q da ds ds.length dc kd nt nr pt pr s p v wr hrow rfl (by omega))
                clear hx hrow hdm
                generalize ds.length = dn at d3 C
                cases hok : opB t r q ds kd nt nr pt pr s p v with
                | true =>
                  rw [hok] at C
                  have HK := Lib.hid (all_take HX.out hok HI.out.2)
                  clear hok
                  go_wp2_with fail
                  refine (C.out).mono ?_
                  rintro e w1 ⟨rfl, hb1⟩
                  have HB2 := Lib.hid (HI.out.1.trans (hb1.mono (by have := HI.out.1.size; rw [World.size_alloc] at this; exact this)))
                  clear hb1 d0 d1 d2 d3 d4 d5 d6 d7 d8 d9 d10 d11 c0 c1 c2 c3 c4
                  go_wp2_with fail
                  go_roundg (on - (i + 1))
                  case measure => omega
                  case rel => exact ⟨i + 1, by go_num, by omega, by omega, ⟨HB2.out, HK.out⟩⟩
                | false =>
                  rw [hok] at C
                  have HE : Hid (frB fr tu 2 hs os = false) := by show _ = false; rw [HSP.out]; simp [fkB, batB_no HX.out hok]
                  clear hok
                  go_wp2_with fail
                  refine (C.out).mono ?_
                  rintro e w1 ⟨rfl, hb1⟩
                  have HB2 := Lib.hid (HL.out.trans (hb1.mono HL.out.size))
                  clear hb1
                  go_wp2
                  go_ret
                  exact ⟨ret_bool HE.out.symm, HB2.out⟩
              · have hinz : ¬ (i : Int) < (on : Int) := by omega
                have HALL : Hid (os.all OpD.ok = true) := by
                  have h := HI.out.2
                  rw [List.take_of_length_le (by have := HH.out.ol; omega)] at h
                  exact h
                by_cases h0 : hn = 0
                · subst h0
                  have hz : hs.length = 0 := by have := HH.out.hl; omega
                  by_cases h1 : 1 ≤ on
                  · have h1d : decide ((1 : Int) ≤ (on : Int)) = true := decide_eq_true (by omega)
                    have h1z : (1 : Int) ≤ (on : Int) := by omega
                    by_cases h8 : on ≤ 8
                    · have h8d : decide ((on : Int) ≤ 8) = true := decide_eq_true (by omega)
                      have h8z : (on : Int) ≤ 8 := by omega
                      have HE : Hid (frB fr tu 2 hs os = true) := by show _ = true; rw [HSP.out]; have := HH.out.ol; simp [fkB, batB, HALL.out, hz]; omega
                      clear hz
                      go_wp2
                      go_ret
                      exact ⟨ret_bool HE.out.symm, HL.out⟩
                    · have h8d : decide ((on : Int) ≤ 8) = false := decide_eq_false (by omega)
                      have h8z : ¬ (on : Int) ≤ 8 := by omega
                      have HE : Hid (frB fr tu 2 hs os = false) := by show _ = false; rw [HSP.out]; have := HH.out.ol; simp [fkB, batB]; omega
                      clear hz
                      go_wp2
                      go_ret
                      exact ⟨ret_bool HE.out.symm, HL.out⟩
                  · have h1d : decide ((1 : Int) ≤ (on : Int)) = false := decide_eq_false (by omega)
                    have h1z : ¬ (1 : Int) ≤ (on : Int) := by omega
                    have HE : Hid (frB fr tu 2 hs os = false) := by show _ = false; rw [HSP.out]; have := HH.out.ol; simp [fkB, batB]; omega
                    clear hz
                    go_wp2
                    go_ret
                    exact ⟨ret_bool HE.out.symm, HL.out⟩
                · have h0z : ((hn : Int) == 0) = false := by simp; omega
                  have h0y : ¬ (hn : Int) = 0 := by omega
                  have hz : decide (hs.length = 0) = false := decide_eq_false (by have := HH.out.hl; omega)
                  have HE : Hid (frB fr tu 2 hs os = false) := by show _ = false; rw [HSP.out]; unfold fkB; rw [if_neg (by decide), if_pos rfl, hz]; simp
                  clear hz
                  go_wp2
                  go_ret
                  exact ⟨ret_bool HE.out.symm, HL.out⟩
          · have k2z : (k == 2) = false := by simpa using k2
            have HE : Hid (frB fr tu k hs os = false) := by show _ = false; rw [frB_split g1 g2 (show decide (fr ≠ tu) = true by simp [g3]) rfl]; simp [fkB, k1, k2]
            clear h g1 g2
            go_enter Tryd.func14, Tryd.ntmps14
            go_wp2_with fail
            refine (H1.out _).mono ?_
            rintro e w1 ⟨rfl, rfl⟩
            go_wp2_with fail
            refine (H2.out _).mono ?_
            rintro e w1 ⟨rfl, rfl⟩
            go_wp2
            go_ret
            exact ⟨ret_bool HE.out.symm, HB.out⟩
theorem refFrame_is (fr tu k : Int) (ha : Option Addr) (hs : List Int) (hn hc : Nat) (oa : Option Addr) (os : List OpD) (on oc : Nat) (w : World) (h : FrR w ha hs hn oa os on) (b : Bool) (e : frB fr tu k hs os = b) : Calls Tryd.prog 14 #[.agg #[.int .i64 fr, .int .i64 tu, .int .i64 k, .slice ha hn hc, .slice oa on oc]] w (BoolPost w b) := by rw [← e]; exact refFrame_any fr tu k ha hs hn hc oa os on oc w h
end Go.Proofs.YtfhppfbmnnkikaaDoor

/- A frame's bytes: the page's. -/
namespace Go.Proofs.YtfhppfbmnnkikaaDoor
open Go.RowKit Go.Lib
set_option linter.unusedVariables false


theorem heldF_mk {w0 w1 : World} {g : Nat} {fr tu k : Int} {ha : Option Addr} {hn hc : Nat} {oa : Option Addr} {on oc : Nat} (h : FrAt w1 g 0 fr tu k ha hn hc oa on oc) (hB : Below w0.heap.size w0 w1) : w1.cell? ⟨g, 0, none⟩ = some (.int .i64 fr) ∧ w1.cell? ⟨g, 0 + 1, none⟩ = some (.int .i64 tu) ∧ w1.cell? ⟨g, 0 + 2, none⟩ = some (.int .i64 k) ∧ w1.cell? ⟨g, 0 + 3, none⟩ = some (.slice ha hn hc) ∧ w1.cell? ⟨g, 0 + 4, none⟩ = some (.slice oa on oc) ∧ Hid (Below w0.heap.size w0 w1) := ⟨h.c0, h.c1, h.c2, h.c3, h.c4, Lib.hid hB⟩
theorem heldF_at {w0 w1 : World} {g : Nat} {fr tu k : Int} {ha : Option Addr} {hn hc : Nat} {oa : Option Addr} {on oc : Nat} (h : w1.cell? ⟨g, 0, none⟩ = some (.int .i64 fr) ∧ w1.cell? ⟨g, 0 + 1, none⟩ = some (.int .i64 tu) ∧ w1.cell? ⟨g, 0 + 2, none⟩ = some (.int .i64 k) ∧ w1.cell? ⟨g, 0 + 3, none⟩ = some (.slice ha hn hc) ∧ w1.cell? ⟨g, 0 + 4, none⟩ = some (.slice oa on oc) ∧ Hid (Below w0.heap.size w0 w1)) : FrAt w1 g 0 fr tu k ha hn hc oa on oc := ⟨h.1, h.2.1, h.2.2.1, h.2.2.2.1, h.2.2.2.2.1⟩
theorem heldF_bel {w0 w1 : World} {g : Nat} {fr tu k : Int} {ha : Option Addr} {hn hc : Nat} {oa : Option Addr} {on oc : Nat} (h : w1.cell? ⟨g, 0, none⟩ = some (.int .i64 fr) ∧ w1.cell? ⟨g, 0 + 1, none⟩ = some (.int .i64 tu) ∧ w1.cell? ⟨g, 0 + 2, none⟩ = some (.int .i64 k) ∧ w1.cell? ⟨g, 0 + 3, none⟩ = some (.slice ha hn hc) ∧ w1.cell? ⟨g, 0 + 4, none⟩ = some (.slice oa on oc) ∧ Hid (Below w0.heap.size w0 w1)) : Below w0.heap.size w0 w1 := h.2.2.2.2.2.out
theorem heldF_next {w0 w1 w2 : World} {g : Nat} {fr tu k : Int} {ha : Option Addr} {hn hc : Nat} {oa : Option Addr} {on oc : Nat} (h : w1.cell? ⟨g, 0, none⟩ = some (.int .i64 fr) ∧ w1.cell? ⟨g, 0 + 1, none⟩ = some (.int .i64 tu) ∧ w1.cell? ⟨g, 0 + 2, none⟩ = some (.int .i64 k) ∧ w1.cell? ⟨g, 0 + 3, none⟩ = some (.slice ha hn hc) ∧ w1.cell? ⟨g, 0 + 4, none⟩ = some (.slice oa on oc) ∧ Hid (Below w0.heap.size w0 w1)) (hb : Below w1.heap.size w1 w2) : w2.cell? ⟨g, 0, none⟩ = some (.int .i64 fr) ∧ w2.cell? ⟨g, 0 + 1, none⟩ = some (.int .i64 tu) ∧ w2.cell? ⟨g, 0 + 2, none⟩ = some (.int .i64 k) ∧ w2.cell? ⟨g, 0 + 3, none⟩ = some (.slice ha hn hc) ∧ w2.cell? ⟨g, 0 + 4, none⟩ = some (.slice oa on oc) ∧ Hid (Below w0.heap.size w0 w2) := heldF_mk ((heldF_at h).next hb) ((heldF_bel h).trans (hb.mono (heldF_bel h).size))
theorem own4 (W : World) (S : Nat) (hS : S < 4294967296) : OwnK .u8 5 (W.alloc (.cells #[.int .u8 ((S : Int) / 16777216 % 256), .int .u8 ((S : Int) / 65536 % 256), .int .u8 ((S : Int) / 256 % 256), .int .u8 ((S : Int) % 256)] 5)) W.heap.size (.slice (some ⟨W.heap.size, 0, none⟩) 4 4) (be4 S) := by
  have e : be4 S = [(S : Int) / 16777216 % 256, (S : Int) / 65536 % 256, (S : Int) / 256 % 256, (S : Int) % 256] := by
    simp only [be4, List.cons.injEq, and_true]
    omega
  rw [e]
  exact ⟨rfl, .inr ⟨W.heap.size, 4, _, rfl, Nat.le_refl _, heap_alloc_new W _, Nat.le_refl _, by decide, rfl, rfl⟩⟩
theorem fpre2 (fr tu k : Int) (hs : List Int) (os : List OpD) : fpre 2 fr tu k hs os = enc fr.toNat ++ enc tu.toNat := by simp [fpre, fprt, List.range_succ]

set_option maxHeartbeats 4000000 in
set_option maxRecDepth 100000 in
theorem refFrameBytes_any (fr tu k : Int) (ha : Option Addr) (hs : List Int) (hn hc : Nat) (oa : Option Addr) (os : List OpD) (on oc : Nat) (w : World) (h : FrR w ha hs hn oa os on) (hf : frB fr tu k hs os = true) : Calls Tryd.prog 15 #[.agg #[.int .i64 fr, .int .i64 tu, .int .i64 k, .slice ha hn hc, .slice oa on oc]] w (AppPost w.heap.size w (byF fr tu k hs os)) := by
  have mixed : Tryd.prog.follows .mixedOrders = true := by kernel_rfl
  obtain ⟨p1, p2, p3, p4⟩ := frB_parts hf
  have e1 := repB_num p1
  have e2 := repB_num p2
  have e3 : k = 1 ∨ k = 2 := by rcases fkB_parts p4 with h | h <;> omega
  obtain ⟨g, hg⟩ : ∃ g, w.heap.size = g := ⟨_, rfl⟩
  have HG : Hid (w.heap.size = g) := hg
  have CT := Lib.hid (fun W => St.refNum_z fr W (by simp [numB]; omega))
  have CR := Lib.hid (fun W => St.refNum_z tu W (by simp [numB]; omega))
  have CK := Lib.hid (fun W => St.refNum_z k W (by simp [numB]; omega))
  have HL0 := Lib.hid (fpre_len hf 2)
  have HL3 := Lib.hid (fpre_len hf 3)
  have HL1 := Lib.hid (enc_len9 (n := fr.toNat) (by omega))
  have HL2 := Lib.hid (enc_len9 (n := tu.toNat) (by omega))
  have HP3 := Lib.hid (fprt_len hf 2)
  have HK := Lib.hid p4
  have HOK := Lib.hid hf
  have HH := Lib.hid h
  have HB0 : Hid (Below w.heap.size w (w.alloc (.cells #[.int .i64 fr, .int .i64 tu, .int .i64 k, .slice ha hn hc, .slice oa on oc] 40)).drew) := (box_bel w (.cells #[.int .i64 fr, .int .i64 tu, .int .i64 k, .slice ha hn hc, .slice oa on oc] 40)).drew
  have HA0 : Hid (FrAt (w.alloc (.cells #[.int .i64 fr, .int .i64 tu, .int .i64 k, .slice ha hn hc, .slice oa on oc] 40)).drew g 0 fr tu k ha hn hc oa on oc) := (hg ▸ FrAt.new w fr tu k ha hn hc oa on oc).drew
  have hS0 := heldF_mk HA0.out HB0.out
  have hsz : (w.alloc (.cells #[.int .i64 fr, .int .i64 tu, .int .i64 k, .slice ha hn hc, .slice oa on oc] 40)).drew.heap.size = g + 1 := by show (w.alloc _).heap.size = _; rw [World.size_alloc, hg]
  have HSZ := Lib.hid hsz
  clear e1 e2 p1 p2 p3 p4 hf h hsz
  rcases e3 with hk | hk
  · -- MA
    have hkz : (k == 1) = true := by simpa using hk
    have HKK := Lib.hid hk
    have HVE : Hid (Hv.vecB hs = true) := by rcases fkB_parts HK.out with h | h; exact h.2.1; exact absurd (h.1.symm.trans hk) (by decide)
    have CV := Lib.hid (fun W (hb : Below w.heap.size w W) => refNums_n ha hs hn hc W HH.out.hl (HH.out.rh.below hb (Nat.le_refl _)) (Hv.vec_numsOK HVE.out))
    have HLV := Lib.hid (encL_len16 HVE.out)
    have HE : Hid (fpre 2 fr tu k hs os ++ enc k.toNat ++ encL hs = encF fr tu k hs os) := by
      show _ = fpre 4 fr tu k hs os
      rw [show fpre 4 fr tu k hs os = _ from fpre_succ 3 fr tu k hs os, show fpre 3 fr tu k hs os = _ from fpre_succ 2 fr tu k hs os]
      show _ = fpre 2 fr tu k hs os ++ enc k.toNat ++ (if k = 1 then encL hs else enc os.length ++ encOs os)
      rw [if_pos hk]
    clear hk
    go_enter Tryd.func15, Tryd.ntmps15
    go_wp2_with fail
    rw [hg]
    clear hg
    go_region_held3 (fun w' => w'.cell? ⟨g, 0, none⟩ = some (.int .i64 fr) ∧ w'.cell? ⟨g, 0 + 1, none⟩ = some (.int .i64 tu) ∧ w'.cell? ⟨g, 0 + 2, none⟩ = some (.int .i64 k) ∧ w'.cell? ⟨g, 0 + 3, none⟩ = some (.slice ha hn hc) ∧ w'.cell? ⟨g, 0 + 4, none⟩ = some (.slice oa on oc) ∧ Hid (Below w.heap.size w w')) (with_reducible assumption) (first
      | (go_at_call 39
         (with_reducible refine (CT.out _).mono ?_)
         rintro e w1 ⟨v1, rfl, ho1, hb1⟩
         have hS1 := heldF_next (by with_reducible assumption) hb1
         have HO1 : Hid (OwnK .u8 5 w1 (g + 1) v1 (enc fr.toNat)) := ho1.mono (by rw [HSZ.out]; exact Nat.le_refl _)
         clear ho1 hb1)
      | (go_at_call 39
         (with_reducible refine (CR.out _).mono ?_)
         rintro e w2 ⟨v2, rfl, ho2, hb2⟩
         have hS2 := heldF_next (by with_reducible assumption) hb2
         have HO2 : Hid (OwnK .u8 5 w2 (g + 1) v1 (enc fr.toNat)) := HO1.out.below hb2
         have HS2 : Hid (g + 1 ≤ w2.heap.size) := (heldF_at hS2).lt
         obtain ⟨a2, n2, c2, rfl, hn2, hr2, hc2⟩ := ho2.form'
         have HN2 := Lib.hid hn2
         have HR2 := Lib.hid hr2
         clear ho2 hb2 hn2 hr2 hc2)
      | (refine stepB_row (by rfl) _ _ (by rfl) (g + 1) w2 v1 (enc fr.toNat) (enc tu.toNat) a2 n2 c2 HN2.out (by rfl) HO2.out (by rfl) HR2.out (by have h1 := HL1.out; have h2 := HL2.out; omega) HS2.out ?_
         intro v3 w3 hp3
         have HI3 : Hid (FbI w w3 g fr tu k ha hn hc oa on oc v3 (fpre 2 fr tu k hs os)) := by
           have hb : Below (g + 1) w2 w3 := hp3.bel _ _ (Below.refl _ _) (Nat.le_refl _) HS2.out
           exact ⟨(heldF_at hS2).below hb (Nat.lt_succ_self _), by rw [fpre2]; exact hp3.own, (heldF_bel hS2).trans (hb.mono (by have := HG.out; omega)), Nat.le_of_eq HG.out⟩
         have hS3 := heldF_mk HI3.out.at_ HI3.out.bel
         clear hp3))
    clear hS0 hS1 hS2 hS3 HO1 HO2 HN2 HR2
    obtain ⟨c0, c1, c2', c3, c4⟩ := HI3.out.at_
    go_wp2_with fail
    refine (CK.out w3).mono ?_
    rintro e w4 ⟨v9, rfl, ho9, hb9⟩
    have HI9 := Lib.hid (HI3.out.next hb9)
    obtain ⟨a9, n9, c9, rfl, hn9, hr9, hc9⟩ := ho9.form'
    have HN9 := Lib.hid hn9
    have HR9 := Lib.hid hr9
    clear ho9 hb9 hn9 hr9 hc9
    go_wp2_with (first
      | (at_builtin
         refine wpB_row rfl _ _ rfl (g + 1) w4 v3 (fpre 2 fr tu k hs os) (enc k.toNat) a9 n9 c9 HN9.out rfl HI9.out.own rfl HR9.out (by have h1 := HL0.out; have h2 : (enc k.toNat).length ≤ 7353 := HP3.out; omega) HI9.out.at_.lt ?_
         intro v5 w5 hp6
         have HI5 := Lib.hid (HI9.out.grew hp6)
         clear hp6
         obtain ⟨c0, c1, c2', c3, c4⟩ := HI5.out.at_)
      | fail)
    refine (CV.out w5 HI5.out.bel).mono ?_
    rintro e w6 ⟨v9, rfl, ho9, hb9⟩
    have HI9 := Lib.hid (HI5.out.next hb9)
    obtain ⟨a9, n9, c9, rfl, hn9, hr9, hc9⟩ := ho9.form'
    have HN9 := Lib.hid hn9
    have HR9 := Lib.hid hr9
    clear ho9 hb9 hn9 hr9 hc9
    go_wp2_with (first
      | (at_builtin
         refine wpB_row rfl _ _ rfl (g + 1) w6 v5 (fpre 2 fr tu k hs os ++ enc k.toNat) (encL hs) a9 n9 c9 HN9.out rfl HI9.out.own rfl HR9.out (by have h1 := HL0.out; have h2 : (enc k.toNat).length ≤ 7353 := HP3.out; have h3 := HLV.out; rw [List.length_append]; omega) HI9.out.at_.lt ?_
         intro v7 w7 hp6
         have HI7 := Lib.hid (HI9.out.grew hp6)
         clear hp6
         obtain ⟨c0, c1, c2', c3, c4⟩ := HI7.out.at_)
      | fail)
    obtain ⟨a6, n6, c6, rfl, hn6, hr6, hc6⟩ := HI7.out.own.form'
    rw [HE.out] at hn6 hr6
    have HN6 := Lib.hid hn6
    have HR6 := Lib.hid hr6
    have HLF : Hid ((encF fr tu k hs os).length ≤ 29412) := fpre_len HOK.out 4
    have C42 := Lib.hid (refSum_any a6 (encF fr tu k hs os) n6 c6 w7 hn6 hr6 (encF_isB fr tu k hs os) (by have := HLF.out; omega))
    have HSL := Lib.hid (crc_lt (encF_isB fr tu k hs os))
    have HQB := Lib.hid HI7.out.bel
    have HQS := Lib.hid HI7.out.bel.size
    clear hn6 hr6 hc6 HI7
    unfold SumPost at C42
    refine (C42.out).mono ?_
    rintro e wS ⟨rfl, rfl⟩
    have HBY : Hid (byF fr tu k hs os = be4 (crc (encF fr tu k hs os)) ++ encF fr tu k hs os) := (rfl : byF fr tu k hs os = _)
    generalize crc (encF fr tu k hs os) = SS at *
    go_wp2_with (first
      | (at_builtin
         refine wpB_row rfl _ _ rfl w7.heap.size (w7.alloc (.cells #[.int .u8 ((SS : Int) / 16777216 % 256), .int .u8 ((SS : Int) / 65536 % 256), .int .u8 ((SS : Int) / 256 % 256), .int .u8 ((SS : Int) % 256)] 5)) _ (be4 SS) (encF fr tu k hs os) a6 n6 c6 HN6.out rfl ?_ rfl (HR6.out.alloc _) ?_ ?_ ?_
         exact own4 w7 SS HSL.out
         (have h1 := HLF.out; rw [be4_len]; omega)
         (rw [World.size_alloc]; omega)
         intro v8 w8 hp8
         have HO8 := Lib.hid (hp8.own.mono HQS.out)
         have HB8 := Lib.hid (hp8.bel _ _ (HQB.out.alloc HQS.out _) HQS.out (by rw [World.size_alloc]; exact Nat.le_succ_of_le HQS.out))
         clear hp8)
      | fail)
    go_ret
    exact ⟨_, rfl, by rw [HBY.out]; exact HO8.out, HB8.out⟩
  · -- MB
    have hkz : (k == 1) = false := by rw [hk]; rfl
    have HBT : Hid (batB os = true) := by rcases fkB_parts HK.out with h | h; exact absurd (h.1.symm.trans hk) (by decide); exact h.2.1
    have HNB : Hid (1 ≤ os.length ∧ os.length ≤ 8 ∧ os.all OpD.ok = true) := batB_parts HBT.out
    have h8 : on ≤ 8 := by have h1 := HH.out.ol; have h2 := HNB.out.2.1; omega
    have CN : Hid (∀ W, Calls Tryd.prog 39 #[.int .i64 (on : Int)] W (AppPost W.heap.size W (enc os.length))) := fun W => by
      have := St.refNum_z (on : Int) W (by simp [numB]; omega)
      rw [show (on : Int).toNat = os.length by have h1 := HH.out.ol; omega] at this
      exact this
    have HL9 : Hid ((enc os.length).length ≤ 9) := enc_len9 (by have := HNB.out.2.1; omega)
    have HLN : Hid (∀ i, (encOs (os.take i)).length ≤ 7344) := fun i => by
      have := encOs_len (os := os.take i) (by have b3 := HNB.out.2.2; rw [List.all_eq_true] at b3 ⊢; exact fun x hx => b3 x (List.mem_of_mem_take hx))
      have h2 := HNB.out.2.1
      rw [List.length_take] at this
      omega
    have HE : Hid (fpre 2 fr tu k hs os ++ enc k.toNat ++ enc os.length ++ encOs os = encF fr tu k hs os) := by
      show _ = fpre 4 fr tu k hs os
      rw [show fpre 4 fr tu k hs os = _ from fpre_succ 3 fr tu k hs os, show fpre 3 fr tu k hs os = _ from fpre_succ 2 fr tu k hs os]
      show _ = fpre 2 fr tu k hs os ++ enc k.toNat ++ (if k = 1 then encL hs else enc os.length ++ encOs os)
      rw [if_neg (by rw [hk]; decide), List.append_assoc (fpre 2 fr tu k hs os ++ enc k.toNat)]
    clear hk
    go_enter Tryd.func15, Tryd.ntmps15
    go_wp2_with fail
    rw [hg]
    clear hg
    go_region_held3 (fun w' => w'.cell? ⟨g, 0, none⟩ = some (.int .i64 fr) ∧ w'.cell? ⟨g, 0 + 1, none⟩ = some (.int .i64 tu) ∧ w'.cell? ⟨g, 0 + 2, none⟩ = some (.int .i64 k) ∧ w'.cell? ⟨g, 0 + 3, none⟩ = some (.slice ha hn hc) ∧ w'.cell? ⟨g, 0 + 4, none⟩ = some (.slice oa on oc) ∧ Hid (Below w.heap.size w w')) (with_reducible assumption) (first
      | (go_at_call 39
         (with_reducible refine (CT.out _).mono ?_)
         rintro e w1 ⟨v1, rfl, ho1, hb1⟩
         have hS1 := heldF_next (by with_reducible assumption) hb1
         have HO1 : Hid (OwnK .u8 5 w1 (g + 1) v1 (enc fr.toNat)) := ho1.mono (by rw [HSZ.out]; exact Nat.le_refl _)
         clear ho1 hb1)
      | (go_at_call 39
         (with_reducible refine (CR.out _).mono ?_)
         rintro e w2 ⟨v2, rfl, ho2, hb2⟩
         have hS2 := heldF_next (by with_reducible assumption) hb2
         have HO2 : Hid (OwnK .u8 5 w2 (g + 1) v1 (enc fr.toNat)) := HO1.out.below hb2
         have HS2 : Hid (g + 1 ≤ w2.heap.size) := (heldF_at hS2).lt
         obtain ⟨a2, n2, c2, rfl, hn2, hr2, hc2⟩ := ho2.form'
         have HN2 := Lib.hid hn2
         have HR2 := Lib.hid hr2
         clear ho2 hb2 hn2 hr2 hc2)
      | (refine stepB_row (by rfl) _ _ (by rfl) (g + 1) w2 v1 (enc fr.toNat) (enc tu.toNat) a2 n2 c2 HN2.out (by rfl) HO2.out (by rfl) HR2.out (by have h1 := HL1.out; have h2 := HL2.out; omega) HS2.out ?_
         intro v3 w3 hp3
         have HI3 : Hid (FbI w w3 g fr tu k ha hn hc oa on oc v3 (fpre 2 fr tu k hs os)) := by
           have hb : Below (g + 1) w2 w3 := hp3.bel _ _ (Below.refl _ _) (Nat.le_refl _) HS2.out
           exact ⟨(heldF_at hS2).below hb (Nat.lt_succ_self _), by rw [fpre2]; exact hp3.own, (heldF_bel hS2).trans (hb.mono (by have := HG.out; omega)), Nat.le_of_eq HG.out⟩
         have hS3 := heldF_mk HI3.out.at_ HI3.out.bel
         clear hp3))
    clear hS0 hS1 hS2 hS3 HO1 HO2 HN2 HR2
    obtain ⟨c0, c1, c2', c3, c4⟩ := HI3.out.at_
    go_wp2_with fail
    refine (CK.out w3).mono ?_
    rintro e w4 ⟨v9, rfl, ho9, hb9⟩
    have HI9 := Lib.hid (HI3.out.next hb9)
    obtain ⟨a9, n9, c9, rfl, hn9, hr9, hc9⟩ := ho9.form'
    have HN9 := Lib.hid hn9
    have HR9 := Lib.hid hr9
    clear ho9 hb9 hn9 hr9 hc9
    go_wp2_with (first
      | (at_builtin
         refine wpB_row rfl _ _ rfl (g + 1) w4 v3 (fpre 2 fr tu k hs os) (enc k.toNat) a9 n9 c9 HN9.out rfl HI9.out.own rfl HR9.out (by have h1 := HL0.out; have h2 : (enc k.toNat).length ≤ 7353 := HP3.out; omega) HI9.out.at_.lt ?_
         intro v5 w5 hp6
         have HI5 := Lib.hid (HI9.out.grew hp6)
         clear hp6
         obtain ⟨c0, c1, c2', c3, c4⟩ := HI5.out.at_)
      | fail)
    refine (CN.out w5).mono ?_
    rintro e w6 ⟨v9, rfl, ho9, hb9⟩
    have HI9 := Lib.hid (HI5.out.next hb9)
    obtain ⟨a9, n9, c9, rfl, hn9, hr9, hc9⟩ := ho9.form'
    have HN9 := Lib.hid hn9
    have HR9 := Lib.hid hr9
    clear ho9 hb9 hn9 hr9 hc9
    go_wp2_with (first
      | (at_builtin
         refine wpB_row rfl _ _ rfl (g + 1) w6 v5 (fpre 2 fr tu k hs os ++ enc k.toNat) (enc os.length) a9 n9 c9 HN9.out rfl HI9.out.own rfl HR9.out (by have h1 := HL0.out; have h2 : (enc k.toNat).length ≤ 7353 := HP3.out; have h3 := HL9.out; rw [List.length_append]; omega) HI9.out.at_.lt ?_
         intro v7 w7 hp6
         have HI7 := Lib.hid (HI9.out.grew hp6)
         clear hp6
         obtain ⟨c0, c1, c2', c3, c4⟩ := HI7.out.at_)
      | fail)
    have HZL : Hid ((fpre 2 fr tu k hs os ++ enc k.toNat ++ enc os.length).length ≤ 30000) := by have h1 := HL0.out; have h2 : (enc k.toNat).length ≤ 7353 := HP3.out; have h3 := HL9.out; show _ ≤ _; rw [List.length_append, List.length_append]; omega
    have HI70 : Hid (FbI w w7 g fr tu k ha hn hc oa on oc v7 (fpre 2 fr tu k hs os ++ enc k.toNat ++ enc os.length ++ encOs (os.take 0))) := by
      have := HI7.out
      show FbI w w7 g fr tu k ha hn hc oa on oc v7 (fpre 2 fr tu k hs os ++ enc k.toNat ++ enc os.length ++ encOs (os.take 0))
      rw [List.take_zero]
      simpa [encOs] using this
    clear HI7 HI5 HI3
    go_loopg [3, 4] on (fun g1 v4 v wr => ∃ i : Nat, v = .int .i64 i ∧ i ≤ on ∧ on - i ≤ g1 ∧ Hid (FbI w wr g fr tu k ha hn hc oa on oc v4 (fpre 2 fr tu k hs os ++ enc k.toNat ++ enc os.length ++ encOs (os.take i))))
    case atStart => exact ⟨0, rfl, by omega, by omega, HI70⟩
    case round =>
      clear HI70 c0 c1 c2' c3 c4
      obtain ⟨i, rfl, hi, hg, HI⟩ := hrel
      obtain ⟨c0, c1, c2', c3, c4⟩ := HI.out.at_
      by_cases hin : i < on
      · have hinz : (i : Int) < (on : Int) := by omega
        obtain ⟨x, hx⟩ : ∃ x, os[i]? = some x := ⟨_, List.getElem?_eq_getElem (by rw [← HH.out.ol]; exact hin)⟩
        have HTK0 := Lib.hid (encOs_take hx)
        have HKO : Hid (x.ok = true) := List.all_eq_true.1 HNB.out.2.2 x (List.mem_of_getElem? hx)
        obtain ⟨b, off, rfl, da, dc, hat, hrow, hdm⟩ := (HH.out.ro.below HI.out.bel) i x hx
        obtain ⟨⟨t, r, ds, kd, nt, nr, pt, pr, s, p, v⟩, q⟩ := x
        simp only at hat hrow hdm
        obtain ⟨d0, d1, d2, d3, d4, d5, d6, d7, d8, d9, d10, d11⟩ := hat
        have C41 := Lib.hid (refOpBytes_any t r q da ds ds.length dc kd nt nr pt pr s p v wr hrow rfl HKO.out)
        have HTK : Hid (encOs (os.take (i + 1)) = encOs (os.take i) ++ encO t r ds kd nt nr pt pr s p v) := HTK0.out
        have HLE : Hid ((encO t r ds kd nt nr pt pr s p v).length ≤ 918) := encO_len (q := q) HKO.out
        clear hx hrow hdm HTK0
        generalize ds.length = dn at d3 C41
        go_wp2_with fail
        refine (C41.out).mono ?_
        rintro e w8 ⟨v9, rfl, ho9, hb9⟩
        have HI9 := Lib.hid (HI.out.next hb9)
        obtain ⟨a9, n9, c9, rfl, hn9, hr9, hc9⟩ := ho9.form'
        have HN9 := Lib.hid hn9
        have HR9 := Lib.hid hr9
        clear ho9 hb9 hn9 hr9 hc9 d0 d1 d2 d3 d4 d5 d6 d7 d8 d9 d10 d11 c0 c1 c2' c3 c4
        go_wp2_with (first
          | (at_builtin
             refine wpB_row rfl _ _ rfl (g + 1) w8 u3 (fpre 2 fr tu k hs os ++ enc k.toNat ++ enc os.length ++ encOs (os.take i)) (encO t r ds kd nt nr pt pr s p v) a9 n9 c9 HN9.out rfl HI9.out.own rfl HR9.out (by have h1 := HZL.out; have h2 := HLN.out i; have h3 := HLE.out; rw [List.length_append]; omega) HI9.out.at_.lt ?_
             intro v10 w10 hp6
             have HQ : Hid (FbI w w10 g fr tu k ha hn hc (some ⟨b, off, none⟩) on oc v10 (fpre 2 fr tu k hs os ++ enc k.toNat ++ enc os.length ++ encOs (os.take (i + 1)))) := by
               have := HI9.out.grew hp6
               rw [List.append_assoc, ← HTK.out] at this
               exact this
             clear hp6)
          | fail)
        go_roundg (on - (i + 1))
        case measure => omega
        case rel => exact ⟨i + 1, by go_num, by omega, by omega, HQ⟩
      · have hinz : ¬ (i : Int) < (on : Int) := by omega
        have HI7 : Hid (FbI w wr g fr tu k ha hn hc oa on oc u3 (fpre 2 fr tu k hs os ++ enc k.toNat ++ enc os.length ++ encOs os)) := by
          have h1 := HI.out
          rw [List.take_of_length_le (by have := HH.out.ol; omega)] at h1
          exact h1
        go_wp2_with fail
        obtain ⟨a6, n6, c6, rfl, hn6, hr6, hc6⟩ := HI7.out.own.form'
        rw [HE.out] at hn6 hr6
        have HN6 := Lib.hid hn6
        have HR6 := Lib.hid hr6
        have HLF : Hid ((encF fr tu k hs os).length ≤ 29412) := fpre_len HOK.out 4
        have C42 := Lib.hid (refSum_any a6 (encF fr tu k hs os) n6 c6 wr hn6 hr6 (encF_isB fr tu k hs os) (by have := HLF.out; omega))
        have HSL := Lib.hid (crc_lt (encF_isB fr tu k hs os))
        have HQB := Lib.hid HI7.out.bel
        have HQS := Lib.hid HI7.out.bel.size
        clear hn6 hr6 hc6 HI7
        unfold SumPost at C42
        refine (C42.out).mono ?_
        rintro e wS ⟨rfl, rfl⟩
        have HBY : Hid (byF fr tu k hs os = be4 (crc (encF fr tu k hs os)) ++ encF fr tu k hs os) := (rfl : byF fr tu k hs os = _)
        generalize crc (encF fr tu k hs os) = SS at *
        go_wp2_with (first
          | (at_builtin
             refine wpB_row rfl _ _ rfl wr.heap.size (wr.alloc (.cells #[.int .u8 ((SS : Int) / 16777216 % 256), .int .u8 ((SS : Int) / 65536 % 256), .int .u8 ((SS : Int) / 256 % 256), .int .u8 ((SS : Int) % 256)] 5)) _ (be4 SS) (encF fr tu k hs os) a6 n6 c6 HN6.out rfl ?_ rfl (HR6.out.alloc _) ?_ ?_ ?_
             exact own4 wr SS HSL.out
             (have h1 := HLF.out; rw [be4_len]; omega)
             (rw [World.size_alloc]; omega)
             intro v8 w8 hp8
             have HO8 := Lib.hid (hp8.own.mono HQS.out)
             have HB8 := Lib.hid (hp8.bel _ _ (HQB.out.alloc HQS.out _) HQS.out (by rw [World.size_alloc]; exact Nat.le_succ_of_le HQS.out))
             clear hp8)
          | fail)
        go_ret
        exact ⟨_, rfl, by rw [HBY.out]; exact HO8.out, HB8.out⟩
end Go.Proofs.YtfhppfbmnnkikaaDoor

/- The walk of FrameBytes. -/
namespace Go.Proofs.YtfhppfbmnnkikaaDoor
open Go.RowKit Go.Lib
set_option linter.unusedVariables false

set_option maxHeartbeats 8000000 in
set_option maxRecDepth 100000 in
theorem frameBytes_walk (a : Option Addr) (n cap : Nat) (w : World) (ht : Pr.Tab w) (h : AsksF w a n) :
    Calls Tryd.prog 4 #[.slice a n cap] w (BoolPost w true) := by
  have mixed : Tryd.prog.follows .mixedOrders = true := by kernel_rfl
  have HA := Lib.hid h
  have HT0 := Lib.hid ht
  have HNUM := Lib.hid (fun z W => num18_any z W)
  clear h ht
  go_enter Tryd.func4, Tryd.ntmps4
  go_wp2
  go_loopg [3] 8 (fun g1 v wr => ∃ i : Nat, v = .int .i64 i ∧ i ≤ 8 ∧ 8 - i ≤ g1 ∧ Hid (Below w.heap.size w wr))
  case atStart => exact ⟨0, rfl, by omega, by omega, Below.refl _ _⟩
  case round =>
    obtain ⟨i, rfl, hi12, hg1, HB⟩ := hrel
    have HT := Lib.hid (HT0.out.below HB.out HT0.out.lt)
    by_cases hin : i < n
    · have hinz : decide ((i : Int) < (n : Int)) = true := decide_eq_true (by omega)
      have hiny : (i : Int) < (n : Int) := by omega
      by_cases hi : i < 8
      · have hiz : decide ((i : Int) < 8) = true := decide_eq_true (by omega)
        have hiy : (i : Int) < 8 := by omega
        obtain ⟨b, off, fr, tu, k, ha, hs, hn, hc, oa, os, on, oc, ax, xs, nx, cx, rfl, hask, hrows, hx⟩ := HA.out i hin
        have HP0 : Hid (PF w w b (off + i * 6) fr tu k ha hs hn hc oa os on oc ax xs nx cx) := ⟨hask, hrows, hx, Below.refl _ _, HT0.out, hask.f_.lt⟩
        have HP : Hid (PF w wr b (off + i * 6) fr tu k ha hs hn hc oa os on oc ax xs nx cx) := HP0.out.next HB.out
        clear hask hrows hx
        have HV := Lib.hid (heavyF_any fr tu k ha hs hn hc oa os on oc ax nx cx wr HP.out.rows)
        obtain ⟨⟨c0, c1, c2, c3, c4⟩, c5⟩ := HP.out.ask
        go_wp2_with fail
        refine (HV.out).mono ?_
        rintro e w1 ⟨hv, rfl, hnx, hb1⟩
        have HP1 := Lib.hid (HP.out.next hb1)
        have HNX3 := Lib.hid hnx
        clear hb1 HV hnx c0 c1 c2 c3 c4 c5
        cases hv
        case true =>
          go_wp2
          go_ret
          exact ⟨rfl, HP1.out.bel⟩
        have hnx3 := HNX3.out rfl
        clear HNX3
        obtain ⟨⟨c0, c1, c2, c3, c4⟩, c5⟩ := HP1.out.ask
        cases hok : frB fr tu k hs os with
        | false =>
          -- MA
          have HOK := Lib.hid hok
          have C14 := Lib.hid (refFrame_is fr tu k ha hs hn hc oa os on oc w1 HP1.out.rows false hok)
          clear hok
          go_wp2_with fail
          refine (C14.out).mono ?_
          rintro e w2 ⟨rfl, hb2⟩
          have HP2 := Lib.hid (HP1.out.next hb2)
          clear hb2 C14 c0 c1 c2 c3 c4 c5
          obtain ⟨⟨c0, c1, c2, c3, c4⟩, c5⟩ := HP2.out.ask
          have C16 := Lib.hid (copyFrame_any fr tu k ha hs hn hc oa os on oc w2 HP2.out.rows)
          go_wp2_with fail
          refine (C16.out).mono ?_
          rintro e w4 ⟨ha4, hn4, hc4, oa4, on4, oc4, rfl, hR4, hb4⟩
          have HP5 := Lib.hid ((HP2.out.next hb4).next (box_bel w4 (.cells #[.int .i64 fr, .int .i64 tu, .int .i64 k, .slice ha4 hn4 hc4, .slice oa4 on4 oc4] 40)))
          have HR5 := Lib.hid (hR4.below (box_bel w4 (.cells #[.int .i64 fr, .int .i64 tu, .int .i64 k, .slice ha4 hn4 hc4, .slice oa4 on4 oc4] 40)))
          have HA5 := Lib.hid (FrAt.new w4 fr tu k ha4 hn4 hc4 oa4 on4 oc4)
          clear hR4 hb4 C16 c0 c1 c2 c3 c4 c5
          go_wp2_with fail
          generalize w4.alloc (.cells #[.int .i64 fr, .int .i64 tu, .int .i64 k, .slice ha4 hn4 hc4, .slice oa4 on4 oc4] 40) = W5 at *
          generalize w4.heap.size = g4 at *
          have C17 := Lib.hid (frBytes_no fr tu k ha4 hs hn4 hc4 oa4 os on4 oc4 W5 HP5.out.tab HR5.out HOK.out)
          refine (C17.out).mono ?_
          rintro e w6 ⟨v6, rfl, ho6, hb6⟩
          obtain ⟨a6, n6, c6, rfl, hn6, hr6, hc6⟩ := ho6.form'
          have HP6 := Lib.hid (HP5.out.next hb6)
          have HR6 := Lib.hid (HR5.out.below hb6)
          have HA6 := Lib.hid (HA5.out.next hb6)
          have HB6 := Lib.hid hr6
          have HN6 := Lib.hid hn6
          clear ho6 hb6 hn6 hr6 hc6 C17
          have k19 : St.RegrownTo w6 19 #[.agg #[.int .i64 fr, .int .i64 tu, .int .i64 k, .slice ha4 hn4 hc4, .slice oa4 on4 oc4]] (.int .i64 1) := regrown_at fun W hb => frCheck_is fr tu k ha4 hs hn4 hc4 oa4 os on4 oc4 W (HP6.out.tab.below hb HP6.out.tab.lt) (HR6.out.below hb) 1 (by rw [HOK.out]; rfl)
          have k18 : St.RegrownTo w6 18 #[.int .i64 1] (.int .i64 1) := St.regrown_same fun W => num18_any 1 W
          have k20 : St.RegrownTo w6 20 #[.slice a6 n6 c6, .slice none 0 0] (.bool true) := regrown_at fun W hb => eqB_bel a6 none [] n6 0 c6 0 W (HB6.out.below hb (Nat.le_refl _)) (RowK.nil _ _ _) HN6.out rfl (by simp)
          have k21 : St.RegrownTo w6 21 #[.agg #[.int .i64 fr, .int .i64 tu, .int .i64 k, .slice ha4 hn4 hc4, .slice oa4 on4 oc4], .agg #[.int .i64 fr, .int .i64 tu, .int .i64 k, .slice ha hn hc, .slice oa on oc]] (.bool true) := regrown_at fun W hb => eqFrame_yes fr tu k ha4 hs hn4 hc4 oa4 os on4 oc4 ha hn hc oa on oc W (HR6.out.below hb) (HP6.out.rows.below hb)
          obtain ⟨x0, x1, x2, x3, x4⟩ := HA6.out.regrown
          obtain ⟨y0, y1, y2, y3, y4⟩ := HP6.out.ask.f_.regrown
          go_wp2_with fail
          refine wp_region_quiet_below (by assumption) (by kernel_rfl) ?_
          repeat (go_big_quiet_step (first | (go_at_call 19; with_reducible exact k19 _ _) | (go_at_call 18; with_reducible exact k18 _ _) | (go_at_call 20; with_reducible exact k20 _ _) | (go_at_call 21; with_reducible exact k21 _ _)))
          refine wpQuiet_nil ?_
          intro _ hw'
          obtain ⟨⟨dq, osq⟩, hw''⟩ := hw'
          subst hw''
          have HP7 := Lib.hid (HP6.out.next (below_regrown w6 dq osq))
          clear k18 k19 k20 k21 x0 x1 x2 x3 x4 y0 y1 y2 y3 y4
          generalize Go.Sort.grow (redrawn w6 dq) osq = w7 at *
          go_wp2
          go_roundg (8 - (i + 1))
          case measure => omega
          case rel => exact ⟨i + 1, by go_num, by omega, by omega, HP7.out.bel⟩
        | true =>
          -- MB
          have HOK := Lib.hid hok
          have C14 := Lib.hid (refFrame_is fr tu k ha hs hn hc oa os on oc w1 HP1.out.rows true hok)
          clear hok
          go_wp2_with fail
          refine (C14.out).mono ?_
          rintro e w2 ⟨rfl, hb2⟩
          have HP2 := Lib.hid (HP1.out.next hb2)
          clear hb2 C14 c0 c1 c2 c3 c4 c5
          obtain ⟨⟨c0, c1, c2, c3, c4⟩, c5⟩ := HP2.out.ask
          have C15 := Lib.hid (refFrameBytes_any fr tu k ha hs hn hc oa os on oc w2 HP2.out.rows HOK.out)
          go_wp2_with fail
          refine (C15.out).mono ?_
          rintro e w3 ⟨v3, rfl, ho3, hb3⟩
          obtain ⟨a3, n3, c3q, rfl, hn3, hr3, hc3⟩ := ho3.form'
          have HP3 := Lib.hid (HP2.out.next hb3)
          have HW3 := Lib.hid hr3
          have HN3 := Lib.hid hn3
          clear ho3 hb3 hn3 hr3 hc3 C15 c0 c1 c2 c3 c4 c5
          obtain ⟨⟨c0, c1, c2, c3, c4⟩, c5⟩ := HP3.out.ask
          have C16 := Lib.hid (copyFrame_any fr tu k ha hs hn hc oa os on oc w3 HP3.out.rows)
          go_wp2_with fail
          refine (C16.out).mono ?_
          rintro e w4 ⟨ha4, hn4, hc4, oa4, on4, oc4, rfl, hR4, hb4⟩
          have HP5 := Lib.hid ((HP3.out.next hb4).next (box_bel w4 (.cells #[.int .i64 fr, .int .i64 tu, .int .i64 k, .slice ha4 hn4 hc4, .slice oa4 on4 oc4] 40)))
          have HR5 := Lib.hid (hR4.below (box_bel w4 (.cells #[.int .i64 fr, .int .i64 tu, .int .i64 k, .slice ha4 hn4 hc4, .slice oa4 on4 oc4] 40)))
          have HA5 := Lib.hid (FrAt.new w4 fr tu k ha4 hn4 hc4 oa4 on4 oc4)
          have HW5 := Lib.hid ((HW3.out.below hb4 (Nat.le_refl _)).alloc (.cells #[.int .i64 fr, .int .i64 tu, .int .i64 k, .slice ha4 hn4 hc4, .slice oa4 on4 oc4] 40))
          clear hR4 hb4 C16 c0 c1 c2 c3 c4 c5
          go_wp2_with fail
          generalize w4.alloc (.cells #[.int .i64 fr, .int .i64 tu, .int .i64 k, .slice ha4 hn4 hc4, .slice oa4 on4 oc4] 40) = W5 at *
          generalize w4.heap.size = g4 at *
          have C17 := Lib.hid (frBytes_yes fr tu k ha4 hs hn4 hc4 oa4 os on4 oc4 W5 HP5.out.tab HR5.out HOK.out)
          refine (C17.out).mono ?_
          rintro e w6 ⟨v6, rfl, ho6, hb6⟩
          obtain ⟨a6, n6, c6, rfl, hn6, hr6, hc6⟩ := ho6.form'
          have HP6 := Lib.hid (HP5.out.next hb6)
          have HR6 := Lib.hid (HR5.out.below hb6)
          have HA6 := Lib.hid (HA5.out.next hb6)
          have HW6 := Lib.hid (HW5.out.below hb6 (Nat.le_refl _))
          have HB6 := Lib.hid hr6
          have HN6 := Lib.hid hn6
          clear ho6 hb6 hn6 hr6 hc6 C17
          have k19 : St.RegrownTo w6 19 #[.agg #[.int .i64 fr, .int .i64 tu, .int .i64 k, .slice ha4 hn4 hc4, .slice oa4 on4 oc4]] (.int .i64 0) := regrown_at fun W hb => frCheck_is fr tu k ha4 hs hn4 hc4 oa4 os on4 oc4 W (HP6.out.tab.below hb HP6.out.tab.lt) (HR6.out.below hb) 0 (by rw [HOK.out]; rfl)
          have k18 : St.RegrownTo w6 18 #[.int .i64 0] (.int .i64 0) := St.regrown_same fun W => num18_any 0 W
          have k20 : St.RegrownTo w6 20 #[.slice a6 n6 c6, .slice a3 n3 c3q] (.bool true) := regrown_at fun W hb => eqB_bel a6 a3 (byF fr tu k hs os) n6 n3 c6 c3q W (HB6.out.below hb (Nat.le_refl _)) (HW6.out.below hb (Nat.le_refl _)) HN6.out HN3.out (by have := byF_len HOK.out; omega)
          have k21 : St.RegrownTo w6 21 #[.agg #[.int .i64 fr, .int .i64 tu, .int .i64 k, .slice ha4 hn4 hc4, .slice oa4 on4 oc4], .agg #[.int .i64 fr, .int .i64 tu, .int .i64 k, .slice ha hn hc, .slice oa on oc]] (.bool true) := regrown_at fun W hb => eqFrame_yes fr tu k ha4 hs hn4 hc4 oa4 os on4 oc4 ha hn hc oa on oc W (HR6.out.below hb) (HP6.out.rows.below hb)
          obtain ⟨x0, x1, x2, x3, x4⟩ := HA6.out.regrown
          obtain ⟨y0, y1, y2, y3, y4⟩ := HP6.out.ask.f_.regrown
          go_wp2_with fail
          refine wp_region_quiet_below (by assumption) (by kernel_rfl) ?_
          repeat (go_big_quiet_step (first | (go_at_call 19; with_reducible exact k19 _ _) | (go_at_call 18; with_reducible exact k18 _ _) | (go_at_call 20; with_reducible exact k20 _ _) | (go_at_call 21; with_reducible exact k21 _ _)))
          refine wpQuiet_nil ?_
          intro _ hw'
          obtain ⟨⟨dq, osq⟩, hw''⟩ := hw'
          subst hw''
          have HP7 := Lib.hid (HP6.out.next (below_regrown w6 dq osq))
          clear k18 k19 k20 k21 x0 x1 x2 x3 x4 y0 y1 y2 y3 y4
          generalize Go.Sort.grow (redrawn w6 dq) osq = w7 at *
          go_wp2
          go_roundg (8 - (i + 1))
          case measure => omega
          case rel => exact ⟨i + 1, by go_num, by omega, by omega, HP7.out.bel⟩
      · have hiz : decide ((i : Int) < 8) = false := decide_eq_false (by omega)
        have hiy : ¬ (i : Int) < 8 := by omega
        go_wp2_with fail
        refine (wakesF_any wr HT.out).mono ?_
        rintro e w1 ⟨rfl, hb1⟩
        have HB1 := Lib.hid (HB.out.trans (hb1.mono HB.out.size))
        clear hb1
        go_wp2
        go_ret
        exact ⟨rfl, HB1.out⟩
    · have hinz : decide ((i : Int) < (n : Int)) = false := decide_eq_false (by omega)
      have hiny : ¬ (i : Int) < (n : Int) := by omega
      go_wp2_with fail
      refine (wakesF_any wr HT.out).mono ?_
      rintro e w1 ⟨rfl, hb1⟩
      have HB1 := Lib.hid (HB.out.trans (hb1.mono HB.out.size))
      clear hb1
      go_wp2
      go_ret
      exact ⟨rfl, HB1.out⟩
end Go.Proofs.YtfhppfbmnnkikaaDoor
