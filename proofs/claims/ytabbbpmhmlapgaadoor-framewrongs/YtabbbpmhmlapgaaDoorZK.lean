/- Joined: G5 G6 G7 G8 G9. -/
import Derived.Test.YtabbbpmhmlapgaaDoorZJ
import Derived.Test.YtabbbpmhmlapgaaDoorO16
import Derived.Test.YtabbbpmhmlapgaaDoorH7
import Derived.Test.YtabbbpmhmlapgaaDoorO9
import Derived.Deep.AppendLies

/- Words for rows of operations and for frames; may a frame be: the program's. -/
namespace Go.Proofs.YtabbbpmhmlapgaaDoor
open Go.RowKit Go.Lib
set_option linter.unusedVariables false

abbrev OpD := OpR × Int
/-- an operation in memory -/
def OpIs (w : World) (b o : Nat) (x : OpD) : Prop :=
  ∃ da dc, OpAt w b o x.1.t x.1.r x.2 da x.1.ds.length dc x.1.k x.1.nt x.1.nr x.1.pt x.1.pr x.1.s x.1.p x.1.v ∧ RowK .i64 w da x.1.ds ∧ x.1.ds.length ≤ 17592186044416
theorem OpIs.below {w w' : World} {b o : Nat} {x : OpD} (h : OpIs w b o x) (hb : Below w.heap.size w w') : OpIs w' b o x := by
  obtain ⟨da, dc, h1, h2, h3⟩ := h
  exact ⟨da, dc, h1.next hb, h2.below hb (Nat.le_refl _), h3⟩
/-- a row of operations, in a world -/
def RowO (w : World) (a : Option Addr) (os : List OpD) : Prop := ∀ i x, os[i]? = some x → ∃ b off, a = some ⟨b, off, none⟩ ∧ OpIs w b (off + i * 12) x
theorem RowO.nil (w : World) (a : Option Addr) : RowO w a [] := fun i x h => by simp at h
theorem RowO.below {w w' : World} {a : Option Addr} {os : List OpD} (h : RowO w a os) (hb : Below w.heap.size w w') : RowO w' a os := fun i x hi => by
  obtain ⟨b, off, e, h1⟩ := h i x hi
  exact ⟨b, off, e, h1.below hb⟩
theorem RowO.alloc {w : World} {a : Option Addr} {os : List OpD} (h : RowO w a os) (o : Obj) : RowO (w.alloc o) a os := h.below (box_bel w o)
def OpD.ok (x : OpD) : Bool := x.1.ok x.2
/-- as many as one frame holds, and each may be -/
def batB (os : List OpD) : Bool := decide (1 ≤ os.length ∧ os.length ≤ 8) && os.all OpD.ok
def repB (z : Int) : Bool := decide (0 ≤ z ∧ z < 16)
def fkB (k : Int) (hs : List Int) (os : List OpD) : Bool := if k = 1 then Hv.vecB hs && decide (os.length = 0) else if k = 2 then batB os && decide (hs.length = 0) else false
/-- may a frame be? -/
def frB (fr tu k : Int) (hs : List Int) (os : List OpD) : Bool := repB fr && repB tu && decide (fr ≠ tu) && fkB k hs os

/-- a frame at a place -/
structure FrAt (w : World) (b o : Nat) (fr tu k : Int) (ha : Option Addr) (hn hc : Nat) (oa : Option Addr) (on oc : Nat) : Prop where
  c0 : w.cell? ⟨b, o, none⟩ = some (.int .i64 fr)
  c1 : w.cell? ⟨b, o + 1, none⟩ = some (.int .i64 tu)
  c2 : w.cell? ⟨b, o + 2, none⟩ = some (.int .i64 k)
  c3 : w.cell? ⟨b, o + 3, none⟩ = some (.slice ha hn hc)
  c4 : w.cell? ⟨b, o + 4, none⟩ = some (.slice oa on oc)
theorem FrAt.lt {w : World} {b o : Nat} {fr tu k : Int} {ha : Option Addr} {hn hc : Nat} {oa : Option Addr} {on oc : Nat} (h : FrAt w b o fr tu k ha hn hc oa on oc) : b < w.heap.size := World.block_lt_of_cell? _ _ h.c0
theorem FrAt.below {w w' : World} {b o B : Nat} {fr tu k : Int} {ha : Option Addr} {hn hc : Nat} {oa : Option Addr} {on oc : Nat} (h : FrAt w b o fr tu k ha hn hc oa on oc) (hb : Below B w w') (hB : b < B) : FrAt w' b o fr tu k ha hn hc oa on oc :=
  ⟨(hb.cell (p := ⟨b, o, none⟩) hB).trans h.c0, (hb.cell (p := ⟨b, o + 1, none⟩) hB).trans h.c1, (hb.cell (p := ⟨b, o + 2, none⟩) hB).trans h.c2, (hb.cell (p := ⟨b, o + 3, none⟩) hB).trans h.c3, (hb.cell (p := ⟨b, o + 4, none⟩) hB).trans h.c4⟩
theorem FrAt.next {w w' : World} {b o : Nat} {fr tu k : Int} {ha : Option Addr} {hn hc : Nat} {oa : Option Addr} {on oc : Nat} (h : FrAt w b o fr tu k ha hn hc oa on oc) (hb : Below w.heap.size w w') : FrAt w' b o fr tu k ha hn hc oa on oc := h.below hb h.lt
theorem FrAt.drew {w : World} {b o : Nat} {fr tu k : Int} {ha : Option Addr} {hn hc : Nat} {oa : Option Addr} {on oc : Nat} (h : FrAt w b o fr tu k ha hn hc oa on oc) : FrAt w.drew b o fr tu k ha hn hc oa on oc := ⟨h.c0, h.c1, h.c2, h.c3, h.c4⟩
theorem FrAt.new (w : World) (fr tu k : Int) (ha : Option Addr) (hn hc : Nat) (oa : Option Addr) (on oc : Nat) : FrAt (w.alloc (.cells #[.int .i64 fr, .int .i64 tu, .int .i64 k, .slice ha hn hc, .slice oa on oc] 39)) w.heap.size 0 fr tu k ha hn hc oa on oc := ⟨by simp, by simp, by simp, by simp, by simp⟩
/-- what a frame's rows are -/
structure FrR (w : World) (ha : Option Addr) (hs : List Int) (hn : Nat) (oa : Option Addr) (os : List OpD) (on : Nat) : Prop where
  rh : RowK .i64 w ha hs
  hl : hn = hs.length
  hm : hs.length ≤ 17592186044416
  ro : RowO w oa os
  ol : on = os.length
  om : os.length * 120 ≤ 140737488355328
theorem FrR.below {w w' : World} {ha : Option Addr} {hs : List Int} {hn : Nat} {oa : Option Addr} {os : List OpD} {on : Nat} (h : FrR w ha hs hn oa os on) (hb : Below w.heap.size w w') : FrR w' ha hs hn oa os on :=
  ⟨h.rh.below hb (Nat.le_refl _), h.hl, h.hm, h.ro.below hb, h.ol, h.om⟩

set_option maxHeartbeats 400000 in
theorem isRep11_any (z : Int) (b : Bool) (h : repB z = b) (w : World) : Calls Tryd.prog 23 #[.int .i64 z] w fun e w' => e = .returned (.bool b) ∧ w = w' := by
  subst h
  by_cases g1 : 0 ≤ z
  · have hd : decide (0 ≤ z) = true := decide_eq_true g1
    by_cases g2 : z < 16
    · have HC : Hid (repB z = true) := by show _ = true; simp [repB]; omega
      have hd2 : decide (z < 16) = true := decide_eq_true g2
      go_enter Tryd.func23, Tryd.ntmps23
      go_wp2
      go_ret
      exact ⟨ret_bool HC.out.symm, rfl⟩
    · have HC : Hid (repB z = false) := by show _ = false; simp [repB]; omega
      have hd2 : decide (z < 16) = false := decide_eq_false g2
      go_enter Tryd.func23, Tryd.ntmps23
      go_wp2
      go_ret
      exact ⟨ret_bool HC.out.symm, rfl⟩
  · have HC : Hid (repB z = false) := by show _ = false; simp [repB]; omega
    have hd : decide (0 ≤ z) = false := decide_eq_false g1
    go_enter Tryd.func23, Tryd.ntmps23
    go_wp2
    go_ret
    exact ⟨ret_bool HC.out.symm, rfl⟩

theorem batB_no {os : List OpD} {i : Nat} {x : OpD} (h : os[i]? = some x) (hx : x.ok = false) : batB os = false := by
  have hm := List.mem_of_getElem? h
  unfold batB
  rw [show os.all OpD.ok = false by rw [List.all_eq_false]; exact ⟨x, hm, by simp [hx]⟩]
  simp
theorem all_take {os : List OpD} {i : Nat} {x : OpD} (h : os[i]? = some x) (hx : x.ok = true) (ha : (os.take i).all OpD.ok = true) : (os.take (i + 1)).all OpD.ok = true := by
  rw [List.take_add_one, h, List.all_append, ha]
  simp [hx]

set_option maxHeartbeats 2000000 in
set_option maxRecDepth 100000 in
theorem isBatch_any (oa : Option Addr) (os : List OpD) (on oc : Nat) (w : World) (ht : Pr.Tab w) (ho : RowO w oa os) (hon : on = os.length) (hom : os.length * 120 ≤ 140737488355328) :
    Calls Tryd.prog 40 #[.slice oa on oc] w (BoolPost w (batB os)) := by
  by_cases g : 1 ≤ os.length ∧ os.length ≤ 8
  · obtain ⟨g1, g2⟩ := g
    have h1 : decide ((on : Int) < 1) = false := decide_eq_false (by omega)
    have h1y : ¬ (on : Int) < 1 := by omega
    have h2 : decide ((8 : Int) < (on : Int)) = false := decide_eq_false (by omega)
    have h2y : ¬ (8 : Int) < (on : Int) := by omega
    have HO := Lib.hid ho
    have HT := Lib.hid ht
    have HN := Lib.hid hon
    have h8 : on ≤ 8 := by omega
    clear ho ht hom
    have HG : Hid (1 ≤ os.length ∧ os.length ≤ 8) := ⟨g1, g2⟩
    clear hon g1 g2
    go_enter Tryd.func40, Tryd.ntmps40
    go_wp2
    go_loopg [15] on (fun g1 v wr => ∃ i : Nat, v = .int .i64 i ∧ i ≤ on ∧ on - i ≤ g1 ∧ Hid (Below w.heap.size w wr ∧ (os.take i).all OpD.ok = true))
    case atStart => exact ⟨0, rfl, by omega, by omega, ⟨Below.refl _ _, by simp⟩⟩
    case round =>
      obtain ⟨i, rfl, hi, hg, HI⟩ := hrel
      by_cases hin : i < on
      · have hinz : (i : Int) < (on : Int) := by omega
        obtain ⟨x, hx⟩ : ∃ x, os[i]? = some x := ⟨_, List.getElem?_eq_getElem (by rw [← HN.out]; exact hin)⟩
        have HX := Lib.hid hx
        obtain ⟨b, off, rfl, da, dc, hat, hrow, hdm⟩ := (HO.out.below HI.out.1) i x hx
        obtain ⟨⟨t, r, ds, kd, nt, nr, pt, pr, s, p, v⟩, q⟩ := x
        simp only at hat hrow hdm
        have HR := Lib.hid hrow
        have HDM := Lib.hid hdm
        clear hx hrow hdm
        obtain ⟨c0, c1, c2, c3, c4, c5, c6, c7, c8, c9, c10, c11⟩ := hat
        generalize hdn : ds.length = dn at *
        have HDN := Lib.hid hdn
        clear hdn
        have HB1 := Lib.hid (box_bel wr (.cells #[.int .i64 t, .int .i64 r, .int .i64 q, .slice da dn dc, .int .i64 kd, .int .i64 nt, .int .i64 nr, .int .i64 pt, .int .i64 pr, .string s, .int .i64 p, .int .i64 v] 27))
        cases hok : opB t r q ds kd nt nr pt pr s p v with
        | true =>
          have C := Lib.hid (check_is t r q da ds dn dc kd nt nr pt pr s p v (wr.alloc (.cells #[.int .i64 t, .int .i64 r, .int .i64 q, .slice da dn dc, .int .i64 kd, .int .i64 nt, .int .i64 nr, .int .i64 pt, .int .i64 pr, .string s, .int .i64 p, .int .i64 v] 27)) ((HT.out.below HI.out.1 HT.out.lt).alloc _) (HR.out.alloc _) HDN.out.symm (by have := HDM.out; have := HDN.out; omega) 0 (by rw [hok]; rfl))
          have HK := Lib.hid (all_take HX.out hok HI.out.2)
          clear hok
          go_wp2_with fail
          refine (C.out).mono ?_
          rintro e w1 ⟨rfl, hb1⟩
          have HB2 := Lib.hid ((HI.out.1.trans (HB1.out.mono HI.out.1.size)).trans (hb1.mono (Nat.le_trans HI.out.1.size HB1.out.size)))
          clear hb1
          go_wp2_with fail
          go_roundg (on - (i + 1))
          case measure => omega
          case rel => exact ⟨i + 1, by go_num, by omega, by omega, ⟨HB2.out, HK.out⟩⟩
        | false =>
          have C := Lib.hid (check_is t r q da ds dn dc kd nt nr pt pr s p v (wr.alloc (.cells #[.int .i64 t, .int .i64 r, .int .i64 q, .slice da dn dc, .int .i64 kd, .int .i64 nt, .int .i64 nr, .int .i64 pt, .int .i64 pr, .string s, .int .i64 p, .int .i64 v] 27)) ((HT.out.below HI.out.1 HT.out.lt).alloc _) (HR.out.alloc _) HDN.out.symm (by have := HDM.out; have := HDN.out; omega) 1 (by rw [hok]; rfl))
          have HK := Lib.hid (batB_no HX.out hok)
          clear hok
          go_wp2_with fail
          refine (C.out).mono ?_
          rintro e w1 ⟨rfl, hb1⟩
          have HB2 := Lib.hid ((HI.out.1.trans (HB1.out.mono HI.out.1.size)).trans (hb1.mono (Nat.le_trans HI.out.1.size HB1.out.size)))
          clear hb1
          go_wp2
          go_ret
          exact ⟨ret_bool HK.out.symm, HB2.out⟩
      · have hinz : ¬ (i : Int) < (on : Int) := by omega
        have HK : Hid (batB os = true) := by
          show _ = true
          have h := HI.out.2
          rw [List.take_of_length_le (by have := HN.out; omega)] at h
          unfold batB
          rw [h, decide_eq_true HG.out]
          rfl
        go_wp2
        go_ret
        exact ⟨ret_bool HK.out.symm, HI.out.1⟩
  · have HK : Hid (batB os = false) := by
      show _ = false
      unfold batB
      rw [decide_eq_false g]
      rfl
    by_cases g1 : (on : Int) < 1
    · have h1 : decide ((on : Int) < 1) = true := decide_eq_true g1
      clear ht ho hon hom g
      go_enter Tryd.func40, Tryd.ntmps40
      go_wp2
      go_ret
      exact ⟨ret_bool HK.out.symm, Below.refl _ _⟩
    · have h1 : decide ((on : Int) < 1) = false := decide_eq_false g1
      have h2y : (8 : Int) < (on : Int) := by omega
      have h2 : decide ((8 : Int) < (on : Int)) = true := decide_eq_true h2y
      clear ht ho hon hom g
      go_enter Tryd.func40, Tryd.ntmps40
      go_wp2
      go_ret
      exact ⟨ret_bool HK.out.symm, Below.refl _ _⟩
end Go.Proofs.YtabbbpmhmlapgaaDoor

/- May a frame be: the program's. -/
namespace Go.Proofs.YtabbbpmhmlapgaaDoor
open Go.RowKit Go.Lib
set_option linter.unusedVariables false


theorem haveCheck_is (a : Option Addr) (l : List Int) (n c : Nat) (w : World) (hr : RowK .i64 w a l) (hn : n = l.length) (hl : l.length ≤ 17592186044416) (b : Bool) (h : Hv.vecB l = b) : Calls Tryd.prog 28 #[.slice a n c] w fun e w' => e = .returned (.int .i64 (errC b)) ∧ w = w' := by
  subst h
  cases h : Hv.vecB l
  · exact Hv.check_no a l n c w hr hn (by omega) h
  · exact Hv.check_yes a l n c w hr hn (by omega) h
set_option maxHeartbeats 1000000 in
set_option maxRecDepth 100000 in
theorem ofKindF_any (fr tu k : Int) (ha : Option Addr) (hs : List Int) (hn hc : Nat) (oa : Option Addr) (os : List OpD) (on oc : Nat) (w : World) (ht : Pr.Tab w) (h : FrR w ha hs hn oa os on) : Calls Tryd.prog 24 #[.agg #[.int .i64 fr, .int .i64 tu, .int .i64 k, .slice ha hn hc, .slice oa on oc]] w (BoolPost w (fkB k hs os)) := by
  have HB := Lib.hid (box_bel w (.cells #[.int .i64 fr, .int .i64 tu, .int .i64 k, .slice ha hn hc, .slice oa on oc] 39))
  by_cases g1 : k = 1
  · subst g1
    cases gv : Hv.vecB hs with
    | true =>
      have C := Lib.hid (haveCheck_is ha hs hn hc (w.alloc (.cells #[.int .i64 fr, .int .i64 tu, .int .i64 1, .slice ha hn hc, .slice oa on oc] 39)) (h.rh.alloc _) h.hl h.hm true gv)
      by_cases g2 : os.length = 0
      · have hon : on = 0 := by have := h.ol; omega
        subst hon
        have HE : Hid (fkB 1 hs os = true) := by show _ = true; simp [fkB, gv, g2]
        clear gv g2 h ht
        go_enter Tryd.func24, Tryd.ntmps24
        go_wp2_with fail
        refine (C.out).mono ?_
        rintro e w1 ⟨rfl, rfl⟩
        go_wp2
        go_ret
        exact ⟨ret_bool HE.out.symm, HB.out⟩
      · have hon : ¬ on = 0 := by have := h.ol; omega
        have honz : ((on : Int) == 0) = false := by simpa using hon
        have honz2 : ¬ (on : Int) = 0 := by omega
        have HE : Hid (fkB 1 hs os = false) := by show _ = false; simp [fkB, gv, g2]
        clear gv g2 h ht
        go_enter Tryd.func24, Tryd.ntmps24
        go_wp2_with fail
        refine (C.out).mono ?_
        rintro e w1 ⟨rfl, rfl⟩
        go_wp2
        go_ret
        exact ⟨ret_bool HE.out.symm, HB.out⟩
    | false =>
      have C := Lib.hid (haveCheck_is ha hs hn hc (w.alloc (.cells #[.int .i64 fr, .int .i64 tu, .int .i64 1, .slice ha hn hc, .slice oa on oc] 39)) (h.rh.alloc _) h.hl h.hm false gv)
      have HE : Hid (fkB 1 hs os = false) := by show _ = false; simp [fkB, gv]
      clear gv h ht
      go_enter Tryd.func24, Tryd.ntmps24
      go_wp2_with fail
      refine (C.out).mono ?_
      rintro e w1 ⟨rfl, rfl⟩
      go_wp2
      go_ret
      exact ⟨ret_bool HE.out.symm, HB.out⟩
  · have g1z : (k == 1) = false := by simpa using g1
    by_cases g2 : k = 2
    · subst g2
      have HA := Lib.hid (FrAt.new w fr tu 2 ha hn hc oa on oc)
      have C := Lib.hid (isBatch_any oa os on oc (w.alloc (.cells #[.int .i64 fr, .int .i64 tu, .int .i64 2, .slice ha hn hc, .slice oa on oc] 39)) (ht.alloc _) (h.ro.alloc _) h.ol h.om)
      cases gb : batB os with
      | true =>
        rw [gb] at C
        by_cases g3 : hs.length = 0
        · have hhn : hn = 0 := by have := h.hl; omega
          subst hhn
          have HE : Hid (fkB 2 hs os = true) := by show _ = true; simp [fkB, gb, g3]
          clear gb g3 h ht
          go_enter Tryd.func24, Tryd.ntmps24
          go_wp2_with fail
          refine (C.out).mono ?_
          rintro e w1 ⟨rfl, hb1⟩
          obtain ⟨c0, c1, c2, c3, c4⟩ := HA.out.next hb1
          have HB1 := Lib.hid (HB.out.trans (hb1.mono HB.out.size))
          clear hb1
          go_wp2
          go_ret
          exact ⟨ret_bool HE.out.symm, HB1.out⟩
        · have hhn : ¬ hn = 0 := by have := h.hl; omega
          have hhz : ((hn : Int) == 0) = false := by simpa using hhn
          have hhz2 : ¬ (hn : Int) = 0 := by omega
          have HE : Hid (fkB 2 hs os = false) := by show _ = false; simp [fkB, gb, g3]
          clear gb g3 h ht
          go_enter Tryd.func24, Tryd.ntmps24
          go_wp2_with fail
          refine (C.out).mono ?_
          rintro e w1 ⟨rfl, hb1⟩
          obtain ⟨c0, c1, c2, c3, c4⟩ := HA.out.next hb1
          have HB1 := Lib.hid (HB.out.trans (hb1.mono HB.out.size))
          clear hb1
          go_wp2
          go_ret
          exact ⟨ret_bool HE.out.symm, HB1.out⟩
      | false =>
        rw [gb] at C
        have HE : Hid (fkB 2 hs os = false) := by show _ = false; simp [fkB, gb]
        clear gb h ht
        go_enter Tryd.func24, Tryd.ntmps24
        go_wp2_with fail
        refine (C.out).mono ?_
        rintro e w1 ⟨rfl, hb1⟩
        have HB1 := Lib.hid (HB.out.trans (hb1.mono HB.out.size))
        clear hb1
        go_wp2
        go_ret
        exact ⟨ret_bool HE.out.symm, HB1.out⟩
    · have g2z : (k == 2) = false := by simpa using g2
      have HE : Hid (fkB k hs os = false) := by show _ = false; simp [fkB, g1, g2]
      clear h ht
      go_enter Tryd.func24, Tryd.ntmps24
      go_wp2
      go_ret
      exact ⟨ret_bool HE.out.symm, HB.out⟩
theorem ofKindF_is (fr tu k : Int) (ha : Option Addr) (hs : List Int) (hn hc : Nat) (oa : Option Addr) (os : List OpD) (on oc : Nat) (w : World) (ht : Pr.Tab w) (h : FrR w ha hs hn oa os on) (b : Bool) (e : fkB k hs os = b) : Calls Tryd.prog 24 #[.agg #[.int .i64 fr, .int .i64 tu, .int .i64 k, .slice ha hn hc, .slice oa on oc]] w (BoolPost w b) := by rw [← e]; exact ofKindF_any fr tu k ha hs hn hc oa os on oc w ht h

theorem frB_split {fr tu k : Int} {hs : List Int} {os : List OpD} {b1 b2 b3 b4 : Bool} (h1 : repB fr = b1) (h2 : repB tu = b2) (h3 : decide (fr ≠ tu) = b3) (h4 : fkB k hs os = b4) : frB fr tu k hs os = (b1 && b2 && b3 && b4) := by
  unfold frB
  rw [h1, h2, h3, h4]
set_option maxHeartbeats 1000000 in
set_option maxRecDepth 100000 in
theorem frCheck_is (fr tu k : Int) (ha : Option Addr) (hs : List Int) (hn hc : Nat) (oa : Option Addr) (os : List OpD) (on oc : Nat) (w : World) (ht : Pr.Tab w) (h : FrR w ha hs hn oa os on) (x : Int) (hx : errC (frB fr tu k hs os) = x) : Calls Tryd.prog 12 #[.agg #[.int .i64 fr, .int .i64 tu, .int .i64 k, .slice ha hn hc, .slice oa on oc]] w (St.IntBel w x) := by
  subst hx
  have HB := Lib.hid (box_bel w (.cells #[.int .i64 fr, .int .i64 tu, .int .i64 k, .slice ha hn hc, .slice oa on oc] 39))
  have C := Lib.hid (fun b e => ofKindF_is fr tu k ha hs hn hc oa os on oc (w.alloc (.cells #[.int .i64 fr, .int .i64 tu, .int .i64 k, .slice ha hn hc, .slice oa on oc] 39)) (ht.alloc _) (h.below (box_bel w _)) b e)
  clear h ht
  cases g1 : repB fr with
  | false =>
    have H1 := Lib.hid (fun W => isRep11_any fr false g1 W)
    have HE : Hid (frB fr tu k hs os = false) := by show _ = false; rw [frB_split g1 rfl rfl rfl]; simp
    rw [HE.out]
    clear g1 C
    go_enter Tryd.func12, Tryd.ntmps12
    go_wp2_with fail
    refine (H1.out _).mono ?_
    rintro e w1 ⟨rfl, rfl⟩
    go_wp2
    go_ret
    exact ⟨rfl, HB.out⟩
  | true =>
    have H1 := Lib.hid (fun W => isRep11_any fr true g1 W)
    cases g2 : repB tu with
    | false =>
      have H2 := Lib.hid (fun W => isRep11_any tu false g2 W)
      have HE : Hid (frB fr tu k hs os = false) := by show _ = false; rw [frB_split g1 g2 rfl rfl]; simp
      rw [HE.out]
      clear g1 g2 C
      go_enter Tryd.func12, Tryd.ntmps12
      go_wp2_with fail
      refine (H1.out _).mono ?_
      rintro e w1 ⟨rfl, rfl⟩
      go_wp2_with fail
      refine (H2.out _).mono ?_
      rintro e w1 ⟨rfl, rfl⟩
      go_wp2
      go_ret
      exact ⟨rfl, HB.out⟩
    | true =>
      have H2 := Lib.hid (fun W => isRep11_any tu true g2 W)
      by_cases g3 : fr = tu
      · have HE : Hid (frB fr tu k hs os = false) := by show _ = false; rw [frB_split g1 g2 (show decide (fr ≠ tu) = false by simp [g3]) rfl]; simp
        rw [HE.out]
        clear g1 g2 C
        subst g3
        go_enter Tryd.func12, Tryd.ntmps12
        go_wp2_with fail
        refine (H1.out _).mono ?_
        rintro e w1 ⟨rfl, rfl⟩
        go_wp2_with fail
        refine (H2.out _).mono ?_
        rintro e w1 ⟨rfl, rfl⟩
        go_wp2
        go_ret
        exact ⟨rfl, HB.out⟩
      · have g3z : (fr == tu) = false := by simpa using g3
        cases g4 : fkB k hs os with
        | true =>
          have HE : Hid (frB fr tu k hs os = true) := by show _ = true; rw [frB_split g1 g2 (show decide (fr ≠ tu) = true by simp [g3]) g4]; simp
          rw [HE.out]
          have H4 := Lib.hid (C.out true g4)
          clear g1 g2 g4 C
          go_enter Tryd.func12, Tryd.ntmps12
          go_wp2_with fail
          refine (H1.out _).mono ?_
          rintro e w1 ⟨rfl, rfl⟩
          go_wp2_with fail
          refine (H2.out _).mono ?_
          rintro e w1 ⟨rfl, rfl⟩
          go_wp2_with fail
          refine (H4.out).mono ?_
          rintro e w1 ⟨rfl, hb1⟩
          have HB1 := Lib.hid (HB.out.trans (hb1.mono HB.out.size))
          clear hb1
          go_wp2
          go_ret
          exact ⟨rfl, HB1.out⟩
        | false =>
          have HE : Hid (frB fr tu k hs os = false) := by show _ = false; rw [frB_split g1 g2 (show decide (fr ≠ tu) = true by simp [g3]) g4]; simp
          rw [HE.out]
          have H4 := Lib.hid (C.out false g4)
          clear g1 g2 g4 C
          go_enter Tryd.func12, Tryd.ntmps12
          go_wp2_with fail
          refine (H1.out _).mono ?_
          rintro e w1 ⟨rfl, rfl⟩
          go_wp2_with fail
          refine (H2.out _).mono ?_
          rintro e w1 ⟨rfl, rfl⟩
          go_wp2_with fail
          refine (H4.out).mono ?_
          rintro e w1 ⟨rfl, hb1⟩
          have HB1 := Lib.hid (HB.out.trans (hb1.mono HB.out.size))
          clear hb1
          go_wp2
          go_ret
          exact ⟨rfl, HB1.out⟩
end Go.Proofs.YtabbbpmhmlapgaaDoor

/- A frame's bytes: mathematics; the program's. -/
namespace Go.Proofs.YtabbbpmhmlapgaaDoor
open Go.RowKit Go.Lib
set_option linter.unusedVariables false


def encR (x : OpD) : List Int := encO x.1.t x.1.r x.1.ds x.1.k x.1.nt x.1.nr x.1.pt x.1.pr x.1.s x.1.p x.1.v
def encOs (os : List OpD) : List Int := os.flatMap encR
theorem encOs_take {os : List OpD} {i : Nat} {x : OpD} (h : os[i]? = some x) : encOs (os.take (i + 1)) = encOs (os.take i) ++ encR x := by
  unfold encOs
  rw [List.take_add_one, h, List.flatMap_append]
  simp
theorem encR_len {x : OpD} (h : x.ok = true) : (encR x).length ≤ 918 := encO_len (q := x.2) h
theorem encOs_len : ∀ {os : List OpD}, os.all OpD.ok = true → (encOs os).length ≤ 918 * os.length
  | [], _ => by simp [encOs]
  | x :: r, h => by
    rw [List.all_cons, Bool.and_eq_true] at h
    have h1 := encR_len h.1
    have h2 := encOs_len h.2
    unfold encOs at h2 ⊢
    rw [List.flatMap_cons, List.length_append, List.length_cons]
    omega
theorem encR_isB (x : OpD) : IsB (encR x) := encO_isB _ _ _ _ _ _ _ _ _ _ _
theorem encOs_isB (os : List OpD) : IsB (encOs os) := fun z hz => by
  unfold encOs at hz
  rw [List.mem_flatMap] at hz
  obtain ⟨x, _, hx⟩ := hz
  exact encR_isB x z hx
/-- the parts of a frame's body -/
def fprt (i : Nat) (fr tu k : Int) (hs : List Int) (os : List OpD) : List Int :=
  match i with
  | 0 => enc fr.toNat
  | 1 => enc tu.toNat
  | 2 => enc k.toNat
  | _ => if k = 1 then encL hs else enc os.length ++ encOs os
def fpre (n : Nat) (fr tu k : Int) (hs : List Int) (os : List OpD) : List Int := (List.range n).flatMap fun i => fprt i fr tu k hs os
theorem fpre_succ (n : Nat) (fr tu k : Int) (hs : List Int) (os : List OpD) : fpre (n + 1) fr tu k hs os = fpre n fr tu k hs os ++ fprt n fr tu k hs os := by simp [fpre, List.range_succ]
/-- a frame's body, its bytes -/
def encF (fr tu k : Int) (hs : List Int) (os : List OpD) : List Int := fpre 4 fr tu k hs os
def byF (fr tu k : Int) (hs : List Int) (os : List OpD) : List Int := be4 (crc (encF fr tu k hs os)) ++ encF fr tu k hs os
theorem frB_parts {fr tu k : Int} {hs : List Int} {os : List OpD} (h : frB fr tu k hs os = true) : repB fr = true ∧ repB tu = true ∧ fr ≠ tu ∧ fkB k hs os = true := by
  simp only [frB, Bool.and_eq_true, decide_eq_true_eq] at h
  exact ⟨h.1.1.1, h.1.1.2, h.1.2, h.2⟩
theorem repB_num {z : Int} (h : repB z = true) : 0 ≤ z ∧ z < 16 := of_decide_eq_true h
theorem fkB_parts {k : Int} {hs : List Int} {os : List OpD} (h : fkB k hs os = true) : (k = 1 ∧ Hv.vecB hs = true ∧ os = []) ∨ (k = 2 ∧ batB os = true ∧ hs = []) := by
  unfold fkB at h
  by_cases g1 : k = 1
  · rw [if_pos g1, Bool.and_eq_true, decide_eq_true_eq] at h
    exact .inl ⟨g1, h.1, List.eq_nil_of_length_eq_zero h.2⟩
  · rw [if_neg g1] at h
    by_cases g2 : k = 2
    · rw [if_pos g2, Bool.and_eq_true, decide_eq_true_eq] at h
      exact .inr ⟨g2, h.1, List.eq_nil_of_length_eq_zero h.2⟩
    · rw [if_neg g2] at h
      cases h
theorem batB_parts {os : List OpD} (h : batB os = true) : 1 ≤ os.length ∧ os.length ≤ 8 ∧ os.all OpD.ok = true := by
  simp only [batB, Bool.and_eq_true, decide_eq_true_eq] at h
  exact ⟨h.1.1, h.1.2, h.2⟩
theorem encL_len16 {l : List Int} (h : Hv.vecB l = true) : (encL l).length ≤ 153 := by
  have h1 := encs_len l (Hv.vec_num h)
  have h2 := Hv.vecB_len h
  have h3 := enc_len9 (n := l.length) (by omega)
  unfold encL
  rw [List.length_append]
  omega
theorem fprt_len {fr tu k : Int} {hs : List Int} {os : List OpD} (h : frB fr tu k hs os = true) (i : Nat) : (fprt i fr tu k hs os).length ≤ 7353 := by
  obtain ⟨h1, h2, h3, h4⟩ := frB_parts h
  have e1 := repB_num h1
  have e2 := repB_num h2
  have e3 : k = 1 ∨ k = 2 := by rcases fkB_parts h4 with h | h <;> omega
  unfold fprt
  split
  · have := enc_len9 (n := fr.toNat) (by omega); omega
  · have := enc_len9 (n := tu.toNat) (by omega); omega
  · have := enc_len9 (n := k.toNat) (by omega); omega
  · rcases fkB_parts h4 with ⟨rfl, g1, g2⟩ | ⟨rfl, g1, g2⟩
    · rw [if_pos rfl]
      have := encL_len16 g1
      omega
    · rw [if_neg (by decide), List.length_append]
      obtain ⟨b1, b2, b3⟩ := batB_parts g1
      have := enc_len9 (n := os.length) (by omega)
      have := encOs_len b3
      omega
theorem fpre_len {fr tu k : Int} {hs : List Int} {os : List OpD} (h : frB fr tu k hs os = true) : ∀ n : Nat, (fpre n fr tu k hs os).length ≤ 7353 * n
  | 0 => by simp [fpre]
  | n + 1 => by
    rw [fpre_succ, List.length_append]
    have h1 := fpre_len h n
    have h2 := fprt_len h n
    omega
theorem fprt_isB (i : Nat) (fr tu k : Int) (hs : List Int) (os : List OpD) : IsB (fprt i fr tu k hs os) := by
  unfold fprt
  split
  · exact enc_isB _
  · exact enc_isB _
  · exact enc_isB _
  · split
    · exact encL_isB _
    · exact (enc_isB _).app (encOs_isB _)
theorem fpre_isB (fr tu k : Int) (hs : List Int) (os : List OpD) : ∀ n : Nat, IsB (fpre n fr tu k hs os)
  | 0 => IsB.nil
  | n + 1 => by rw [fpre_succ]; exact (fpre_isB fr tu k hs os n).app (fprt_isB _ _ _ _ _ _)
theorem encF_isB (fr tu k : Int) (hs : List Int) (os : List OpD) : IsB (encF fr tu k hs os) := fpre_isB fr tu k hs os 4
theorem byF_isB (fr tu k : Int) (hs : List Int) (os : List OpD) : IsB (byF fr tu k hs os) := (be4_isB (crc_lt (encF_isB _ _ _ _ _))).app (encF_isB _ _ _ _ _)
theorem byF_len {fr tu k : Int} {hs : List Int} {os : List OpD} (h : frB fr tu k hs os = true) : (byF fr tu k hs os).length ≤ 29416 := by
  have := fpre_len h 4
  unfold byF encF
  rw [List.length_append, be4_len]
  omega

set_option maxHeartbeats 2000000 in
set_option maxRecDepth 100000 in
theorem opsBytes_any (oa : Option Addr) (os : List OpD) (on oc : Nat) (w : World) (ht : Pr.Tab w) (ho : RowO w oa os) (hon : on = os.length) (h : batB os = true) :
    Calls Tryd.prog 38 #[.slice oa on oc] w (BytesPost w (enc os.length ++ encOs os)) := by
  obtain ⟨b1, b2, b3⟩ := batB_parts h
  have HO := Lib.hid ho
  have HT := Lib.hid ht
  have HN := Lib.hid hon
  have HA := Lib.hid b3
  have H9 := Lib.hid (enc_len9 (n := os.length) (by omega))
  have HLN : Hid (∀ i, (encOs (os.take i)).length ≤ 7344) := fun i => by
    have := encOs_len (os := os.take i) (by rw [List.all_eq_true] at b3 ⊢; exact fun x hx => b3 x (List.mem_of_mem_take hx))
    rw [List.length_take] at this
    omega
  have C := Lib.hid (St.num_z (on : Int) w (by simp [numB]; omega))
  have h8 : on ≤ 8 := by omega
  have HS : Hid ((on : Int).toNat = os.length) := (by omega : (on : Int).toNat = os.length)
  rw [HS.out] at C
  clear ho ht hon h b1 b2 b3 HS
  go_enter Tryd.func38, Tryd.ntmps38
  go_wp2_with fail
  refine (C.out).mono ?_
  rintro e w0 ⟨v0, rfl, ho0, hb0⟩
  have HI0 : Hid (OwnK .u8 5 w0 w.heap.size v0 (enc os.length ++ encOs (os.take 0)) ∧ Below w.heap.size w w0) := ⟨by rw [List.take_zero]; simpa [encOs] using ho0, hb0⟩
  clear ho0 hb0 C
  go_wp2
  go_loopg [4, 21] on (fun g1 v4 v wr => ∃ i : Nat, v = .int .i64 i ∧ i ≤ on ∧ on - i ≤ g1 ∧ Hid (OwnK .u8 5 wr w.heap.size v4 (enc os.length ++ encOs (os.take i)) ∧ Below w.heap.size w wr))
  case atStart => exact ⟨0, rfl, by omega, by omega, HI0⟩
  case round =>
    obtain ⟨i, rfl, hi, hg, HI⟩ := hrel
    by_cases hin : i < on
    · have hinz : (i : Int) < (on : Int) := by omega
      obtain ⟨x, hx⟩ : ∃ x, os[i]? = some x := ⟨_, List.getElem?_eq_getElem (by rw [← HN.out]; exact hin)⟩
      have HX := Lib.hid hx
      obtain ⟨b, off, rfl, da, dc, hat, hrow, hdm⟩ := (HO.out.below HI.out.2) i x hx
      obtain ⟨⟨t, r, ds, kd, nt, nr, pt, pr, s, p, v⟩, q⟩ := x
      simp only at hat hrow hdm
      have HR := Lib.hid hrow
      have HDM := Lib.hid hdm
      have HK : Hid (opB t r q ds kd nt nr pt pr s p v = true) := List.all_eq_true.1 HA.out _ (List.mem_of_getElem? hx)
      clear hx hrow hdm
      obtain ⟨c0, c1, c2, c3, c4, c5, c6, c7, c8, c9, c10, c11⟩ := hat
      generalize hdn : ds.length = dn at *
      have HDN := Lib.hid hdn
      clear hdn
      have HB1 := Lib.hid (box_bel wr (.cells #[.int .i64 t, .int .i64 r, .int .i64 q, .slice da dn dc, .int .i64 kd, .int .i64 nt, .int .i64 nr, .int .i64 pt, .int .i64 pr, .string s, .int .i64 p, .int .i64 v] 27))
      have C := Lib.hid (opBytes_yes t r q da ds dn dc kd nt nr pt pr s p v (wr.alloc (.cells #[.int .i64 t, .int .i64 r, .int .i64 q, .slice da dn dc, .int .i64 kd, .int .i64 nt, .int .i64 nr, .int .i64 pt, .int .i64 pr, .string s, .int .i64 p, .int .i64 v] 27)) ((HT.out.below HI.out.2 HT.out.lt).alloc _) (HR.out.alloc _) HDN.out.symm (by have := HDM.out; have := HDN.out; omega) HK.out)
      have HLE := Lib.hid (encO_len HK.out)
      have HTK : Hid (encOs (os.take (i + 1)) = encOs (os.take i) ++ encO t r ds kd nt nr pt pr s p v) := encOs_take HX.out
      have hsz := HI.out.2.size
      go_wp2_with fail
      refine (C.out).mono ?_
      rintro e w1 ⟨v5, rfl, ho5, hb5⟩
      have hs5 := hb5.size
      have hs6 := HB1.out.size
      have HI1 : Hid (OwnK .u8 5 w1 w.heap.size u4 (enc os.length ++ encOs (os.take i)) ∧ Below w.heap.size w w1) := ⟨(HI.out.1.alloc _).below hb5, (HI.out.2.trans (HB1.out.mono hsz)).trans (hb5.mono (by omega))⟩
      obtain ⟨a5, n5, c5', rfl, hn5, hr5, hc5⟩ := ho5.form'
      have HN5 := Lib.hid hn5
      have HR5 := Lib.hid hr5
      clear ho5 hb5 hn5 hr5 hc5 C
      go_wp2_with (at_builtin
                   refine wpB_row rfl _ _ rfl w.heap.size w1 u4 (enc os.length ++ encOs (os.take i)) (encO t r ds kd nt nr pt pr s p v) a5 n5 c5' HN5.out rfl HI1.out.1 rfl HR5.out (by have h1 := HLE.out; have h2 := HLN.out i; have h3 := H9.out; rw [List.length_append]; omega) (by have := HI1.out.2.size; omega) ?_
                   intro v6 w6 hp6
                   have HI2 : Hid (OwnK .u8 5 w6 w.heap.size v6 (enc os.length ++ encOs (os.take (i + 1))) ∧ Below w.heap.size w w6) := ⟨by rw [HTK.out, ← List.append_assoc]; exact hp6.own, hp6.bel _ _ HI1.out.2 (Nat.le_refl _) HI1.out.2.size⟩
                   clear hp6)
      go_roundg (on - (i + 1))
      case measure => omega
      case rel => exact ⟨i + 1, by go_num, by omega, by omega, HI2⟩
    · have hinz : ¬ (i : Int) < (on : Int) := by omega
      have HF : Hid (OwnK .u8 5 wr w.heap.size u4 (enc os.length ++ encOs os)) := by
        have h1 := HI.out.1
        rw [List.take_of_length_le (by have := HN.out; omega)] at h1
        exact h1
      go_wp2
      go_ret2
      exact ⟨_, rfl, HF.out, HI.out.2⟩

theorem have_bytes (a : Option Addr) (l : List Int) (n c : Nat) (w : World) (hr : RowK .i64 w a l) (hn : n = l.length) (h : Hv.vecB l = true) : Calls Tryd.prog 37 #[.slice a n c] w (BytesPost w (encL l)) := Hv.bytes_yes a l n c w hr hn h

set_option maxHeartbeats 1000000 in
set_option maxRecDepth 100000 in
theorem fieldF_any (fr tu k : Int) (ha : Option Addr) (hs : List Int) (hn hc : Nat) (oa : Option Addr) (os : List OpD) (on oc : Nat) (w : World) (ht : Pr.Tab w) (h : FrR w ha hs hn oa os on) (hf : frB fr tu k hs os = true) (i : Nat) (hi : i < 4) : Calls Tryd.prog 21 #[.agg #[.int .i64 fr, .int .i64 tu, .int .i64 k, .slice ha hn hc, .slice oa on oc], .int .i64 (i : Int)] w (BytesPost w (fprt i fr tu k hs os)) := by
  obtain ⟨h1, h2, h3, h4⟩ := frB_parts hf
  have e1 := repB_num h1
  have e2 := repB_num h2
  have e3 : k = 1 ∨ k = 2 := by rcases fkB_parts h4 with h | h <;> omega
  have HB := Lib.hid (box_bel w (.cells #[.int .i64 fr, .int .i64 tu, .int .i64 k, .slice ha hn hc, .slice oa on oc] 39))
  match i, hi with
  | 0, _ =>
    have C := Lib.hid (St.num_z fr (w.alloc (.cells #[.int .i64 fr, .int .i64 tu, .int .i64 k, .slice ha hn hc, .slice oa on oc] 39)) (by simp [numB]; omega))
    go_enter Tryd.func21, Tryd.ntmps21
    go_wp2_with fail
    refine (C.out).mono ?_
    rintro e w1 ⟨v5, rfl, ho5, hb5⟩
    have HB1 := Lib.hid (HB.out.trans (hb5.mono HB.out.size))
    have HO1 := Lib.hid (ho5.mono HB.out.size)
    clear hb5 ho5
    go_wp2
    go_ret2
    exact ⟨v5, rfl, HO1.out, HB1.out⟩
  | 1, _ =>
    have C := Lib.hid (St.num_z tu (w.alloc (.cells #[.int .i64 fr, .int .i64 tu, .int .i64 k, .slice ha hn hc, .slice oa on oc] 39)) (by simp [numB]; omega))
    go_enter Tryd.func21, Tryd.ntmps21
    go_wp2_with fail
    refine (C.out).mono ?_
    rintro e w1 ⟨v5, rfl, ho5, hb5⟩
    have HB1 := Lib.hid (HB.out.trans (hb5.mono HB.out.size))
    have HO1 := Lib.hid (ho5.mono HB.out.size)
    clear hb5 ho5
    go_wp2
    go_ret2
    exact ⟨v5, rfl, HO1.out, HB1.out⟩
  | 2, _ =>
    have C := Lib.hid (St.num_z k (w.alloc (.cells #[.int .i64 fr, .int .i64 tu, .int .i64 k, .slice ha hn hc, .slice oa on oc] 39)) (by simp [numB]; omega))
    go_enter Tryd.func21, Tryd.ntmps21
    go_wp2_with fail
    refine (C.out).mono ?_
    rintro e w1 ⟨v5, rfl, ho5, hb5⟩
    have HB1 := Lib.hid (HB.out.trans (hb5.mono HB.out.size))
    have HO1 := Lib.hid (ho5.mono HB.out.size)
    clear hb5 ho5
    go_wp2
    go_ret2
    exact ⟨v5, rfl, HO1.out, HB1.out⟩
  | 3, _ =>
    rcases fkB_parts h4 with ⟨rfl, g1, g2⟩ | ⟨rfl, g1, g2⟩
    · show Calls Tryd.prog 21 _ w (BytesPost w (encL hs))
      have C := Lib.hid (have_bytes ha hs hn hc (w.alloc (.cells #[.int .i64 fr, .int .i64 tu, .int .i64 1, .slice ha hn hc, .slice oa on oc] 39)) (h.rh.alloc _) h.hl g1)
      go_enter Tryd.func21, Tryd.ntmps21
      go_wp2_with fail
      refine (C.out).mono ?_
      rintro e w1 ⟨v5, rfl, ho5, hb5⟩
      have HB1 := Lib.hid (HB.out.trans (hb5.mono HB.out.size))
      have HO1 := Lib.hid (ho5.mono HB.out.size)
      clear hb5 ho5
      go_wp2
      go_ret2
      exact ⟨v5, rfl, HO1.out, HB1.out⟩
    · show Calls Tryd.prog 21 _ w (BytesPost w (enc os.length ++ encOs os))
      have C := Lib.hid (opsBytes_any oa os on oc (w.alloc (.cells #[.int .i64 fr, .int .i64 tu, .int .i64 2, .slice ha hn hc, .slice oa on oc] 39)) (ht.alloc _) (h.ro.alloc _) h.ol g1)
      go_enter Tryd.func21, Tryd.ntmps21
      go_wp2_with fail
      refine (C.out).mono ?_
      rintro e w1 ⟨v5, rfl, ho5, hb5⟩
      have HB1 := Lib.hid (HB.out.trans (hb5.mono HB.out.size))
      have HO1 := Lib.hid (ho5.mono HB.out.size)
      clear hb5 ho5
      go_wp2
      go_ret2
      exact ⟨v5, rfl, HO1.out, HB1.out⟩
end Go.Proofs.YtabbbpmhmlapgaaDoor

/- A frame's bytes: the program's. -/
namespace Go.Proofs.YtabbbpmhmlapgaaDoor
open Go.RowKit Go.Lib
set_option linter.unusedVariables false


/-- what the loop over the parts keeps -/
structure FbI (w w' : World) (g : Nat) (fr tu k : Int) (ha : Option Addr) (hn hc : Nat) (oa : Option Addr) (on oc : Nat) (out : Value) (zs : List Int) : Prop where
  at_ : FrAt w' g 0 fr tu k ha hn hc oa on oc
  own : OwnK .u8 5 w' (g + 1) out zs
  bel : Below w.heap.size w w'
  ge : w.heap.size ≤ g
theorem FbI.next {w w1 w2 : World} {g : Nat} {fr tu k : Int} {ha : Option Addr} {hn hc : Nat} {oa : Option Addr} {on oc : Nat} {out : Value} {zs : List Int} (h : FbI w w1 g fr tu k ha hn hc oa on oc out zs) (hb : Below w1.heap.size w1 w2) : FbI w w2 g fr tu k ha hn hc oa on oc out zs :=
  ⟨h.at_.next hb, h.own.below hb, h.bel.trans (hb.mono h.bel.size), h.ge⟩
theorem FbI.grew {w w1 w2 : World} {g : Nat} {fr tu k : Int} {ha : Option Addr} {hn hc : Nat} {oa : Option Addr} {on oc : Nat} {out out' : Value} {zs ys : List Int} (h : FbI w w1 g fr tu k ha hn hc oa on oc out zs) (hg : Grew .u8 5 (g + 1) w1 out zs ys out' w2) : FbI w w2 g fr tu k ha hn hc oa on oc out' (zs ++ ys) := by
  have hb : Below (g + 1) w1 w2 := hg.bel _ _ (Below.refl _ _) (Nat.le_refl _) h.at_.lt
  exact ⟨h.at_.below hb (by omega), hg.own, h.bel.trans (hb.mono (by have := h.ge; omega)), h.ge⟩
def FbJ (w : World) (g : Nat) (fr tu k : Int) (ha : Option Addr) (hs : List Int) (hn hc : Nat) (oa : Option Addr) (os : List OpD) (on oc : Nat) (act : Act) (w' : World) : Prop :=
  ∃ (v4 : Value) (i : Nat) (u2 u3 u6 u7 u8 u9 u10 u11 u12 u13 u14 u15 u16 u17 u18 u19 u20 u21 u22 u23 u24 u25 u26 u27 u28 u29 u30 : Value), act = { tmps := #[.agg #[.int .i64 fr, .int .i64 tu, .int .i64 k, .slice ha hn hc, .slice oa on oc], .pointer (some ⟨g, 0, none⟩), u2, u3, v4, .int .i64 (i : Int), u6, u7, u8, u9, u10, u11, u12, u13, u14, u15, u16, u17, u18, u19, u20, u21, u22, u23, u24, u25, u26, u27, u28, u29, u30], defers := [] } ∧ i < 4 ∧ FbI w w' g fr tu k ha hn hc oa on oc v4 (fpre i fr tu k hs os)

set_option maxHeartbeats 400000 in
theorem frBytes_no (fr tu k : Int) (ha : Option Addr) (hs : List Int) (hn hc : Nat) (oa : Option Addr) (os : List OpD) (on oc : Nat) (w : World) (ht : Pr.Tab w) (h : FrR w ha hs hn oa os on) (hf : frB fr tu k hs os = false) : Calls Tryd.prog 10 #[.agg #[.int .i64 fr, .int .i64 tu, .int .i64 k, .slice ha hn hc, .slice oa on oc]] w (BothPost w [] 1) := by
  have HB := Lib.hid (box_bel w (.cells #[.int .i64 fr, .int .i64 tu, .int .i64 k, .slice ha hn hc, .slice oa on oc] 39))
  have C := Lib.hid (frCheck_is fr tu k ha hs hn hc oa os on oc (w.alloc (.cells #[.int .i64 fr, .int .i64 tu, .int .i64 k, .slice ha hn hc, .slice oa on oc] 39)) (ht.alloc _) (h.below (box_bel w _)) 1 (by rw [hf]; rfl))
  clear ht h hf
  go_enter Tryd.func10, Tryd.ntmps10
  go_wp2
  refine wp_scope_jumps 0 (fun _ _ => False) (fun _ _ => 0) rfl ?_ ?_
  · go_wp2_with fail
    refine (C.out).mono ?_
    rintro e w1 ⟨rfl, hb1⟩
    have HB1 := Lib.hid (HB.out.trans (hb1.mono HB.out.size))
    clear hb1
    go_wp2
    simp only [Exit.jump]
    go_ret2
    exact ⟨_, rfl, OwnK.nil _ _ _ _, HB1.out⟩
  · intro _ _ h
    exact h.elim

set_option maxHeartbeats 4000000 in
set_option maxRecDepth 100000 in
theorem frBytes_yes (fr tu k : Int) (ha : Option Addr) (hs : List Int) (hn hc : Nat) (oa : Option Addr) (os : List OpD) (on oc : Nat) (w : World) (ht : Pr.Tab w) (h : FrR w ha hs hn oa os on) (hf : frB fr tu k hs os = true) : Calls Tryd.prog 10 #[.agg #[.int .i64 fr, .int .i64 tu, .int .i64 k, .slice ha hn hc, .slice oa on oc]] w (BothPost w (byF fr tu k hs os) 0) := by
  have HB := Lib.hid (box_bel w (.cells #[.int .i64 fr, .int .i64 tu, .int .i64 k, .slice ha hn hc, .slice oa on oc] 39))
  have C := Lib.hid (frCheck_is fr tu k ha hs hn hc oa os on oc (w.alloc (.cells #[.int .i64 fr, .int .i64 tu, .int .i64 k, .slice ha hn hc, .slice oa on oc] 39)) (ht.alloc _) (h.below (box_bel w _)) 0 (by rw [hf]; rfl))
  have HI0 : Hid (FbI w (w.alloc (.cells #[.int .i64 fr, .int .i64 tu, .int .i64 k, .slice ha hn hc, .slice oa on oc] 39)) w.heap.size fr tu k ha hn hc oa on oc (.slice none 0 0) (fpre 0 fr tu k hs os)) := ⟨FrAt.new w fr tu k ha hn hc oa on oc, OwnK.nil _ _ _ _, HB.out, Nat.le_refl _⟩
  have HO := Lib.hid hf
  have HT := Lib.hid ht
  have HR := Lib.hid h
  clear ht h hf
  go_enter Tryd.func10, Tryd.ntmps10
  go_wp2
  refine wp_scope_jumps 0 (FbJ w w.heap.size fr tu k ha hs hn hc oa os on oc) (fun a' _ => 4 - intNat (a'.tmps.getD 5 undef)) rfl ?_ ?_
  · go_wp2_with fail
    refine (C.out).mono ?_
    rintro e WX ⟨rfl, hb1⟩
    have HI := Lib.hid (HI0.out.next hb1)
    clear hb1 HI0 HB C
    generalize hgg : w.heap.size = g at *
    have HGG := Lib.hid hgg
    clear hgg
    have HI6 : Hid (0 < 4) := (by omega : 0 < 4)
    have HS := Lib.hid HI.out.bel.size
    obtain ⟨c0, c1, c2, c3, c4⟩ := HI.out.at_
    have FC : Hid (Calls Tryd.prog 21 #[.agg #[.int .i64 fr, .int .i64 tu, .int .i64 k, .slice ha hn hc, .slice oa on oc], .int .i64 0] WX (BytesPost WX (fprt 0 fr tu k hs os))) := fieldF_any fr tu k ha hs hn hc oa os on oc WX (HT.out.below HI.out.bel HT.out.lt) (HR.out.below HI.out.bel) HO.out 0 HI6.out
    go_wp2_with fail
    go_step3
    go_wp2_with fail
    refine (FC.out).mono ?_
    rintro e w9 ⟨v9, rfl, ho9, hb9⟩
    have HI9 := Lib.hid (HI.out.next hb9)
    obtain ⟨a9, n9, c9, rfl, hn9, hr9, hc9⟩ := ho9.form'
    have HN9 := Lib.hid hn9
    have HR9 := Lib.hid hr9
    clear ho9 hb9 hn9 hr9 hc9 c0 c1 c2 c3 c4 FC
    have HLn := Lib.hid (fpre_len HO.out 0)
    have HLp := Lib.hid (fprt_len HO.out 0)
    go_wp2_with (first
      | (at_builtin
         refine wpB_row rfl _ _ rfl (g + 1) w9 (.slice none 0 0) (fpre 0 fr tu k hs os) (fprt 0 fr tu k hs os) a9 n9 c9 HN9.out rfl HI9.out.own rfl HR9.out (by have h1 := HLn.out; have h2 := HLp.out; have h3 := HI6.out; omega) HI9.out.at_.lt ?_
         intro v6 w6 hp6
         have HQ := Lib.hid (HI9.out.grew hp6)
         clear hp6)
      | fail)
    go_step3
    exact ⟨rfl, v6, 1, _, _, _, _, _, _, _, _, _, _, _, _, _, _, _, _, _, _, _, _, _, _, _, _, _, _, _, rfl, by omega, by rw [fpre_succ]; exact HQ.out⟩
  · rintro a' WX ⟨v4, i, u2, u3, u6, u7, u8, u9, u10, u11, u12, u13, u14, u15, u16, u17, u18, u19, u20, u21, u22, u23, u24, u25, u26, u27, u28, u29, u30, rfl, hi6, hI⟩
    have HI := Lib.hid hI
    have HI6 := Lib.hid hi6
    clear hI hi6 HI0 HB C
    generalize hgg : w.heap.size = g at *
    have HGG := Lib.hid hgg
    clear hgg
    have hw1 : wrap64 ((i : Int) + 1) = (i : Int) + 1 := IntWalk.wrap64_in _ (by have := HI6.out; omega)
    have hw2 : IntKind.i64.wrap ((i : Int) + 1) = (i : Int) + 1 := IntWalk.i64_in _ (by have := HI6.out; omega)
    by_cases hlast : i + 1 < 4
    · -- MA
      have hd : decide ((i : Int) + 1 < 4) = true := decide_eq_true (by omega)
      have HS := Lib.hid HI.out.bel.size
      obtain ⟨c0, c1, c2, c3, c4⟩ := HI.out.at_
      have FC : Hid (Calls Tryd.prog 21 #[.agg #[.int .i64 fr, .int .i64 tu, .int .i64 k, .slice ha hn hc, .slice oa on oc], .int .i64 (i : Int)] WX (BytesPost WX (fprt i fr tu k hs os))) := fieldF_any fr tu k ha hs hn hc oa os on oc WX (HT.out.below HI.out.bel HT.out.lt) (HR.out.below HI.out.bel) HO.out i HI6.out
      go_wp2_with fail


      refine (FC.out).mono ?_
      rintro e w9 ⟨v9, rfl, ho9, hb9⟩
      have HI9 := Lib.hid (HI.out.next hb9)
      obtain ⟨a9, n9, c9, rfl, hn9, hr9, hc9⟩ := ho9.form'
      have HN9 := Lib.hid hn9
      have HR9 := Lib.hid hr9
      clear ho9 hb9 hn9 hr9 hc9 c0 c1 c2 c3 c4 FC
      have HLn := Lib.hid (fpre_len HO.out i)
      have HLp := Lib.hid (fprt_len HO.out i)
      go_wp2_with (first
        | (at_builtin
           refine wpB_row rfl _ _ rfl (g + 1) w9 v4 (fpre i fr tu k hs os) (fprt i fr tu k hs os) a9 n9 c9 HN9.out rfl HI9.out.own rfl HR9.out (by have h1 := HLn.out; have h2 := HLp.out; have h3 := HI6.out; omega) HI9.out.at_.lt ?_
           intro v6 w6 hp6
           have HQ := Lib.hid (HI9.out.grew hp6)
           clear hp6)
        | fail)
      go_step3
      refine ⟨rfl, ⟨v6, i + 1, _, _, _, _, _, _, _, _, _, _, _, _, _, _, _, _, _, _, _, _, _, _, _, _, _, _, _, rfl, by omega, by rw [fpre_succ]; exact HQ.out⟩, ?_⟩
      simp [intNat]
      omega
    · -- MB
      have hd : decide ((i : Int) + 1 < 4) = false := decide_eq_false (by omega)
      have HI5 : Hid (i = 3) := (by have := HI6.out; omega : i = 3)
      have HS := Lib.hid HI.out.bel.size
      obtain ⟨c0, c1, c2, c3, c4⟩ := HI.out.at_
      have FC : Hid (Calls Tryd.prog 21 #[.agg #[.int .i64 fr, .int .i64 tu, .int .i64 k, .slice ha hn hc, .slice oa on oc], .int .i64 (i : Int)] WX (BytesPost WX (fprt i fr tu k hs os))) := fieldF_any fr tu k ha hs hn hc oa os on oc WX (HT.out.below HI.out.bel HT.out.lt) (HR.out.below HI.out.bel) HO.out i HI6.out
      go_wp2_with fail


      refine (FC.out).mono ?_
      rintro e w9 ⟨v9, rfl, ho9, hb9⟩
      have HI9 := Lib.hid (HI.out.next hb9)
      obtain ⟨a9, n9, c9, rfl, hn9, hr9, hc9⟩ := ho9.form'
      have HN9 := Lib.hid hn9
      have HR9 := Lib.hid hr9
      clear ho9 hb9 hn9 hr9 hc9 c0 c1 c2 c3 c4 FC
      have HLn := Lib.hid (fpre_len HO.out i)
      have HLp := Lib.hid (fprt_len HO.out i)
      go_wp2_with (first
        | (at_builtin
           refine wpB_row rfl _ _ rfl (g + 1) w9 v4 (fpre i fr tu k hs os) (fprt i fr tu k hs os) a9 n9 c9 HN9.out rfl HI9.out.own rfl HR9.out (by have h1 := HLn.out; have h2 := HLp.out; have h3 := HI6.out; omega) HI9.out.at_.lt ?_
           intro v6 w6 hp6
           have HQ := Lib.hid (HI9.out.grew hp6)
           clear hp6)
        | fail)
      have h5 := HI5.out
      subst h5
      obtain ⟨a6, n6, c6, rfl, hn6, hr6, hc6⟩ := HQ.out.own.form'
      have HE : Hid (fpre 3 fr tu k hs os ++ fprt 3 fr tu k hs os = encF fr tu k hs os) := (fpre_succ 3 fr tu k hs os).symm
      rw [HE.out] at hn6 hr6
      have HN6 := Lib.hid hn6
      have HLF : Hid ((encF fr tu k hs os).length ≤ 29412) := fpre_len HO.out 4
      have HR6 := Lib.hid hr6
      have C5 := Lib.hid (sumBytes_any a6 (encF fr tu k hs os) n6 c6 w6 hn6 hr6 (encF_isB fr tu k hs os) (by have := HLF.out; omega))
      have HQB := Lib.hid HQ.out.bel
      have HQS := Lib.hid HQ.out.bel.size
      clear hn6 hr6 hc6 HQ HI HI9 HN9 HR9
      refine (C5.out).mono ?_
      rintro e w7 ⟨v7, rfl, ho7, hb7⟩
      have HO7 := Lib.hid ho7
      have HB7 := Lib.hid hb7
      have HR7 := Lib.hid (HR6.out.below hb7 (Nat.le_refl _))
      clear ho7 hb7 C5
      go_wp2_with (at_builtin
                   refine wpB_row rfl _ _ rfl w6.heap.size w7 v7 (be4 (crc (encF fr tu k hs os))) (encF fr tu k hs os) a6 n6 c6 HN6.out rfl HO7.out rfl HR7.out (by have h1 := HLF.out; rw [be4_len]; omega) HB7.out.size ?_
                   intro v8 w8 hp8
                   have HO8 := Lib.hid (hp8.own.mono HQS.out)
                   have HB8 := Lib.hid (hp8.bel _ _ (HQB.out.trans (HB7.out.mono HQS.out)) HQS.out (Nat.le_trans HQS.out HB7.out.size))
                   clear hp8)
      simp only [Exit.jump]
      go_ret2
      exact ⟨v8, rfl, HO8.out, HB8.out⟩
end Go.Proofs.YtabbbpmhmlapgaaDoor

/- Rows of operations that the call owns: one more behind them; what they read as. -/
namespace Go.Proofs.YtabbbpmhmlapgaaDoor
open Go.RowKit Go.Lib
set_option linter.unusedVariables false


def cellsO : List OpD → List Value → List Value
  | x :: r, d :: s => x.1.cells x.2 d ++ cellsO r s
  | _, _ => []
theorem cellsO_app : ∀ {os : List OpD} {dl : List Value} (x : OpD) (d : Value), dl.length = os.length → cellsO (os ++ [x]) (dl ++ [d]) = cellsO os dl ++ x.1.cells x.2 d
  | [], [], x, d, _ => by simp [cellsO]
  | _ :: _, [], _, _, h => by simp at h
  | [], _ :: _, _, _, h => by simp at h
  | y :: r, e :: s, x, d, h => by
    rw [List.cons_append, List.cons_append, cellsO, cellsO, cellsO_app x d (by simpa using h), List.append_assoc]
theorem cells12 (x : OpD) (d : Value) : (x.1.cells x.2 d).length = 12 := rfl
theorem cellsO_len : ∀ {os : List OpD} {dl : List Value}, dl.length = os.length → (cellsO os dl).length = os.length * 12
  | [], [], _ => by simp [cellsO]
  | _ :: _, [], h => by simp at h
  | [], _ :: _, h => by simp at h
  | y :: r, e :: s, h => by
    rw [cellsO, List.length_append, cells12, cellsO_len (by simpa using h), List.length_cons]
    omega
theorem cellsO_at : ∀ {os : List OpD} {dl : List Value} (i : Nat) {x : OpD} {d : Value}, os[i]? = some x → dl[i]? = some d → ∀ j u, (x.1.cells x.2 d)[j]? = some u → (cellsO os dl)[i * 12 + j]? = some u
  | [], _, _, _, _, h, _, _, _, _ => by simp at h
  | _ :: _, [], _, _, _, _, h, _, _, _ => by simp at h
  | y :: r, e :: s, 0, x, d, hx, hd, j, u, hu => by
    simp only [List.getElem?_cons_zero, Option.some.injEq] at hx hd
    subst hx; subst hd
    have hj : j < 12 := by have := (List.getElem?_eq_some_iff.1 hu).1; rwa [cells12] at this
    rw [cellsO, Nat.zero_mul, Nat.zero_add, List.getElem?_append_left (by rw [cells12]; exact hj)]
    exact hu
  | y :: r, e :: s, i + 1, x, d, hx, hd, j, u, hu => by
    rw [List.getElem?_cons_succ] at hx hd
    rw [cellsO, List.getElem?_append_right (by rw [cells12]; omega), cells12, show (i + 1) * 12 + j - 12 = i * 12 + j by omega]
    exact cellsO_at i hx hd j u hu

/-- a row of operations that the call owns, with what holds their Deps -/
structure OwnO (w : World) (base : Nat) (v : Value) (os : List OpD) (dl : List Value) : Prop where
  len : dl.length = os.length
  own : w.ownsRow base 27 12 v os.length (cellsO os dl)
theorem OwnO.nil (w : World) (base : Nat) : OwnO w base (.slice none 0 0) [] [] := ⟨rfl, World.ownsRow_nil w base 27 12⟩
theorem OwnO.grown {w w' : World} {base : Nat} {v : Value} {os : List OpD} {dl : List Value} {row : Option Nat} (h : OwnO w base v os dl) (hg : w.grownBy w' row) (hne : v.ownBlock = none ∨ v.ownBlock ≠ row) : OwnO w' base v os dl := ⟨h.len, World.ownsRow.kept h.own hg hne⟩
theorem OwnO.below {w w' : World} {base : Nat} {v : Value} {os : List OpD} {dl : List Value} (h : OwnO w base v os dl) (hb : Below w.heap.size w w') : OwnO w' base v os dl := h.grown (row := none) ⟨hb.os, hb.tape, hb.output, hb.size, fun k hk _ => hb.block k hk⟩ (by cases h : v.ownBlock <;> simp)
theorem OwnO.mono {w : World} {base base' : Nat} {v : Value} {os : List OpD} {dl : List Value} (h : OwnO w base v os dl) (hb : base' ≤ base) : OwnO w base' v os dl := by
  refine ⟨h.len, h.own.1, ?_⟩
  rcases h.own.2 with hn | ⟨g, cap, cur, e, h1, h2⟩
  · exact .inl hn
  · exact .inr ⟨g, cap, cur, e, by omega, h2⟩
theorem OwnO.lt {w : World} {base : Nat} {v : Value} {os : List OpD} {dl : List Value} (h : OwnO w base v os dl) {g : Nat} (hg : v.ownBlock = some g) : base ≤ g ∧ g < w.heap.size := World.ownsRow.lt h.own g hg
theorem OwnO.form {w : World} {base : Nat} {v : Value} {os : List OpD} {dl : List Value} (h : OwnO w base v os dl) : ∃ a n cap, v = .slice a n cap ∧ n = os.length ∧ n ≤ cap ∧ ∀ i x d, os[i]? = some x → dl[i]? = some d → ∃ g, a = some ⟨g, 0, none⟩ ∧ base ≤ g ∧ ∀ j u, (x.1.cells x.2 d)[j]? = some u → w.cell? ⟨g, i * 12 + j, none⟩ = some u := by
  rcases h.own.2 with ⟨rfl, h0⟩ | ⟨g, cap, cur, rfl, hg, hh, hn, hm, hs, ht⟩
  · exact ⟨none, 0, 0, rfl, h0.symm, Nat.le_refl _, fun i x d hi _ => by rw [List.eq_nil_of_length_eq_zero h0] at hi; simp at hi⟩
  · refine ⟨_, _, cap, rfl, rfl, hn, fun i x d hi hd => ⟨g, rfl, hg, fun j u hu => ?_⟩⟩
    have hc := World.ownsRow.cells h.own (g := g) rfl (i * 12 + j) u (cellsO_at i hi hd j u hu)
    rw [addr_add, Nat.zero_add] at hc
    exact hc
/-- what the Deps read as -/
def DepsR (w : World) (os : List OpD) (dl : List Value) : Prop := ∀ (i : Nat) (x : OpD) (d : Value), os[i]? = some x → dl[i]? = some d → ∃ (da : Option Addr) (dc : Nat), d = .slice da x.1.ds.length dc ∧ RowK .i64 w da x.1.ds ∧ x.1.ds.length ≤ 17592186044416
theorem OwnO.row {w : World} {base : Nat} {v : Value} {os : List OpD} {dl : List Value} (h : OwnO w base v os dl) (hd : DepsR w os dl) : ∃ a n cap, v = .slice a n cap ∧ n = os.length ∧ n ≤ cap ∧ RowO w a os := by
  obtain ⟨a, n, cap, e1, e2, e3, hc⟩ := h.form
  refine ⟨a, n, cap, e1, e2, e3, fun i x hi => ?_⟩
  have hi' := (List.getElem?_eq_some_iff.1 hi).1
  obtain ⟨d, hdd⟩ : ∃ d, dl[i]? = some d := ⟨_, List.getElem?_eq_getElem (by rw [h.len]; exact hi')⟩
  obtain ⟨g, rfl, _, hcell⟩ := hc i x d hi hdd
  obtain ⟨da, dc, rfl, hr, hl⟩ := hd i x d hi hdd
  refine ⟨g, 0, rfl, da, dc, ?_, hr, hl⟩
  rw [Nat.zero_add]
  exact ⟨hcell 0 _ rfl, hcell 1 _ rfl, hcell 2 _ rfl, hcell 3 _ rfl, hcell 4 _ rfl, hcell 5 _ rfl, hcell 6 _ rfl, hcell 7 _ rfl, hcell 8 _ rfl, hcell 9 _ rfl, hcell 10 _ rfl, hcell 11 _ rfl⟩
/-- the Deps are the call's own, each in a row of its own -/
structure DepsO (w : World) (base : Nat) (os : List OpD) (dl : List Value) : Prop where
  own : ∀ (i : Nat) (x : OpD) (d : Value), os[i]? = some x → dl[i]? = some d → OwnK .i64 3 w base d x.1.ds ∧ x.1.ds.length ≤ 17592186044416
  apart : dl.Pairwise fun d d' => d.ownBlock = none ∨ d.ownBlock ≠ d'.ownBlock
theorem DepsO.nil (w : World) (base : Nat) : DepsO w base [] [] := ⟨fun i x d h => by simp at h, List.Pairwise.nil⟩
theorem DepsO.read {w : World} {base : Nat} {os : List OpD} {dl : List Value} (h : DepsO w base os dl) : DepsR w os dl := fun i x d hi hd => by
  obtain ⟨h1, h2⟩ := h.own i x d hi hd
  obtain ⟨a, c, e, hr, _⟩ := h1.form
  exact ⟨a, c, e, hr, h2⟩
theorem DepsO.mono {w : World} {base base' : Nat} {os : List OpD} {dl : List Value} (h : DepsO w base os dl) (hb : base' ≤ base) : DepsO w base' os dl := ⟨fun i x d hi hd => ⟨(h.own i x d hi hd).1.mono hb, (h.own i x d hi hd).2⟩, h.apart⟩
theorem DepsO.below {w w' : World} {base : Nat} {os : List OpD} {dl : List Value} (h : DepsO w base os dl) (hb : Below w.heap.size w w') : DepsO w' base os dl := ⟨fun i x d hi hd => ⟨(h.own i x d hi hd).1.below hb, (h.own i x d hi hd).2⟩, h.apart⟩
/-- a row of numbers and a row of operations do not lie in one block -/
theorem apart_types {w : World} {b b' : Nat} {d v : Value} {zs : List Int} {os : List OpD} {dl : List Value} (h : OwnK .i64 3 w b d zs) (k : OwnO w b' v os dl) : d.ownBlock = none ∨ d.ownBlock ≠ v.ownBlock := by
  rcases h.2 with ⟨rfl, _⟩ | ⟨g, cap, cur, rfl, _, hh, _⟩
  · exact .inl rfl
  · right
    rcases k.own.2 with ⟨rfl, _⟩ | ⟨g', cap', cur', rfl, _, hh', _⟩
    · simp [Value.ownBlock]
    · intro e
      simp only [Value.ownBlock, Option.some.injEq] at e
      subst e
      rw [hh] at hh'
      injection hh' with hh'
      injection hh' with _ h2
      exact absurd h2 (by decide)
theorem DepsO.grown {w w' : World} {base b' : Nat} {os os' : List OpD} {dl dl' : List Value} {v : Value} (h : DepsO w base os dl) (k : OwnO w b' v os' dl') (hg : w.grownBy w' v.ownBlock) : DepsO w' base os dl :=
  ⟨fun i x d hi hd => ⟨(h.own i x d hi hd).1.grown hg (apart_types (h.own i x d hi hd).1 k), (h.own i x d hi hd).2⟩, h.apart⟩
theorem DepsO.push {w0 w : World} {base : Nat} {os : List OpD} {dl : List Value} {x : OpD} {d : Value} (h0 : DepsO w0 base os dl) (hlen : dl.length = os.length) (h : DepsO w base os dl) (hx : OwnK .i64 3 w base d x.1.ds) (hl : x.1.ds.length ≤ 17592186044416) (hnew : ∀ g, d.ownBlock = some g → w0.heap.size ≤ g) : DepsO w base (os ++ [x]) (dl ++ [d]) := by
  constructor
  · intro i y e hi he
    by_cases hlt : i < os.length
    · rw [List.getElem?_append_left hlt] at hi
      rw [List.getElem?_append_left (by omega)] at he
      exact h.own i y e hi he
    · rw [List.getElem?_append_right (by omega)] at hi
      rw [List.getElem?_append_right (by omega)] at he
      rw [hlen] at he
      by_cases h0 : i - os.length = 0
      · rw [h0] at hi he
        simp only [List.getElem?_cons_zero, Option.some.injEq] at hi he
        subst hi; subst he
        exact ⟨hx, hl⟩
      · rw [List.getElem?_eq_none (by simp; omega)] at hi
        cases hi
  · rw [List.pairwise_append]
    refine ⟨h.apart, List.pairwise_singleton _ _, fun a ha b hb => ?_⟩
    simp only [List.mem_singleton] at hb
    subst hb
    obtain ⟨i, hi⟩ := List.getElem?_of_mem ha
    have hi' := (List.getElem?_eq_some_iff.1 hi).1
    obtain ⟨y, hy⟩ : ∃ y, os[i]? = some y := ⟨_, List.getElem?_eq_getElem (by omega)⟩
    cases hab : a.ownBlock with
    | none => exact .inl rfl
    | some g =>
      right
      have hlt := ((h0.own i y a hy hi).1.lt hab).2
      intro e
      have := hnew g e.symm
      omega

theorem Tryd.info27 : (Tryd.prog.info? 27).map (fun i => (i.zero, i.size, i.bytes)) = some (some (.agg #[.int .i64 0, .int .i64 0, .int .i64 0, .slice none 0 0, .int .i64 0, .int .i64 0, .int .i64 0, .int .i64 0, .int .i64 0, .string ⟨#[]⟩, .int .i64 0, .int .i64 0]), 12, 120) := by kernel_rfl
/-- one more -/
structure GrewO (base : Nat) (W : World) (v : Value) (os : List OpD) (dl : List Value) (y : OpD) (d : Value) (v' : Value) (w' : World) : Prop where
  own : OwnO w' base v' (os ++ [y]) (dl ++ [d])
  gr : W.grownBy w' v.ownBlock
  old : OwnO W base v os dl
theorem GrewO.bel {base : Nat} {W w' : World} {v v' d : Value} {os : List OpD} {dl : List Value} {y : OpD} (h : GrewO base W v os dl y d v' w') {B : Nat} {a : World} (hb : Below B a W) (h1 : B ≤ base) (h2 : B ≤ W.heap.size) : Below B a w' := by
  refine hb.trans ⟨h.gr.os, h.gr.tape, h.gr.output, h.gr.size, fun k hk => h.gr.block k (by omega) fun e => ?_⟩
  have := (h.old.lt e.symm).1
  omega
theorem GrewO.deps {base b' : Nat} {W w' : World} {v v' d : Value} {os : List OpD} {dl : List Value} {y : OpD} (h : GrewO base W v os dl y d v' w') {os' : List OpD} {dl' : List Value} (hd : DepsO W b' os' dl') : DepsO w' b' os' dl' := hd.grown h.old h.gr
theorem GrewO.row {base b' : Nat} {W w' : World} {v v' d : Value} {os : List OpD} {dl : List Value} {y : OpD} (h : GrewO base W v os dl y d v' w') {e : Value} {zs : List Int} (hd : OwnK .i64 3 W b' e zs) : OwnK .i64 3 w' b' e zs := hd.grown h.gr (apart_types hd h.old)
theorem run_one (base : Nat) (W : World) (v : Value) (os : List OpD) (dl : List Value) (t r q : Int) (da : Option Addr) (ds : List Int) (dn dc : Nat) (kd nt nr pt pr : Int) (s : ByteArray) (p vv : Int) (ty : TypeId) (hown : OwnO W base v os dl) (hlen : (os.length + 1) * 120 ≤ 140737488355328) (hbase : base ≤ W.heap.size) :
    ∃ v' w', (Builtin.append_ #[37, 37] ty #[v, .slice (some ⟨W.heap.size, 0, none⟩) 1 1]).run Tryd.prog (W.alloc (.cells #[.int .i64 t, .int .i64 r, .int .i64 q, .slice da dn dc, .int .i64 kd, .int .i64 nt, .int .i64 nr, .int .i64 pt, .int .i64 pr, .string s, .int .i64 p, .int .i64 vv] 27)) = .ok v' w' ∧
      GrewO base W v os dl (⟨t, r, ds, kd, nt, nr, pt, pr, s, p, vv⟩, q) (.slice da dn dc) v' w' := by
  obtain ⟨i0, hi, hz0, hz1, hz2⟩ := info_parts Tryd.info27
  obtain ⟨v', w', hr, h2, h3, h4, h5⟩ := run_append_own_at (P := Tryd.prog) (W.alloc (.cells #[.int .i64 t, .int .i64 r, .int .i64 q, .slice da dn dc, .int .i64 kd, .int .i64 nt, .int .i64 nr, .int .i64 pt, .int .i64 pr, .string s, .int .i64 p, .int .i64 vv] 27)) base 37 ty 27 i0 _ 12 120 Tryd.underlying37 hi hz0 hz1 hz2 rfl (by decide) v os.length (cellsO os dl) (hown.own.alloc _) ⟨W.heap.size, 0, none⟩ 1 1
    ((⟨t, r, ds, kd, nt, nr, pt, pr, s, p, vv⟩ : OpR).cells q (.slice da dn dc)) (by rfl)
    (by
      intro j u hu
      rw [addr_add, Nat.zero_add]
      have hj := (List.getElem?_eq_some_iff.1 hu).1
      match j, hu with
      | 0, hu | 1, hu | 2, hu | 3, hu | 4, hu | 5, hu | 6, hu | 7, hu | 8, hu | 9, hu | 10, hu | 11, hu => simp only [OpR.cells, List.getElem?_cons_zero, List.getElem?_cons_succ, Option.some.injEq] at hu; subst hu; simp
      | j + 12, hu => simp [OpR.cells] at hu)
    (by intro u hu; simp only [OpR.cells, List.mem_cons, List.not_mem_nil, or_false] at hu; rcases hu with rfl | rfl | rfl | rfl | rfl | rfl | rfl | rfl | rfl | rfl | rfl | rfl <;> rfl)
    (by unfold maxLen; omega) hlen (by rw [World.size_alloc]; omega)
  refine ⟨v', w', hr, ⟨⟨by simp [hown.len], ?_⟩, ?_, hown⟩⟩
  · rw [cellsO_app _ _ hown.len, List.length_append, List.length_singleton]
    exact h2
  · exact (World.grownBy_alloc W _ _).trans h3

set_option maxHeartbeats 400000 in
theorem wpO_one {ops : Array Oper} {rest : List Oper} {o : Oper} {a : Act} {Q : Exit → Act → World → Prop} (hgd : o.guard = none) (s0 x0 : Operand)
    (ho : o.op = .call { callee := .builtin .append, args := #[s0, x0], argTypes := #[37, 37] }) (base : Nat) (W : World) (v : Value) (os : List OpD) (dl : List Value) (t r q : Int) (da : Option Addr) (ds : List Int) (dn dc : Nat) (kd nt nr pt pr : Int) (s : ByteArray) (p vv : Int) (hs : a.eval s0 = v) (hown : OwnO W base v os dl)
    (H : Nat) (hx : a.eval x0 = .slice (some ⟨H, 0, none⟩) 1 1) (hH : W.heap.size = H) (hlen : (os.length + 1) * 120 ≤ 140737488355328) (hbase : base ≤ W.heap.size)
    (h : ∀ v' w', GrewO base W v os dl (⟨t, r, ds, kd, nt, nr, pt, pr, s, p, vv⟩, q) (.slice da dn dc) v' w' → wpList Tryd.prog ops Q rest (a.put o.dst v') w') : wpList Tryd.prog ops Q (o :: rest) a (W.alloc (.cells #[.int .i64 t, .int .i64 r, .int .i64 q, .slice da dn dc, .int .i64 kd, .int .i64 nt, .int .i64 nr, .int .i64 pt, .int .i64 pr, .string s, .int .i64 p, .int .i64 vv] 27)) := by
  subst hH
  refine wpList_plain hgd fun K hK => ?_
  obtain ⟨v', w', hr, hG⟩ := run_one base W v os dl t r q da ds dn dc kd nt nr pt pr s p vv o.type hown hlen hbase
  unfold Oper.wp execOp
  simp only [ho, resolve, invoke, builtin, Sem.run_bind, Sem.run_pure, Result.andThen_ok, List.map_toArray, List.map_cons, List.map_nil, hs, hx, hr]
  exact hK _ _ (h v' w' hG)
end Go.Proofs.YtabbbpmhmlapgaaDoor
