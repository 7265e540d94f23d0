/- Operations: of their kind; Check. -/
import Derived.Test.YtabbbpmhmlapgaaDoorO1
namespace Go.Proofs.YtabbbpmhmlapgaaDoor
open Go.RowKit Go.Lib
set_option linter.unusedVariables false

theorem key_is (s : ByteArray) (x : Int) (h : Ky.errK s = x) (w : World) : Calls Tryd.prog 30 #[.string s] w fun e w' => e = .returned (.int .i64 x) ∧ w = w' := by rw [← h]; exact Ky.check_any s w
theorem prop_is (p v x : Int) (h : Pr.errP p v = x) (w : World) (ht : Pr.Tab w) : Calls Tryd.prog 31 #[.int .i64 p, .int .i64 v] w fun e w' => e = .returned (.int .i64 x) ∧ w = w' := by rw [← h]; exact Pr.check_any p v w ht
theorem errK_yes {s : ByteArray} (h : Ky.keyB (strN s) = true) : Ky.errK s = 0 := by simp [Ky.errK, h]
theorem errK_no {s : ByteArray} (h : Ky.keyB (strN s) = false) : Ky.errK s = 1 := by simp [Ky.errK, h]
theorem st_zero (t r : Int) (b : Bool) (h : decide (t = 0 ∧ r = 0) = b) (W : World) : (binOp .eql 24 (.agg #[.int .i64 t, .int .i64 r]) (.agg #[.int .i64 0, .int .i64 0])).run Tryd.prog W = .ok (.bool b) W := by
  rw [St.st_eql, ← h]
  congr 2
  rw [Bool.eq_iff_iff]
  simp

set_option maxHeartbeats 1000000 in
theorem ofKind1 (t r q : Int) (da : Option Addr) (ds : List Int) (dn dc : Nat) (k nt nr pt pr : Int) (s : ByteArray) (p v : Int) (w : World) (ht : Pr.Tab w) (hk : k = 1) : Calls Tryd.prog 16 #[.agg #[.int .i64 t, .int .i64 r, .int .i64 q, .slice da dn dc, .int .i64 k, .int .i64 nt, .int .i64 nr, .int .i64 pt, .int .i64 pr, .string s, .int .i64 p, .int .i64 v]] w (BoolPost w (kndB k pt pr s p v)) := by
  subst hk
  have HB := Lib.hid (box_bel w (.cells #[.int .i64 t, .int .i64 r, .int .i64 q, .slice da dn dc, .int .i64 1, .int .i64 nt, .int .i64 nr, .int .i64 pt, .int .i64 pr, .string s, .int .i64 p, .int .i64 v] 27))
  have HA := Lib.hid (OpAt.new w t r q da ds dn dc 1 nt nr pt pr s p v)

  cases h1 : St.plB pt pr
  · rw [show kndB 1 pt pr s p v = false by simp [kndB, h1]]
    have C := Lib.hid (fun W => St.place_is pt pr false h1 W)
    clear h1 ht
    go_enter Tryd.func16, Tryd.ntmps16
    go_wp2_with fail
    refine (C.out _).mono ?_
    rintro e w1 ⟨rfl, hb1⟩
    have HB1 := Lib.hid (HB.out.trans (hb1.mono HB.out.size))
    obtain ⟨c0, c1, c2, c3, c4, c5, c6, c7, c8, c9, c10, c11⟩ := HA.out.next hb1
    clear hb1
    go_wp2
    go_ret
    exact ⟨rfl, HB1.out⟩
  · have C := Lib.hid (fun W => St.place_is pt pr true h1 W)
    cases h2 : Ky.keyB (strN s)
    · rw [show kndB 1 pt pr s p v = false by simp [kndB, h2]]
      have D := Lib.hid (fun W => key_is s 1 (errK_no h2) W)
      clear h1 h2 ht
      go_enter Tryd.func16, Tryd.ntmps16
      go_wp2_with fail
      refine (C.out _).mono ?_
      rintro e w1 ⟨rfl, hb1⟩
      have HB1 := Lib.hid (HB.out.trans (hb1.mono HB.out.size))
      obtain ⟨c0, c1, c2, c3, c4, c5, c6, c7, c8, c9, c10, c11⟩ := HA.out.next hb1
      clear hb1
      go_wp2_with fail
      refine (D.out _).mono ?_
      rintro e w2 ⟨rfl, rfl⟩
      go_wp2
      go_ret
      exact ⟨rfl, HB1.out⟩
    · have D := Lib.hid (fun W => key_is s 0 (errK_yes h2) W)
      by_cases h3 : p = 0
      · by_cases h4 : v = 0
        · rw [show kndB 1 pt pr s p v = true by simp [kndB, h1, h2, h3, h4]]
          subst h3 h4
          clear h1 h2 ht
          go_enter Tryd.func16, Tryd.ntmps16
          go_wp2_with fail
          refine (C.out _).mono ?_
          rintro e w1 ⟨rfl, hb1⟩
          have HB1 := Lib.hid (HB.out.trans (hb1.mono HB.out.size))
          obtain ⟨c0, c1, c2, c3, c4, c5, c6, c7, c8, c9, c10, c11⟩ := HA.out.next hb1
          clear hb1
          go_wp2_with fail
          refine (D.out _).mono ?_
          rintro e w2 ⟨rfl, rfl⟩
          go_wp2
          go_ret
          exact ⟨rfl, HB1.out⟩
        · rw [show kndB 1 pt pr s p v = false by simp [kndB, h4]]
          have h4' : (v == 0) = false := by simpa using h4
          subst h3
          clear h1 h2 ht
          go_enter Tryd.func16, Tryd.ntmps16
          go_wp2_with fail
          refine (C.out _).mono ?_
          rintro e w1 ⟨rfl, hb1⟩
          have HB1 := Lib.hid (HB.out.trans (hb1.mono HB.out.size))
          obtain ⟨c0, c1, c2, c3, c4, c5, c6, c7, c8, c9, c10, c11⟩ := HA.out.next hb1
          clear hb1
          go_wp2_with fail
          refine (D.out _).mono ?_
          rintro e w2 ⟨rfl, rfl⟩
          go_wp2
          go_ret
          exact ⟨rfl, HB1.out⟩
      · rw [show kndB 1 pt pr s p v = false by simp [kndB, h3]]
        have h3' : (p == 0) = false := by simpa using h3
        clear h1 h2 ht
        go_enter Tryd.func16, Tryd.ntmps16
        go_wp2_with fail
        refine (C.out _).mono ?_
        rintro e w1 ⟨rfl, hb1⟩
        have HB1 := Lib.hid (HB.out.trans (hb1.mono HB.out.size))
        obtain ⟨c0, c1, c2, c3, c4, c5, c6, c7, c8, c9, c10, c11⟩ := HA.out.next hb1
        clear hb1
        go_wp2_with fail
        refine (D.out _).mono ?_
        rintro e w2 ⟨rfl, rfl⟩
        go_wp2
        go_ret
        exact ⟨rfl, HB1.out⟩

set_option maxHeartbeats 1000000 in
theorem ofKind2 (t r q : Int) (da : Option Addr) (ds : List Int) (dn dc : Nat) (k nt nr pt pr : Int) (s : ByteArray) (p v : Int) (w : World) (ht : Pr.Tab w) (hk : k = 2) : Calls Tryd.prog 16 #[.agg #[.int .i64 t, .int .i64 r, .int .i64 q, .slice da dn dc, .int .i64 k, .int .i64 nt, .int .i64 nr, .int .i64 pt, .int .i64 pr, .string s, .int .i64 p, .int .i64 v]] w (BoolPost w (kndB k pt pr s p v)) := by
  subst hk
  have HB := Lib.hid (box_bel w (.cells #[.int .i64 t, .int .i64 r, .int .i64 q, .slice da dn dc, .int .i64 2, .int .i64 nt, .int .i64 nr, .int .i64 pt, .int .i64 pr, .string s, .int .i64 p, .int .i64 v] 27))

  have hG := St.st_guard
  have hb0 := St.st_build0
  by_cases h1 : Pr.errP p v = 0
  · have D := Lib.hid (prop_is p v 0 h1 _ (ht.alloc (.cells #[.int .i64 t, .int .i64 r, .int .i64 q, .slice da dn dc, .int .i64 2, .int .i64 nt, .int .i64 nr, .int .i64 pt, .int .i64 pr, .string s, .int .i64 p, .int .i64 v] 27)))
    cases h2 : decide (pt = 0 ∧ pr = 0)
    · rw [show kndB 2 pt pr s p v = false by simp [kndB, h2]]
      have hz := st_zero pt pr false h2
      clear h1 h2 ht
      go_enter Tryd.func16, Tryd.ntmps16
      go_wp2_with fail
      refine (D.out).mono ?_
      rintro e w2 ⟨rfl, rfl⟩
      go_wp2
      go_ret
      exact ⟨rfl, HB.out⟩
    · have hz := st_zero pt pr true h2
      by_cases h3 : strN s = []
      · rw [show kndB 2 pt pr s p v = true by simp only [kndB, h1, h2, h3]; rfl]
        obtain ⟨e1, e2⟩ := Ky.emp_yes h3
        clear h1 h2 h3 ht
        go_enter Tryd.func16, Tryd.ntmps16
        go_wp2_with fail
        refine (D.out).mono ?_
        rintro e w2 ⟨rfl, rfl⟩
        go_wp2
        go_ret
        exact ⟨rfl, HB.out⟩
      · rw [show kndB 2 pt pr s p v = false by simp [kndB, h3]]
        obtain ⟨e1, e2⟩ := Ky.emp_no h3
        clear h1 h2 h3 ht
        go_enter Tryd.func16, Tryd.ntmps16
        go_wp2_with fail
        refine (D.out).mono ?_
        rintro e w2 ⟨rfl, rfl⟩
        go_wp2
        go_ret
        exact ⟨rfl, HB.out⟩
  · rw [show kndB 2 pt pr s p v = false by simp [kndB, h1]]
    obtain ⟨x, hx⟩ : ∃ x, Pr.errP p v = x := ⟨_, rfl⟩
    have D := Lib.hid (prop_is p v x hx _ (ht.alloc (.cells #[.int .i64 t, .int .i64 r, .int .i64 q, .slice da dn dc, .int .i64 2, .int .i64 nt, .int .i64 nr, .int .i64 pt, .int .i64 pr, .string s, .int .i64 p, .int .i64 v] 27)))
    have hx' : (x == 0) = false := by rw [← hx]; simpa using h1
    clear h1 hx ht
    go_enter Tryd.func16, Tryd.ntmps16
    go_wp2_with fail
    refine (D.out).mono ?_
    rintro e w2 ⟨rfl, rfl⟩
    go_wp2
    go_ret
    exact ⟨rfl, HB.out⟩

set_option maxHeartbeats 1000000 in
theorem ofKind_any (t r q : Int) (da : Option Addr) (ds : List Int) (dn dc : Nat) (k nt nr pt pr : Int) (s : ByteArray) (p v : Int) (w : World) (ht : Pr.Tab w) : Calls Tryd.prog 16 #[.agg #[.int .i64 t, .int .i64 r, .int .i64 q, .slice da dn dc, .int .i64 k, .int .i64 nt, .int .i64 nr, .int .i64 pt, .int .i64 pr, .string s, .int .i64 p, .int .i64 v]] w (BoolPost w (kndB k pt pr s p v)) := by
  by_cases g1 : k = 1
  · exact ofKind1 t r q da ds dn dc k nt nr pt pr s p v w ht g1
  · by_cases g2 : k = 2
    · exact ofKind2 t r q da ds dn dc k nt nr pt pr s p v w ht g2
    · rw [show kndB k pt pr s p v = false by simp [kndB, g1, g2]]
      have HB := Lib.hid (box_bel w (.cells #[.int .i64 t, .int .i64 r, .int .i64 q, .slice da dn dc, .int .i64 k, .int .i64 nt, .int .i64 nr, .int .i64 pt, .int .i64 pr, .string s, .int .i64 p, .int .i64 v] 27))
      have g1' : (k == 1) = false := by simpa using g1
      have g2' : (k == 2) = false := by simpa using g2
      clear ht
      go_enter Tryd.func16, Tryd.ntmps16
      go_wp2
      go_ret
      exact ⟨rfl, HB.out⟩

theorem stc_is (t r : Int) (x : Int) (h : St.errB (St.stB t r) = x) (w : World) : Calls Tryd.prog 14 #[.agg #[.int .i64 t, .int .i64 r]] w (St.IntBel w x) := by rw [← h]; exact St.check_any t r w
set_option maxHeartbeats 2000000 in
theorem opCheck_any (t r q : Int) (da : Option Addr) (ds : List Int) (dn dc : Nat) (k nt nr pt pr : Int) (s : ByteArray) (p v : Int) (w : World) (ht : Pr.Tab w) (hr : RowK .i64 w da ds) (hn : dn = ds.length) (hl : ds.length ≤ 140737488355328) : Calls Tryd.prog 7 #[.agg #[.int .i64 t, .int .i64 r, .int .i64 q, .slice da dn dc, .int .i64 k, .int .i64 nt, .int .i64 nr, .int .i64 pt, .int .i64 pr, .string s, .int .i64 p, .int .i64 v]] w (St.IntBel w (errC (opB t r q ds k nt nr pt pr s p v))) := by
  have HB := Lib.hid (box_bel w (.cells #[.int .i64 t, .int .i64 r, .int .i64 q, .slice da dn dc, .int .i64 k, .int .i64 nt, .int .i64 nr, .int .i64 pt, .int .i64 pr, .string s, .int .i64 p, .int .i64 v] 27))
  have HA := Lib.hid (OpAt.new w t r q da ds dn dc k nt nr pt pr s p v)
  have hw0 := ht.lt
  have C3 := Lib.hid (fun h0 W (hb : Below w.heap.size w W) => counted_any t r q da ds dn dc k nt nr pt pr s p v W (hr.below hb (Nat.le_refl _)) hn hl h0)
  have C4 := Lib.hid (fun W (hb : Below w.heap.size w W) => ofKind_any t r q da ds dn dc k nt nr pt pr s p v W (ht.below hb hw0))
  clear hr hn hl ht hw0
  cases h1 : St.stB t r
  · rw [show errC (opB t r q ds k nt nr pt pr s p v) = 1 by simp [opB, h1, errC]]
    have C1 := Lib.hid (fun W => stc_is t r 1 (by rw [h1]; rfl) W)
    clear h1 C3 C4
    go_enter Tryd.func7, Tryd.ntmps7
    go_wp2_with fail
    refine (C1.out _).mono ?_
    rintro e w1 ⟨rfl, hb1⟩
    have HA1 := Lib.hid (HA.out.next hb1)
    have HB1 := Lib.hid (HB.out.trans (hb1.mono HB.out.size))
    obtain ⟨c0, c1, c2, c3, c4, c5, c6, c7, c8, c9, c10, c11⟩ := HA1.out
    clear hb1
    go_wp2
    go_ret
    exact ⟨rfl, HB1.out⟩
  · have C1 := Lib.hid (fun W => stc_is t r 0 (by rw [h1]; rfl) W)
    have C3 := Lib.hid (C3.out h1)
    cases h2 : St.stB nt nr
    · rw [show errC (opB t r q ds k nt nr pt pr s p v) = 1 by simp [opB, h2, errC]]
      have C2 := Lib.hid (fun W => stc_is nt nr 1 (by rw [h2]; rfl) W)
      clear h1 h2 C3 C4
      go_enter Tryd.func7, Tryd.ntmps7
      go_wp2_with fail
      refine (C1.out _).mono ?_
      rintro e w1 ⟨rfl, hb1⟩
      have HA1 := Lib.hid (HA.out.next hb1)
      have HB1 := Lib.hid (HB.out.trans (hb1.mono HB.out.size))
      obtain ⟨c0, c1, c2, c3, c4, c5, c6, c7, c8, c9, c10, c11⟩ := HA1.out
      clear hb1
      go_wp2_with fail
      refine (C2.out _).mono ?_
      rintro e w2 ⟨rfl, hb2⟩
      have HA2 := Lib.hid (HA1.out.next hb2)
      have HB2 := Lib.hid (HB1.out.trans (hb2.mono HB1.out.size))
      clear c0 c1 c2 c3 c4 c5 c6 c7 c8 c9 c10 c11
      obtain ⟨c0, c1, c2, c3, c4, c5, c6, c7, c8, c9, c10, c11⟩ := HA2.out
      clear hb2
      go_wp2
      go_ret
      exact ⟨rfl, HB2.out⟩
    · have C2 := Lib.hid (fun W => stc_is nt nr 0 (by rw [h2]; rfl) W)
      cases h3 : cntB r q ds
      · rw [show errC (opB t r q ds k nt nr pt pr s p v) = 1 by simp [opB, h3, errC]]
        rw [h3] at C3
        clear h1 h2 h3 C4
        go_enter Tryd.func7, Tryd.ntmps7
        go_wp2_with fail
        refine (C1.out _).mono ?_
        rintro e w1 ⟨rfl, hb1⟩
        have HA1 := Lib.hid (HA.out.next hb1)
        have HB1 := Lib.hid (HB.out.trans (hb1.mono HB.out.size))
        obtain ⟨c0, c1, c2, c3, c4, c5, c6, c7, c8, c9, c10, c11⟩ := HA1.out
        clear hb1
        go_wp2_with fail
        refine (C2.out _).mono ?_
        rintro e w2 ⟨rfl, hb2⟩
        have HA2 := Lib.hid (HA1.out.next hb2)
        have HB2 := Lib.hid (HB1.out.trans (hb2.mono HB1.out.size))
        clear c0 c1 c2 c3 c4 c5 c6 c7 c8 c9 c10 c11
        obtain ⟨c0, c1, c2, c3, c4, c5, c6, c7, c8, c9, c10, c11⟩ := HA2.out
        clear hb2
        go_wp2_with fail
        refine (C3.out _ HB2.out).mono ?_
        rintro e w3 ⟨rfl, hb3⟩
        have HA3 := Lib.hid (HA2.out.next hb3)
        have HB3 := Lib.hid (HB2.out.trans (hb3.mono HB2.out.size))
        clear c0 c1 c2 c3 c4 c5 c6 c7 c8 c9 c10 c11
        obtain ⟨c0, c1, c2, c3, c4, c5, c6, c7, c8, c9, c10, c11⟩ := HA3.out
        clear hb3
        go_wp2
        go_ret
        exact ⟨rfl, HB3.out⟩
      · rw [h3] at C3
        cases h4 : kndB k pt pr s p v
        · rw [show errC (opB t r q ds k nt nr pt pr s p v) = 1 by simp [opB, h4, errC]]
          rw [h4] at C4
          clear h1 h2 h3 h4
          go_enter Tryd.func7, Tryd.ntmps7
          go_wp2_with fail
          refine (C1.out _).mono ?_
          rintro e w1 ⟨rfl, hb1⟩
          have HA1 := Lib.hid (HA.out.next hb1)
          have HB1 := Lib.hid (HB.out.trans (hb1.mono HB.out.size))
          obtain ⟨c0, c1, c2, c3, c4, c5, c6, c7, c8, c9, c10, c11⟩ := HA1.out
          clear hb1
          go_wp2_with fail
          refine (C2.out _).mono ?_
          rintro e w2 ⟨rfl, hb2⟩
          have HA2 := Lib.hid (HA1.out.next hb2)
          have HB2 := Lib.hid (HB1.out.trans (hb2.mono HB1.out.size))
          clear c0 c1 c2 c3 c4 c5 c6 c7 c8 c9 c10 c11
          obtain ⟨c0, c1, c2, c3, c4, c5, c6, c7, c8, c9, c10, c11⟩ := HA2.out
          clear hb2
          go_wp2_with fail
          refine (C3.out _ HB2.out).mono ?_
          rintro e w3 ⟨rfl, hb3⟩
          have HA3 := Lib.hid (HA2.out.next hb3)
          have HB3 := Lib.hid (HB2.out.trans (hb3.mono HB2.out.size))
          clear c0 c1 c2 c3 c4 c5 c6 c7 c8 c9 c10 c11
          obtain ⟨c0, c1, c2, c3, c4, c5, c6, c7, c8, c9, c10, c11⟩ := HA3.out
          clear hb3
          go_wp2_with fail
          refine (C4.out _ HB3.out).mono ?_
          rintro e w4 ⟨rfl, hb4⟩
          have HB4 := Lib.hid (HB3.out.trans (hb4.mono HB3.out.size))
          clear hb4
          go_wp2
          go_ret
          exact ⟨rfl, HB4.out⟩
        · rw [show errC (opB t r q ds k nt nr pt pr s p v) = 0 by simp [opB, h1, h2, h3, h4, errC]]
          rw [h4] at C4
          clear h1 h2 h3 h4
          go_enter Tryd.func7, Tryd.ntmps7
          go_wp2_with fail
          refine (C1.out _).mono ?_
          rintro e w1 ⟨rfl, hb1⟩
          have HA1 := Lib.hid (HA.out.next hb1)
          have HB1 := Lib.hid (HB.out.trans (hb1.mono HB.out.size))
          obtain ⟨c0, c1, c2, c3, c4, c5, c6, c7, c8, c9, c10, c11⟩ := HA1.out
          clear hb1
          go_wp2_with fail
          refine (C2.out _).mono ?_
          rintro e w2 ⟨rfl, hb2⟩
          have HA2 := Lib.hid (HA1.out.next hb2)
          have HB2 := Lib.hid (HB1.out.trans (hb2.mono HB1.out.size))
          clear c0 c1 c2 c3 c4 c5 c6 c7 c8 c9 c10 c11
          obtain ⟨c0, c1, c2, c3, c4, c5, c6, c7, c8, c9, c10, c11⟩ := HA2.out
          clear hb2
          go_wp2_with fail
          refine (C3.out _ HB2.out).mono ?_
          rintro e w3 ⟨rfl, hb3⟩
          have HA3 := Lib.hid (HA2.out.next hb3)
          have HB3 := Lib.hid (HB2.out.trans (hb3.mono HB2.out.size))
          clear c0 c1 c2 c3 c4 c5 c6 c7 c8 c9 c10 c11
          obtain ⟨c0, c1, c2, c3, c4, c5, c6, c7, c8, c9, c10, c11⟩ := HA3.out
          clear hb3
          go_wp2_with fail
          refine (C4.out _ HB3.out).mono ?_
          rintro e w4 ⟨rfl, hb4⟩
          have HB4 := Lib.hid (HB3.out.trans (hb4.mono HB3.out.size))
          clear hb4
          go_wp2
          go_ret
          exact ⟨rfl, HB4.out⟩
end Go.Proofs.YtabbbpmhmlapgaaDoor

