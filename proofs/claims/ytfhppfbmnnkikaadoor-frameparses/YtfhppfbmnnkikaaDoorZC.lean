/- Joined: O1 O2 O3 O4. -/
import Derived.Test.YtfhppfbmnnkikaaDoorZB

/- Operations: words; which part is which; whether an operation is counted, and of its kind. -/
namespace Go.Proofs.YtfhppfbmnnkikaaDoor
open Go.RowKit Go.Lib
set_option linter.unusedVariables false

/-- Deps, Stamp's Rep and Seq fit -/
def cntB (r q : Int) (ds : List Int) : Bool := Hv.vecB ds && decide (r < ds.length) && decide (1 ≤ q) && decide (q ≤ 1099511627776) && decide (q = ds.getD r.toNat 0 + 1)
/-- what a kind asks for, and nothing of the other kind's -/
def kndB (k pt pr : Int) (s : ByteArray) (p v : Int) : Bool :=
  if k = 1 then St.plB pt pr && Ky.keyB (strN s) && decide (p = 0) && decide (v = 0) else if k = 2 then decide (Pr.errP p v = 0) && decide (pt = 0 ∧ pr = 0) && decide (strN s = []) else false
/-- an operation that may be -/
def opB (t r q : Int) (ds : List Int) (k nt nr pt pr : Int) (s : ByteArray) (p v : Int) : Bool := St.stB t r && St.stB nt nr && cntB r q ds && kndB k pt pr s p v

/-- an operation at a place -/
structure OpAt (w : World) (b o : Nat) (t r q : Int) (da : Option Addr) (dn dc : Nat) (k nt nr pt pr : Int) (s : ByteArray) (p v : Int) : Prop where
  c0 : w.cell? ⟨b, o, none⟩ = some (.int .i64 t)
  c1 : w.cell? ⟨b, o + 1, none⟩ = some (.int .i64 r)
  c2 : w.cell? ⟨b, o + 2, none⟩ = some (.int .i64 q)
  c3 : w.cell? ⟨b, o + 3, none⟩ = some (.slice da dn dc)
  c4 : w.cell? ⟨b, o + 4, none⟩ = some (.int .i64 k)
  c5 : w.cell? ⟨b, o + 5, none⟩ = some (.int .i64 nt)
  c6 : w.cell? ⟨b, o + 6, none⟩ = some (.int .i64 nr)
  c7 : w.cell? ⟨b, o + 7, none⟩ = some (.int .i64 pt)
  c8 : w.cell? ⟨b, o + 8, none⟩ = some (.int .i64 pr)
  c9 : w.cell? ⟨b, o + 9, none⟩ = some (.string s)
  c10 : w.cell? ⟨b, o + 10, none⟩ = some (.int .i64 p)
  c11 : w.cell? ⟨b, o + 11, none⟩ = some (.int .i64 v)
theorem OpAt.lt {w : World} {b o : Nat} {t r q : Int} {da : Option Addr} {dn dc : Nat} {k nt nr pt pr : Int} {s : ByteArray} {p v : Int} (h : OpAt w b o t r q da dn dc k nt nr pt pr s p v) : b < w.heap.size := World.block_lt_of_cell? _ _ h.c0
theorem OpAt.below {w w' : World} {b o B : Nat} {t r q : Int} {da : Option Addr} {dn dc : Nat} {k nt nr pt pr : Int} {s : ByteArray} {p v : Int} (h : OpAt w b o t r q da dn dc k nt nr pt pr s p v) (hb : Below B w w') (hB : b < B) : OpAt w' b o t r q da dn dc k nt nr pt pr s p v :=
  ⟨(hb.cell (p := ⟨b, o, none⟩) hB).trans h.c0, (hb.cell (p := ⟨b, o + 1, none⟩) hB).trans h.c1, (hb.cell (p := ⟨b, o + 2, none⟩) hB).trans h.c2, (hb.cell (p := ⟨b, o + 3, none⟩) hB).trans h.c3, (hb.cell (p := ⟨b, o + 4, none⟩) hB).trans h.c4, (hb.cell (p := ⟨b, o + 5, none⟩) hB).trans h.c5, (hb.cell (p := ⟨b, o + 6, none⟩) hB).trans h.c6, (hb.cell (p := ⟨b, o + 7, none⟩) hB).trans h.c7, (hb.cell (p := ⟨b, o + 8, none⟩) hB).trans h.c8, (hb.cell (p := ⟨b, o + 9, none⟩) hB).trans h.c9, (hb.cell (p := ⟨b, o + 10, none⟩) hB).trans h.c10, (hb.cell (p := ⟨b, o + 11, none⟩) hB).trans h.c11⟩
theorem OpAt.next {w w' : World} {b o : Nat} {t r q : Int} {da : Option Addr} {dn dc : Nat} {k nt nr pt pr : Int} {s : ByteArray} {p v : Int} (h : OpAt w b o t r q da dn dc k nt nr pt pr s p v) (hb : Below w.heap.size w w') : OpAt w' b o t r q da dn dc k nt nr pt pr s p v := h.below hb h.lt
theorem OpAt.drewN {w : World} {b o : Nat} {t r q : Int} {da : Option Addr} {dn dc : Nat} {k nt nr pt pr : Int} {s : ByteArray} {p v : Int} (h : OpAt w b o t r q da dn dc k nt nr pt pr s p v) (n : Nat) : OpAt (w.drewN n) b o t r q da dn dc k nt nr pt pr s p v := ⟨h.c0, h.c1, h.c2, h.c3, h.c4, h.c5, h.c6, h.c7, h.c8, h.c9, h.c10, h.c11⟩
theorem OpAt.drew {w : World} {b o : Nat} {t r q : Int} {da : Option Addr} {dn dc : Nat} {k nt nr pt pr : Int} {s : ByteArray} {p v : Int} (h : OpAt w b o t r q da dn dc k nt nr pt pr s p v) : OpAt w.drew b o t r q da dn dc k nt nr pt pr s p v := ⟨h.c0, h.c1, h.c2, h.c3, h.c4, h.c5, h.c6, h.c7, h.c8, h.c9, h.c10, h.c11⟩
theorem OpAt.new (w : World) (t r q : Int) (da : Option Addr) (ds : List Int) (dn dc : Nat) (k nt nr pt pr : Int) (s : ByteArray) (p v : Int) : OpAt (w.alloc (.cells #[.int .i64 t, .int .i64 r, .int .i64 q, .slice da dn dc, .int .i64 k, .int .i64 nt, .int .i64 nr, .int .i64 pt, .int .i64 pr, .string s, .int .i64 p, .int .i64 v] 27)) w.heap.size 0 t r q da dn dc k nt nr pt pr s p v := ⟨by simp, by simp, by simp, by simp, by simp, by simp, by simp, by simp, by simp, by simp, by simp, by simp⟩
theorem box_bel (w : World) (o : Obj) : Below w.heap.size w (w.alloc o) := (Below.refl _ _).alloc (Nat.le_refl _) _

theorem stB_rep {t r : Int} (h : St.stB t r = true) : 0 ≤ r ∧ r < 16 := by simp [St.stB] at h; omega

set_option maxHeartbeats 400000 in
theorem fieldAt_any (i k : Int) (w : World) (h0 : 0 ≤ i) (h1 : i < 6) : Calls Tryd.prog 63 #[.int .i64 i, .int .i64 k] w fun e w' => e = .returned (.int .i64 (if 3 < i ∧ k = 2 then i + 2 else i)) ∧ w = w' := by
  by_cases g1 : 3 < i
  · by_cases g2 : k = 2
    · subst g2
      rw [if_pos ⟨g1, rfl⟩]
      go_enter Tryd.func63, Tryd.ntmps63
      go_wp2
      go_ret
      exact ⟨ret_int (by omega), rfl⟩
    · rw [if_neg (by omega)]
      have g2' : (k == 2) = false := by simpa using g2
      go_enter Tryd.func63, Tryd.ntmps63
      go_wp2
      go_ret
      exact ⟨rfl, rfl⟩
  · rw [if_neg (by omega)]
    go_enter Tryd.func63, Tryd.ntmps63
    go_wp2
    go_ret
    exact ⟨rfl, rfl⟩

set_option maxHeartbeats 1000000 in
theorem counted_any (t r q : Int) (da : Option Addr) (ds : List Int) (dn dc : Nat) (k nt nr pt pr : Int) (s : ByteArray) (p v : Int) (w : World) (hr : RowK .i64 w da ds) (hn : dn = ds.length) (hl : ds.length ≤ 140737488355328) (h0 : St.stB t r = true) : Calls Tryd.prog 29 #[.agg #[.int .i64 t, .int .i64 r, .int .i64 q, .slice da dn dc, .int .i64 k, .int .i64 nt, .int .i64 nr, .int .i64 pt, .int .i64 pr, .string s, .int .i64 p, .int .i64 v]] w (BoolPost w (cntB r q ds)) := by
  obtain ⟨hr0, hr1⟩ := stB_rep h0
  clear h0
  by_cases g1 : Hv.vecB ds = true
  · have C := Lib.hid (Hv.check_yes da ds dn dc (w.alloc (.cells #[.int .i64 t, .int .i64 r, .int .i64 q, .slice da dn dc, .int .i64 k, .int .i64 nt, .int .i64 nr, .int .i64 pt, .int .i64 pr, .string s, .int .i64 p, .int .i64 v] 27)) (hr.alloc _) hn hl g1)
    have HB := Lib.hid (box_bel w (.cells #[.int .i64 t, .int .i64 r, .int .i64 q, .slice da dn dc, .int .i64 k, .int .i64 nt, .int .i64 nr, .int .i64 pt, .int .i64 pr, .string s, .int .i64 p, .int .i64 v] 27))
    by_cases g2 : r < ds.length
    · have hd2 : decide ((dn : Int) ≤ r) = false := decide_eq_false (by omega)
      have hd2' : ¬ (dn : Int) ≤ r := by omega
      obtain ⟨rn, rfl⟩ : ∃ rn : Nat, r = rn := ⟨r.toNat, by omega⟩
      have hrn : rn < dn := by omega
      obtain ⟨b, off, rfl, hc⟩ := hr rn (by omega)
      have hlt := World.block_lt_of_cell? _ _ hc
      have hc' : (w.alloc (.cells #[.int .i64 t, .int .i64 (rn : Int), .int .i64 q, .slice (some ⟨b, off, none⟩) dn dc, .int .i64 k, .int .i64 nt, .int .i64 nr, .int .i64 pt, .int .i64 pr, .string s, .int .i64 p, .int .i64 v] 27)).cell? ⟨b, off + rn, none⟩ = some (.int .i64 (ds.getD rn 0)) := ((box_bel w _).cell (p := ⟨b, off + rn, none⟩) hlt).trans hc
      have hx := Hv.vecB_at g1 (k := rn) (by omega)
      have hwx : wrap64 (ds.getD rn 0 + 1) = ds.getD rn 0 + 1 := IntWalk.wrap64_in _ (by omega)
      have hw2 : IntKind.i64.wrap (ds.getD rn 0 + 1) = ds.getD rn 0 + 1 := IntWalk.i64_in _ (by omega)
      have hE : cntB rn q ds = (decide (1 ≤ q) && decide (q ≤ 1099511627776) && decide (q = ds.getD rn 0 + 1)) := by
        have : (rn : Int) < (ds.length : Int) := by omega
        simp [cntB, g1, this]
      clear hc hlt hr hl g1 g2 hr0 hr1 hn
      rw [hE]
      clear hE
      generalize ds.getD rn 0 = x at *
      by_cases g3 : 1 ≤ q
      · by_cases g4 : q ≤ 1099511627776
        · by_cases g5 : q = x + 1
          · have hd5 : (q == x + 1) = true := by simpa using g5
            have hE : (decide (1 ≤ q) && decide (q ≤ 1099511627776) && decide (q = x + 1)) = true := by rw [decide_eq_true g3, decide_eq_true g4, decide_eq_true g5]; rfl
            rw [hE]
            clear g5
            clear hE
            go_enter Tryd.func29, Tryd.ntmps29
            go_wp2_with fail
            refine (C.out).mono ?_
            rintro e w' ⟨rfl, rfl⟩
            go_wp2_with fail
            go_quiet (fail)
            go_wp2
            go_ret
            exact ⟨rfl, below_drewN HB.out _⟩
          · have hd5 : (q == x + 1) = false := by simpa using g5
            have hE : (decide (1 ≤ q) && decide (q ≤ 1099511627776) && decide (q = x + 1)) = false := by simp [g5]
            rw [hE]
            clear hE
            go_enter Tryd.func29, Tryd.ntmps29
            go_wp2_with fail
            refine (C.out).mono ?_
            rintro e w' ⟨rfl, rfl⟩
            go_wp2_with fail
            go_quiet (fail)
            go_wp2
            go_ret
            exact ⟨rfl, below_drewN HB.out _⟩
        · have hd4 : decide (q ≤ 1099511627776) = false := decide_eq_false g4
          have hE : (decide (1 ≤ q) && decide (q ≤ 1099511627776) && decide (q = x + 1)) = false := by simp [hd4]
          rw [hE]
          clear hE
          go_enter Tryd.func29, Tryd.ntmps29
          go_wp2_with fail
          refine (C.out).mono ?_
          rintro e w' ⟨rfl, rfl⟩
          go_wp2_with fail
          go_quiet (fail)
          go_wp2
          go_ret
          exact ⟨rfl, below_drewN HB.out _⟩
      · have hd3 : decide (1 ≤ q) = false := decide_eq_false g3
        have hE : (decide (1 ≤ q) && decide (q ≤ 1099511627776) && decide (q = x + 1)) = false := by simp [hd3]
        rw [hE]
        clear hE
        go_enter Tryd.func29, Tryd.ntmps29
        go_wp2_with fail
        refine (C.out).mono ?_
        rintro e w' ⟨rfl, rfl⟩
        go_wp2_with fail
        go_quiet (fail)
        go_wp2
        go_ret
        exact ⟨rfl, below_drewN HB.out _⟩
    · have hE : cntB r q ds = false := by simp [cntB, g2]
      rw [hE]
      have hd2 : decide ((dn : Int) ≤ r) = true := decide_eq_true (by omega)
      have hd2' : (dn : Int) ≤ r := by omega
      clear hE hr hl hn g1 g2
      go_enter Tryd.func29, Tryd.ntmps29
      go_wp2_with fail
      refine (C.out).mono ?_
      rintro e w' ⟨rfl, rfl⟩
      go_wp2
      go_ret
      exact ⟨rfl, HB.out⟩
  · have g1' : Hv.vecB ds = false := by simpa using g1
    have hE : cntB r q ds = false := by simp [cntB, g1']
    rw [hE]
    have C := Lib.hid (Hv.check_no da ds dn dc (w.alloc (.cells #[.int .i64 t, .int .i64 r, .int .i64 q, .slice da dn dc, .int .i64 k, .int .i64 nt, .int .i64 nr, .int .i64 pt, .int .i64 pr, .string s, .int .i64 p, .int .i64 v] 27)) (hr.alloc _) hn hl g1')
    have HB := Lib.hid (box_bel w (.cells #[.int .i64 t, .int .i64 r, .int .i64 q, .slice da dn dc, .int .i64 k, .int .i64 nt, .int .i64 nr, .int .i64 pt, .int .i64 pr, .string s, .int .i64 p, .int .i64 v] 27))
    clear hE hr hl hn g1 g1'
    go_enter Tryd.func29, Tryd.ntmps29
    go_wp2_with fail
    refine (C.out).mono ?_
    rintro e w' ⟨rfl, rfl⟩
    go_wp2
    go_ret
    exact ⟨rfl, HB.out⟩
end Go.Proofs.YtfhppfbmnnkikaaDoor

/- Operations: of their kind; Check. -/
namespace Go.Proofs.YtfhppfbmnnkikaaDoor
open Go.RowKit Go.Lib
set_option linter.unusedVariables false

theorem key_is (s : ByteArray) (x : Int) (h : Ky.errK s = x) (w : World) : Calls Tryd.prog 60 #[.string s] w fun e w' => e = .returned (.int .i64 x) ∧ w = w' := by rw [← h]; exact Ky.check_any s w
theorem prop_is (p v x : Int) (h : Pr.errP p v = x) (w : World) (ht : Pr.Tab w) : Calls Tryd.prog 61 #[.int .i64 p, .int .i64 v] w fun e w' => e = .returned (.int .i64 x) ∧ w = w' := by rw [← h]; exact Pr.check_any p v w ht
theorem errK_yes {s : ByteArray} (h : Ky.keyB (strN s) = true) : Ky.errK s = 0 := by simp [Ky.errK, h]
theorem errK_no {s : ByteArray} (h : Ky.keyB (strN s) = false) : Ky.errK s = 1 := by simp [Ky.errK, h]
theorem st_zero (t r : Int) (b : Bool) (h : decide (t = 0 ∧ r = 0) = b) (W : World) : (binOp .eql 24 (.agg #[.int .i64 t, .int .i64 r]) (.agg #[.int .i64 0, .int .i64 0])).run Tryd.prog W = .ok (.bool b) W := by
  rw [St.st_eql, ← h]
  congr 2
  rw [Bool.eq_iff_iff]
  simp

set_option maxHeartbeats 1000000 in
theorem ofKind1 (t r q : Int) (da : Option Addr) (ds : List Int) (dn dc : Nat) (k nt nr pt pr : Int) (s : ByteArray) (p v : Int) (w : World) (ht : Pr.Tab w) (hk : k = 1) : Calls Tryd.prog 30 #[.agg #[.int .i64 t, .int .i64 r, .int .i64 q, .slice da dn dc, .int .i64 k, .int .i64 nt, .int .i64 nr, .int .i64 pt, .int .i64 pr, .string s, .int .i64 p, .int .i64 v]] w (BoolPost w (kndB k pt pr s p v)) := by
  subst hk
  have HB := Lib.hid (box_bel w (.cells #[.int .i64 t, .int .i64 r, .int .i64 q, .slice da dn dc, .int .i64 1, .int .i64 nt, .int .i64 nr, .int .i64 pt, .int .i64 pr, .string s, .int .i64 p, .int .i64 v] 27))
  have HA := Lib.hid (OpAt.new w t r q da ds dn dc 1 nt nr pt pr s p v)

  cases h1 : St.plB pt pr
  · rw [show kndB 1 pt pr s p v = false by simp [kndB, h1]]
    have C := Lib.hid (fun W => St.place_is pt pr false h1 W)
    clear h1 ht
    go_enter Tryd.func30, Tryd.ntmps30
    go_wp2_with fail
    refine (C.out _).mono ?_
    rintro e w1 ⟨rfl, hb1⟩
    have HB1 := Lib.hid (HB.out.trans (hb1.mono HB.out.size))
    obtain ⟨c0, c1, c2, c3, c4, c5, c6, c7, c8, c9, c10, c11⟩ := HA.out.next hb1
    clear hb1
    go_wp2
    go_ret
    exact ⟨rfl, HB1.out⟩
  · have C := Lib.hid (fun W => St.place_is pt pr true h1 W)
    cases h2 : Ky.keyB (strN s)
    · rw [show kndB 1 pt pr s p v = false by simp [kndB, h2]]
      have D := Lib.hid (fun W => key_is s 1 (errK_no h2) W)
      clear h1 h2 ht
      go_enter Tryd.func30, Tryd.ntmps30
      go_wp2_with fail
      refine (C.out _).mono ?_
      rintro e w1 ⟨rfl, hb1⟩
      have HB1 := Lib.hid (HB.out.trans (hb1.mono HB.out.size))
      obtain ⟨c0, c1, c2, c3, c4, c5, c6, c7, c8, c9, c10, c11⟩ := HA.out.next hb1
      clear hb1
      go_wp2_with fail
      refine (D.out _).mono ?_
      rintro e w2 ⟨rfl, rfl⟩
      go_wp2
      go_ret
      exact ⟨rfl, HB1.out⟩
    · have D := Lib.hid (fun W => key_is s 0 (errK_yes h2) W)
      by_cases h3 : p = 0
      · by_cases h4 : v = 0
        · rw [show kndB 1 pt pr s p v = true by simp [kndB, h1, h2, h3, h4]]
          subst h3 h4
          clear h1 h2 ht
          go_enter Tryd.func30, Tryd.ntmps30
          go_wp2_with fail
          refine (C.out _).mono ?_
          rintro e w1 ⟨rfl, hb1⟩
          have HB1 := Lib.hid (HB.out.trans (hb1.mono HB.out.size))
          obtain ⟨c0, c1, c2, c3, c4, c5, c6, c7, c8, c9, c10, c11⟩ := HA.out.next hb1
          clear hb1
          go_wp2_with fail
          refine (D.out _).mono ?_
          rintro e w2 ⟨rfl, rfl⟩
          go_wp2
          go_ret
          exact ⟨rfl, HB1.out⟩
        · rw [show kndB 1 pt pr s p v = false by simp [kndB, h4]]
          have h4' : (v == 0) = false := by simpa using h4
          subst h3
          clear h1 h2 ht
          go_enter Tryd.func30, Tryd.ntmps30
          go_wp2_with fail
          refine (C.out _).mono ?_
          rintro e w1 ⟨rfl, hb1⟩
          have HB1 := Lib.hid (HB.out.trans (hb1.mono HB.out.size))
          obtain ⟨c0, c1, c2, c3, c4, c5, c6, c7, c8, c9, c10, c11⟩ := HA.out.next hb1
          clear hb1
          go_wp2_with fail
          refine (D.out _).mono ?_
          rintro e w2 ⟨rfl, rfl⟩
          go_wp2
          go_ret
          exact ⟨rfl, HB1.out⟩
      · rw [show kndB 1 pt pr s p v = false by simp [kndB, h3]]
        have h3' : (p == 0) = false := by simpa using h3
        clear h1 h2 ht
        go_enter Tryd.func30, Tryd.ntmps30
        go_wp2_with fail
        refine (C.out _).mono ?_
        rintro e w1 ⟨rfl, hb1⟩
        have HB1 := Lib.hid (HB.out.trans (hb1.mono HB.out.size))
        obtain ⟨c0, c1, c2, c3, c4, c5, c6, c7, c8, c9, c10, c11⟩ := HA.out.next hb1
        clear hb1
        go_wp2_with fail
        refine (D.out _).mono ?_
        rintro e w2 ⟨rfl, rfl⟩
        go_wp2
        go_ret
        exact ⟨rfl, HB1.out⟩

set_option maxHeartbeats 1000000 in
theorem ofKind2 (t r q : Int) (da : Option Addr) (ds : List Int) (dn dc : Nat) (k nt nr pt pr : Int) (s : ByteArray) (p v : Int) (w : World) (ht : Pr.Tab w) (hk : k = 2) : Calls Tryd.prog 30 #[.agg #[.int .i64 t, .int .i64 r, .int .i64 q, .slice da dn dc, .int .i64 k, .int .i64 nt, .int .i64 nr, .int .i64 pt, .int .i64 pr, .string s, .int .i64 p, .int .i64 v]] w (BoolPost w (kndB k pt pr s p v)) := by
  subst hk
  have HB := Lib.hid (box_bel w (.cells #[.int .i64 t, .int .i64 r, .int .i64 q, .slice da dn dc, .int .i64 2, .int .i64 nt, .int .i64 nr, .int .i64 pt, .int .i64 pr, .string s, .int .i64 p, .int .i64 v] 27))

  have hG := St.st_guard
  have hb0 := St.st_build0
  by_cases h1 : Pr.errP p v = 0
  · have D := Lib.hid (prop_is p v 0 h1 _ (ht.alloc (.cells #[.int .i64 t, .int .i64 r, .int .i64 q, .slice da dn dc, .int .i64 2, .int .i64 nt, .int .i64 nr, .int .i64 pt, .int .i64 pr, .string s, .int .i64 p, .int .i64 v] 27)))
    cases h2 : decide (pt = 0 ∧ pr = 0)
    · rw [show kndB 2 pt pr s p v = false by simp [kndB, h2]]
      have hz := st_zero pt pr false h2
      clear h1 h2 ht
      go_enter Tryd.func30, Tryd.ntmps30
      go_wp2_with fail
      refine (D.out).mono ?_
      rintro e w2 ⟨rfl, rfl⟩
      go_wp2
      go_ret
      exact ⟨rfl, HB.out⟩
    · have hz := st_zero pt pr true h2
      by_cases h3 : strN s = []
      · rw [show kndB 2 pt pr s p v = true by simp only [kndB, h1, h2, h3]; rfl]
        obtain ⟨e1, e2⟩ := Ky.emp_yes h3
        clear h1 h2 h3 ht
        go_enter Tryd.func30, Tryd.ntmps30
        go_wp2_with fail
        refine (D.out).mono ?_
        rintro e w2 ⟨rfl, rfl⟩
        go_wp2
        go_ret
        exact ⟨rfl, HB.out⟩
      · rw [show kndB 2 pt pr s p v = false by simp [kndB, h3]]
        obtain ⟨e1, e2⟩ := Ky.emp_no h3
        clear h1 h2 h3 ht
        go_enter Tryd.func30, Tryd.ntmps30
        go_wp2_with fail
        refine (D.out).mono ?_
        rintro e w2 ⟨rfl, rfl⟩
        go_wp2
        go_ret
        exact ⟨rfl, HB.out⟩
  · rw [show kndB 2 pt pr s p v = false by simp [kndB, h1]]
    obtain ⟨x, hx⟩ : ∃ x, Pr.errP p v = x := ⟨_, rfl⟩
    have D := Lib.hid (prop_is p v x hx _ (ht.alloc (.cells #[.int .i64 t, .int .i64 r, .int .i64 q, .slice da dn dc, .int .i64 2, .int .i64 nt, .int .i64 nr, .int .i64 pt, .int .i64 pr, .string s, .int .i64 p, .int .i64 v] 27)))
    have hx' : (x == 0) = false := by rw [← hx]; simpa using h1
    clear h1 hx ht
    go_enter Tryd.func30, Tryd.ntmps30
    go_wp2_with fail
    refine (D.out).mono ?_
    rintro e w2 ⟨rfl, rfl⟩
    go_wp2
    go_ret
    exact ⟨rfl, HB.out⟩

set_option maxHeartbeats 1000000 in
theorem ofKind_any (t r q : Int) (da : Option Addr) (ds : List Int) (dn dc : Nat) (k nt nr pt pr : Int) (s : ByteArray) (p v : Int) (w : World) (ht : Pr.Tab w) : Calls Tryd.prog 30 #[.agg #[.int .i64 t, .int .i64 r, .int .i64 q, .slice da dn dc, .int .i64 k, .int .i64 nt, .int .i64 nr, .int .i64 pt, .int .i64 pr, .string s, .int .i64 p, .int .i64 v]] w (BoolPost w (kndB k pt pr s p v)) := by
  by_cases g1 : k = 1
  · exact ofKind1 t r q da ds dn dc k nt nr pt pr s p v w ht g1
  · by_cases g2 : k = 2
    · exact ofKind2 t r q da ds dn dc k nt nr pt pr s p v w ht g2
    · rw [show kndB k pt pr s p v = false by simp [kndB, g1, g2]]
      have HB := Lib.hid (box_bel w (.cells #[.int .i64 t, .int .i64 r, .int .i64 q, .slice da dn dc, .int .i64 k, .int .i64 nt, .int .i64 nr, .int .i64 pt, .int .i64 pr, .string s, .int .i64 p, .int .i64 v] 27))
      have g1' : (k == 1) = false := by simpa using g1
      have g2' : (k == 2) = false := by simpa using g2
      clear ht
      go_enter Tryd.func30, Tryd.ntmps30
      go_wp2
      go_ret
      exact ⟨rfl, HB.out⟩

theorem stc_is (t r : Int) (x : Int) (h : St.errB (St.stB t r) = x) (w : World) : Calls Tryd.prog 28 #[.agg #[.int .i64 t, .int .i64 r]] w (St.IntBel w x) := by rw [← h]; exact St.check_any t r w
set_option maxHeartbeats 2000000 in
theorem opCheck_any (t r q : Int) (da : Option Addr) (ds : List Int) (dn dc : Nat) (k nt nr pt pr : Int) (s : ByteArray) (p v : Int) (w : World) (ht : Pr.Tab w) (hr : RowK .i64 w da ds) (hn : dn = ds.length) (hl : ds.length ≤ 140737488355328) : Calls Tryd.prog 10 #[.agg #[.int .i64 t, .int .i64 r, .int .i64 q, .slice da dn dc, .int .i64 k, .int .i64 nt, .int .i64 nr, .int .i64 pt, .int .i64 pr, .string s, .int .i64 p, .int .i64 v]] w (St.IntBel w (errC (opB t r q ds k nt nr pt pr s p v))) := by
  have HB := Lib.hid (box_bel w (.cells #[.int .i64 t, .int .i64 r, .int .i64 q, .slice da dn dc, .int .i64 k, .int .i64 nt, .int .i64 nr, .int .i64 pt, .int .i64 pr, .string s, .int .i64 p, .int .i64 v] 27))
  have HA := Lib.hid (OpAt.new w t r q da ds dn dc k nt nr pt pr s p v)
  have hw0 := ht.lt
  have C3 := Lib.hid (fun h0 W (hb : Below w.heap.size w W) => counted_any t r q da ds dn dc k nt nr pt pr s p v W (hr.below hb (Nat.le_refl _)) hn hl h0)
  have C4 := Lib.hid (fun W (hb : Below w.heap.size w W) => ofKind_any t r q da ds dn dc k nt nr pt pr s p v W (ht.below hb hw0))
  clear hr hn hl ht hw0
  cases h1 : St.stB t r
  · rw [show errC (opB t r q ds k nt nr pt pr s p v) = 1 by simp [opB, h1, errC]]
    have C1 := Lib.hid (fun W => stc_is t r 1 (by rw [h1]; rfl) W)
    clear h1 C3 C4
    go_enter Tryd.func10, Tryd.ntmps10
    go_wp2_with fail
    refine (C1.out _).mono ?_
    rintro e w1 ⟨rfl, hb1⟩
    have HA1 := Lib.hid (HA.out.next hb1)
    have HB1 := Lib.hid (HB.out.trans (hb1.mono HB.out.size))
    obtain ⟨c0, c1, c2, c3, c4, c5, c6, c7, c8, c9, c10, c11⟩ := HA1.out
    clear hb1
    go_wp2
    go_ret
    exact ⟨rfl, HB1.out⟩
  · have C1 := Lib.hid (fun W => stc_is t r 0 (by rw [h1]; rfl) W)
    have C3 := Lib.hid (C3.out h1)
    cases h2 : St.stB nt nr
    · rw [show errC (opB t r q ds k nt nr pt pr s p v) = 1 by simp [opB, h2, errC]]
      have C2 := Lib.hid (fun W => stc_is nt nr 1 (by rw [h2]; rfl) W)
      clear h1 h2 C3 C4
      go_enter Tryd.func10, Tryd.ntmps10
      go_wp2_with fail
      refine (C1.out _).mono ?_
      rintro e w1 ⟨rfl, hb1⟩
      have HA1 := Lib.hid (HA.out.next hb1)
      have HB1 := Lib.hid (HB.out.trans (hb1.mono HB.out.size))
      obtain ⟨c0, c1, c2, c3, c4, c5, c6, c7, c8, c9, c10, c11⟩ := HA1.out
      clear hb1
      go_wp2_with fail
      refine (C2.out _).mono ?_
      rintro e w2 ⟨rfl, hb2⟩
      have HA2 := Lib.hid (HA1.out.next hb2)
      have HB2 := Lib.hid (HB1.out.trans (hb2.mono HB1.out.size))
      clear c0 c1 c2 c3 c4 c5 c6 c7 c8 c9 c10 c11
      obtain ⟨c0, c1, c2, c3, c4, c5, c6, c7, c8, c9, c10, c11⟩ := HA2.out
      clear hb2
      go_wp2
      go_ret
      exact ⟨rfl, HB2.out⟩
    · have C2 := Lib.hid (fun W => stc_is nt nr 0 (by rw [h2]; rfl) W)
      cases h3 : cntB r q ds
      · rw [show errC (opB t r q ds k nt nr pt pr s p v) = 1 by simp [opB, h3, errC]]
        rw [h3] at C3
        clear h1 h2 h3 C4
        go_enter Tryd.func10, Tryd.ntmps10
        go_wp2_with fail
        refine (C1.out _).mono ?_
        rintro e w1 ⟨rfl, hb1⟩
        have HA1 := Lib.hid (HA.out.next hb1)
        have HB1 := Lib.hid (HB.out.trans (hb1.mono HB.out.size))
        obtain ⟨c0, c1, c2, c3, c4, c5, c6, c7, c8, c9, c10, c11⟩ := HA1.out
        clear hb1
        go_wp2_with fail
        refine (C2.out _).mono ?_
        rintro e w2 ⟨rfl, hb2⟩
        have HA2 := Lib.hid (HA1.out.next hb2)
        have HB2 := Lib.hid (HB1.out.trans (hb2.mono HB1.out.size))
        clear c0 c1 c2 c3 c4 c5 c6 c7 c8 c9 c10 c11
        obtain ⟨c0, c1, c2, c3, c4, c5, c6, c7, c8, c9, c10, c11⟩ := HA2.out
        clear hb2
        go_wp2_with fail
        refine (C3.out _ HB2.out).mono ?_
        rintro e w3 ⟨rfl, hb3⟩
        have HA3 := Lib.hid (HA2.out.next hb3)
        have HB3 := Lib.hid (HB2.out.trans (hb3.mono HB2.out.size))
        clear c0 c1 c2 c3 c4 c5 c6 c7 c8 c9 c10 c11
        obtain ⟨c0, c1, c2, c3, c4, c5, c6, c7, c8, c9, c10, c11⟩ := HA3.out
        clear hb3
        go_wp2
        go_ret
        exact ⟨rfl, HB3.out⟩
      · rw [h3] at C3
        cases h4 : kndB k pt pr s p v
        · rw [show errC (opB t r q ds k nt nr pt pr s p v) = 1 by simp [opB, h4, errC]]
          rw [h4] at C4
          clear h1 h2 h3 h4
          go_enter Tryd.func10, Tryd.ntmps10
          go_wp2_with fail
          refine (C1.out _).mono ?_
          rintro e w1 ⟨rfl, hb1⟩
          have HA1 := Lib.hid (HA.out.next hb1)
          have HB1 := Lib.hid (HB.out.trans (hb1.mono HB.out.size))
          obtain ⟨c0, c1, c2, c3, c4, c5, c6, c7, c8, c9, c10, c11⟩ := HA1.out
          clear hb1
          go_wp2_with fail
          refine (C2.out _).mono ?_
          rintro e w2 ⟨rfl, hb2⟩
          have HA2 := Lib.hid (HA1.out.next hb2)
          have HB2 := Lib.hid (HB1.out.trans (hb2.mono HB1.out.size))
          clear c0 c1 c2 c3 c4 c5 c6 c7 c8 c9 c10 c11
          obtain ⟨c0, c1, c2, c3, c4, c5, c6, c7, c8, c9, c10, c11⟩ := HA2.out
          clear hb2
          go_wp2_with fail
          refine (C3.out _ HB2.out).mono ?_
          rintro e w3 ⟨rfl, hb3⟩
          have HA3 := Lib.hid (HA2.out.next hb3)
          have HB3 := Lib.hid (HB2.out.trans (hb3.mono HB2.out.size))
          clear c0 c1 c2 c3 c4 c5 c6 c7 c8 c9 c10 c11
          obtain ⟨c0, c1, c2, c3, c4, c5, c6, c7, c8, c9, c10, c11⟩ := HA3.out
          clear hb3
          go_wp2_with fail
          refine (C4.out _ HB3.out).mono ?_
          rintro e w4 ⟨rfl, hb4⟩
          have HB4 := Lib.hid (HB3.out.trans (hb4.mono HB3.out.size))
          clear hb4
          go_wp2
          go_ret
          exact ⟨rfl, HB4.out⟩
        · rw [show errC (opB t r q ds k nt nr pt pr s p v) = 0 by simp [opB, h1, h2, h3, h4, errC]]
          rw [h4] at C4
          clear h1 h2 h3 h4
          go_enter Tryd.func10, Tryd.ntmps10
          go_wp2_with fail
          refine (C1.out _).mono ?_
          rintro e w1 ⟨rfl, hb1⟩
          have HA1 := Lib.hid (HA.out.next hb1)
          have HB1 := Lib.hid (HB.out.trans (hb1.mono HB.out.size))
          obtain ⟨c0, c1, c2, c3, c4, c5, c6, c7, c8, c9, c10, c11⟩ := HA1.out
          clear hb1
          go_wp2_with fail
          refine (C2.out _).mono ?_
          rintro e w2 ⟨rfl, hb2⟩
          have HA2 := Lib.hid (HA1.out.next hb2)
          have HB2 := Lib.hid (HB1.out.trans (hb2.mono HB1.out.size))
          clear c0 c1 c2 c3 c4 c5 c6 c7 c8 c9 c10 c11
          obtain ⟨c0, c1, c2, c3, c4, c5, c6, c7, c8, c9, c10, c11⟩ := HA2.out
          clear hb2
          go_wp2_with fail
          refine (C3.out _ HB2.out).mono ?_
          rintro e w3 ⟨rfl, hb3⟩
          have HA3 := Lib.hid (HA2.out.next hb3)
          have HB3 := Lib.hid (HB2.out.trans (hb3.mono HB2.out.size))
          clear c0 c1 c2 c3 c4 c5 c6 c7 c8 c9 c10 c11
          obtain ⟨c0, c1, c2, c3, c4, c5, c6, c7, c8, c9, c10, c11⟩ := HA3.out
          clear hb3
          go_wp2_with fail
          refine (C4.out _ HB3.out).mono ?_
          rintro e w4 ⟨rfl, hb4⟩
          have HB4 := Lib.hid (HB3.out.trans (hb4.mono HB3.out.size))
          clear hb4
          go_wp2
          go_ret
          exact ⟨rfl, HB4.out⟩
end Go.Proofs.YtfhppfbmnnkikaaDoor

/- Two operations held against each other. -/
namespace Go.Proofs.YtfhppfbmnnkikaaDoor
open Go.RowKit Go.Lib
set_option linter.unusedVariables false

def eqOB (pt pr : Int) (s : ByteArray) (p v pt' pr' : Int) (s' : ByteArray) (p' v' : Int) : Bool := decide (pt = pt' ∧ pr = pr') && decide (strN s = strN s') && decide (p = p') && decide (v = v')
theorem eqOB_same (pt pr : Int) (s : ByteArray) (p v : Int) : eqOB pt pr s p v pt pr s p v = true := by simp [eqOB]
theorem st_same' (t r : Int) (W : World) : (binOp .eql 24 (.agg #[.int .i64 t, .int .i64 r]) (.agg #[.int .i64 t, .int .i64 r])).run Tryd.prog W = .ok (.bool true) W := by
  rw [St.st_eql]
  congr 2
  simp
theorem st_is (t r u x : Int) (b : Bool) (h : decide (t = u ∧ r = x) = b) (W : World) : (binOp .eql 24 (.agg #[.int .i64 t, .int .i64 r]) (.agg #[.int .i64 u, .int .i64 x])).run Tryd.prog W = .ok (.bool b) W := by
  rw [St.st_eql, ← h]
  congr 2
  rw [Bool.eq_iff_iff]
  simp

set_option maxHeartbeats 2000000 in
set_option maxRecDepth 100000 in
theorem eqOp_any (t r q : Int) (da : Option Addr) (ds : List Int) (dn dc : Nat) (k nt nr pt pr : Int) (s : ByteArray) (p v : Int) (pt' pr' : Int) (s' : ByteArray) (p' v' : Int) (da' : Option Addr) (dn' dc' : Nat) (w : World) (hr : RowK .i64 w da ds) (hn : dn = ds.length) (hl : ds.length ≤ 140737488355328) (hr' : RowK .i64 w da' ds) (hn' : dn' = ds.length) :
    Calls Tryd.prog 34 #[.agg #[.int .i64 t, .int .i64 r, .int .i64 q, .slice da dn dc, .int .i64 k, .int .i64 nt, .int .i64 nr, .int .i64 pt, .int .i64 pr, .string s, .int .i64 p, .int .i64 v], .agg #[.int .i64 t, .int .i64 r, .int .i64 q, .slice da' dn' dc', .int .i64 k, .int .i64 nt, .int .i64 nr, .int .i64 pt', .int .i64 pr', .string s', .int .i64 p', .int .i64 v']] w (BoolPost w (eqOB pt pr s p v pt' pr' s' p' v')) := by
  have HB := Lib.hid (St.below2 w (.cells #[.int .i64 t, .int .i64 r, .int .i64 q, .slice da dn dc, .int .i64 k, .int .i64 nt, .int .i64 nr, .int .i64 pt, .int .i64 pr, .string s, .int .i64 p, .int .i64 v] 27) (.cells #[.int .i64 t, .int .i64 r, .int .i64 q, .slice da' dn' dc', .int .i64 k, .int .i64 nt, .int .i64 nr, .int .i64 pt', .int .i64 pr', .string s', .int .i64 p', .int .i64 v'] 27))
  have C := Lib.hid (eqI_yes da da' ds dn dn' dc dc' ((w.alloc (.cells #[.int .i64 t, .int .i64 r, .int .i64 q, .slice da dn dc, .int .i64 k, .int .i64 nt, .int .i64 nr, .int .i64 pt, .int .i64 pr, .string s, .int .i64 p, .int .i64 v] 27)).alloc (.cells #[.int .i64 t, .int .i64 r, .int .i64 q, .slice da' dn' dc', .int .i64 k, .int .i64 nt, .int .i64 nr, .int .i64 pt', .int .i64 pr', .string s', .int .i64 p', .int .i64 v'] 27)) ((hr.alloc _).alloc _) ((hr'.alloc _).alloc _) hn hn' hl)
  have hG := St.st_guard
  have z1 := fun W => st_same' t r W
  have z2 := fun W => st_same' nt nr W
  clear hr hn hl hr' hn'
  cases h1 : decide (pt = pt' ∧ pr = pr')
  · rw [show eqOB pt pr s p v pt' pr' s' p' v' = false by simp only [eqOB, h1]; rfl]
    have z3 := st_is pt pr pt' pr' false h1
    clear h1
    go_enter Tryd.func34, Tryd.ntmps34
    go_wp2_with fail
    refine (C.out).mono ?_
    rintro e w1 ⟨rfl, nq, rfl⟩
    go_wp2
    go_ret
    exact ⟨rfl, below_drewN HB.out nq⟩
  · have z3 := st_is pt pr pt' pr' true h1
    by_cases h2 : strN s = strN s'
    · obtain rfl := Ky.strN_inj h2
      clear h2
      by_cases h3 : p = p'
      · by_cases h4 : v = v'
        · rw [show eqOB pt pr s p v pt' pr' s p' v' = true by simp only [eqOB, h1, h3, h4]; simp]
          subst h3 h4
          clear h1
          go_enter Tryd.func34, Tryd.ntmps34
          go_wp2_with fail
          refine (C.out).mono ?_
          rintro e w1 ⟨rfl, nq, rfl⟩
          go_wp2
          go_ret
          exact ⟨rfl, below_drewN HB.out nq⟩
        · rw [show eqOB pt pr s p v pt' pr' s p' v' = false by simp [eqOB, h4]]
          have h4' : (v == v') = false := by simpa using h4
          subst h3
          clear h1
          go_enter Tryd.func34, Tryd.ntmps34
          go_wp2_with fail
          refine (C.out).mono ?_
          rintro e w1 ⟨rfl, nq, rfl⟩
          go_wp2
          go_ret
          exact ⟨rfl, below_drewN HB.out nq⟩
      · rw [show eqOB pt pr s p v pt' pr' s p' v' = false by simp [eqOB, h3]]
        have h3' : (p == p') = false := by simpa using h3
        clear h1
        go_enter Tryd.func34, Tryd.ntmps34
        go_wp2_with fail
        refine (C.out).mono ?_
        rintro e w1 ⟨rfl, nq, rfl⟩
        go_wp2
        go_ret
        exact ⟨rfl, below_drewN HB.out nq⟩
    · rw [show eqOB pt pr s p v pt' pr' s' p' v' = false by simp [eqOB, h2]]
      have e1 : (s.toList == s'.toList) = false := by rw [Ky.same_strN]; exact decide_eq_false h2
      have e2 : ¬ s.toList = s'.toList := by simpa using e1
      clear h1 h2
      go_enter Tryd.func34, Tryd.ntmps34
      go_wp2_with fail
      refine (C.out).mono ?_
      rintro e w1 ⟨rfl, nq, rfl⟩
      go_wp2
      go_ret
      exact ⟨rfl, below_drewN HB.out nq⟩

theorem op_build (t r q : Int) (da : Option Addr) (dn dc : Nat) (k nt nr : Int) (w : World) : (Instr.build 27 #[(0, .agg #[.int .i64 t, .int .i64 r]), (1, .int .i64 q), (2, .slice da dn dc), (3, .int .i64 k), (4, .agg #[.int .i64 nt, .int .i64 nr])]).run Tryd.prog w = .ok (.agg #[.int .i64 t, .int .i64 r, .int .i64 q, .slice da dn dc, .int .i64 k, .int .i64 nt, .int .i64 nr, .int .i64 0, .int .i64 0, .string ⟨#[]⟩, .int .i64 0, .int .i64 0]) w := run_build w 27 _ _ (by kernel_rfl)
end Go.Proofs.YtfhppfbmnnkikaaDoor

/- The page's own: whether an operation may be. -/
namespace Go.Proofs.YtfhppfbmnnkikaaDoor
open Go.RowKit Go.Lib
set_option linter.unusedVariables false

theorem OpAt.regrown {w : World} {b o : Nat} {t r q : Int} {da : Option Addr} {dn dc : Nat} {k nt nr pt pr : Int} {s : ByteArray} {p v : Int} (h : OpAt w b o t r q da dn dc k nt nr pt pr s p v) : (∀ d os, (Go.Sort.grow (redrawn w d) os).cell? ⟨b, o, none⟩ = some (.int .i64 t)) ∧ (∀ d os, (Go.Sort.grow (redrawn w d) os).cell? ⟨b, o + 1, none⟩ = some (.int .i64 r)) ∧ (∀ d os, (Go.Sort.grow (redrawn w d) os).cell? ⟨b, o + 2, none⟩ = some (.int .i64 q)) ∧ (∀ d os, (Go.Sort.grow (redrawn w d) os).cell? ⟨b, o + 3, none⟩ = some (.slice da dn dc)) ∧ (∀ d os, (Go.Sort.grow (redrawn w d) os).cell? ⟨b, o + 4, none⟩ = some (.int .i64 k)) ∧ (∀ d os, (Go.Sort.grow (redrawn w d) os).cell? ⟨b, o + 5, none⟩ = some (.int .i64 nt)) ∧ (∀ d os, (Go.Sort.grow (redrawn w d) os).cell? ⟨b, o + 6, none⟩ = some (.int .i64 nr)) ∧ (∀ d os, (Go.Sort.grow (redrawn w d) os).cell? ⟨b, o + 7, none⟩ = some (.int .i64 pt)) ∧ (∀ d os, (Go.Sort.grow (redrawn w d) os).cell? ⟨b, o + 8, none⟩ = some (.int .i64 pr)) ∧ (∀ d os, (Go.Sort.grow (redrawn w d) os).cell? ⟨b, o + 9, none⟩ = some (.string s)) ∧ (∀ d os, (Go.Sort.grow (redrawn w d) os).cell? ⟨b, o + 10, none⟩ = some (.int .i64 p)) ∧ (∀ d os, (Go.Sort.grow (redrawn w d) os).cell? ⟨b, o + 11, none⟩ = some (.int .i64 v)) :=
  ⟨cell_regrown h.c0, cell_regrown h.c1, cell_regrown h.c2, cell_regrown h.c3, cell_regrown h.c4, cell_regrown h.c5, cell_regrown h.c6, cell_regrown h.c7, cell_regrown h.c8, cell_regrown h.c9, cell_regrown h.c10, cell_regrown h.c11⟩
theorem RowK.drew {kd : IntKind} {w : World} {a : Option Addr} {zs : List Int} (h : RowK kd w a zs) : RowK kd w.drew a zs := h
theorem refSt_is (t r : Int) (b : Bool) (h : St.stB t r = b) (w : World) : Calls Tryd.prog 66 #[.agg #[.int .i64 t, .int .i64 r]] w (BoolPost w b) := by rw [← h]; exact St.refStamp_any t r w
theorem vec_regrown {w W : World} {da : Option Addr} {ds : List Int} {dn : Nat} (dc : Nat) (hB : Below w.heap.size w W) (hr : RowK .i64 w da ds) (hn : dn = ds.length) (hl : ds.length ≤ 140737488355328) {b : Bool} (h : Hv.vecB ds = b) : St.RegrownTo W 37 #[.slice da dn dc] (.bool b) := fun d os =>
  (Hv.refVector_is da ds dn dc _ ((hr.below hB (Nat.le_refl _)).below (below_regrown W d os) (Nat.le_refl _)) hn hl h).mono fun _ _ ⟨he, hw⟩ => ⟨he, ⟨d, os⟩, hw.symm⟩

set_option maxHeartbeats 4000000 in
set_option maxRecDepth 100000 in
theorem refOp_any (t r q : Int) (da : Option Addr) (ds : List Int) (dn dc : Nat) (k nt nr pt pr : Int) (s : ByteArray) (p v : Int) (w : World) (hr : RowK .i64 w da ds) (hn : dn = ds.length) (hl : ds.length ≤ 140737488355328) : Calls Tryd.prog 38 #[.agg #[.int .i64 t, .int .i64 r, .int .i64 q, .slice da dn dc, .int .i64 k, .int .i64 nt, .int .i64 nr, .int .i64 pt, .int .i64 pr, .string s, .int .i64 p, .int .i64 v]] w (BoolPost w (opB t r q ds k nt nr pt pr s p v)) := by
  have mixed : Tryd.prog.follows .mixedOrders = true := by kernel_rfl
  have HB := Lib.hid (box_bel w (.cells #[.int .i64 t, .int .i64 r, .int .i64 q, .slice da dn dc, .int .i64 k, .int .i64 nt, .int .i64 nr, .int .i64 pt, .int .i64 pr, .string s, .int .i64 p, .int .i64 v] 27))
  obtain ⟨c0, c1, c2, c3, c4, c5, c6, c7, c8, c9, c10, c11⟩ := (OpAt.new w t r q da ds dn dc k nt nr pt pr s p v).regrown

  obtain ⟨B, hB⟩ : ∃ B, opB t r q ds k nt nr pt pr s p v = B := ⟨_, rfl⟩
  rw [hB]
  have HR := Lib.hid (hr.alloc (.cells #[.int .i64 t, .int .i64 r, .int .i64 q, .slice da dn dc, .int .i64 k, .int .i64 nt, .int .i64 nr, .int .i64 pt, .int .i64 pr, .string s, .int .i64 p, .int .i64 v] 27))
  have HA := Lib.hid (OpAt.new w t r q da ds dn dc k nt nr pt pr s p v)
  have hvr := fun {b : Bool} (h : Hv.vecB ds = b) => vec_regrown dc HB.out hr hn hl h
  have HN := Lib.hid hn
  have HL := Lib.hid hl
  have HVR := Lib.hid (fun b => @hvr b)
  clear hn hl hr hvr
  go_enter Tryd.func38, Tryd.ntmps38
  go_wp2_with fail
  refine wp_region_quiet_below (by assumption) (by kernel_rfl) ?_
  generalize w.alloc (.cells #[.int .i64 t, .int .i64 r, .int .i64 q, .slice da dn dc, .int .i64 k, .int .i64 nt, .int .i64 nr, .int .i64 pt, .int .i64 pr, .string s, .int .i64 p, .int .i64 v] 27) = W at *
  generalize hg : w.heap.size = g at c0 c1 c2 c3 c4 c5 c6 c7 c8 c9 c10 c11 HA ⊢
  clear hg
  cases g1 : St.stB t r
  · have x1 : St.RegrownTo W 66 #[.agg #[.int .i64 t, .int .i64 r]] (.bool false) := St.regrown_bel fun W => refSt_is t r false g1 W
    have x2 : True := trivial
    have x3 : True := trivial
    obtain rfl : B = false := by rw [← hB]; simp [opB, g1]
    clear hB g1 HVR
    repeat (go_big_quiet_step ((first | (go_at_call_of 66 (Value.agg #[.int .i64 t, .int .i64 r]); with_reducible exact x1 _ _) | (go_at_call_of 66 (Value.agg #[.int .i64 nt, .int .i64 nr]); with_reducible exact x3 _ _) | (go_at_call 37; with_reducible exact x2 _ _))))
    refine wpQuiet_nil ?_
    intro _ hw'
    obtain ⟨⟨dq, osq⟩, hw''⟩ := hw'
    subst hw''
    go_wp2
    go_ret
    exact ⟨rfl, HB.out.trans ((below_regrown _ dq osq).mono HB.out.size)⟩
  · have x1 : St.RegrownTo W 66 #[.agg #[.int .i64 t, .int .i64 r]] (.bool true) := St.regrown_bel fun W => refSt_is t r true g1 W
    obtain ⟨hr0, hr1⟩ := stB_rep g1
    cases g2 : Hv.vecB ds
    · have x2 := HVR.out _ g2
      have x3 : True := trivial
      obtain rfl : B = false := by rw [← hB]; simp [opB, cntB, g2]
      clear hB g1 g2 HVR
      repeat (go_big_quiet_step ((first | (go_at_call_of 66 (Value.agg #[.int .i64 t, .int .i64 r]); with_reducible exact x1 _ _) | (go_at_call_of 66 (Value.agg #[.int .i64 nt, .int .i64 nr]); with_reducible exact x3 _ _) | (go_at_call 37; with_reducible exact x2 _ _))))
      refine wpQuiet_nil ?_
      intro _ hw'
      obtain ⟨⟨dq, osq⟩, hw''⟩ := hw'
      subst hw''
      go_wp2
      go_ret
      exact ⟨rfl, HB.out.trans ((below_regrown _ dq osq).mono HB.out.size)⟩
    · have x2 := HVR.out _ g2
      by_cases g3 : r < ds.length
      · have hd3 : decide ((dn : Int) ≤ r) = false := decide_eq_false (by have := HN.out; omega)
        have hd3' : ¬ (dn : Int) ≤ r := by have := HN.out; omega
        by_cases g4 : q < 1
        · have hd4 : decide (q < 1) = true := decide_eq_true g4
          have x3 : True := trivial
          obtain rfl : B = false := by
            rw [← hB]
            have : ¬ 1 ≤ q := by omega
            simp [opB, cntB, this]
          clear hB g1 g2 g3 HVR
          repeat (go_big_quiet_step ((first | (go_at_call_of 66 (Value.agg #[.int .i64 t, .int .i64 r]); with_reducible exact x1 _ _) | (go_at_call_of 66 (Value.agg #[.int .i64 nt, .int .i64 nr]); with_reducible exact x3 _ _) | (go_at_call 37; with_reducible exact x2 _ _))))
          refine wpQuiet_nil ?_
          intro _ hw'
          obtain ⟨⟨dq, osq⟩, hw''⟩ := hw'
          subst hw''
          go_wp2
          go_ret
          exact ⟨rfl, HB.out.trans ((below_regrown _ dq osq).mono HB.out.size)⟩
        · have hd4 : decide (q < 1) = false := decide_eq_false g4
          by_cases g5 : 1099511627776 < q
          · have hd5 : decide (1099511627776 < q) = true := decide_eq_true g5
            have x3 : True := trivial
            obtain rfl : B = false := by
              rw [← hB]
              have : ¬ q ≤ 1099511627776 := by omega
              simp [opB, cntB, this]
            clear hB g1 g2 g3 HVR
            repeat (go_big_quiet_step ((first | (go_at_call_of 66 (Value.agg #[.int .i64 t, .int .i64 r]); with_reducible exact x1 _ _) | (go_at_call_of 66 (Value.agg #[.int .i64 nt, .int .i64 nr]); with_reducible exact x3 _ _) | (go_at_call 37; with_reducible exact x2 _ _))))
            refine wpQuiet_nil ?_
            intro _ hw'
            obtain ⟨⟨dq, osq⟩, hw''⟩ := hw'
            subst hw''
            go_wp2
            go_ret
            exact ⟨rfl, HB.out.trans ((below_regrown _ dq osq).mono HB.out.size)⟩
          · have hd5 : decide (1099511627776 < q) = false := decide_eq_false g5
            obtain ⟨rn, hrn⟩ : ∃ rn : Nat, r = rn := ⟨r.toNat, by omega⟩
            obtain ⟨b, off, hda, hc⟩ := HR.out rn (by omega)
            have hc' : ∀ d os, (Go.Sort.grow (redrawn W d) os).cell? ⟨b, off + rn, none⟩ = some (.int .i64 (ds.getD rn 0)) := cell_regrown hc
            have hx := Hv.vecB_at g2 (k := rn) (by omega)
            have hwx : wrap64 (ds.getD rn 0 + 1) = ds.getD rn 0 + 1 := IntWalk.wrap64_in _ (by omega)
            have hw2 : IntKind.i64.wrap (ds.getD rn 0 + 1) = ds.getD rn 0 + 1 := IntWalk.i64_in _ (by omega)
            have hlr : rn < dn := by have := HN.out; omega
            have hE : cntB r q ds = decide (q = ds.getD rn 0 + 1) := by
              have e1 : r.toNat = rn := by omega
              simp only [cntB, g2, g3, e1, decide_true, Bool.true_and, decide_eq_true (show 1 ≤ q by omega), decide_eq_true (show q ≤ 1099511627776 by omega)]
            unfold opB at hB
            rw [g1, hE] at hB
            clear hE g1 g2 hc g3 HVR
            generalize ds.getD rn 0 = x at *
            subst hrn hda
            by_cases g6 : q = x + 1
            · have hd6 : (q != x + 1) = false := by simpa using g6
              rw [decide_eq_true g6] at hB
              clear g6
              cases g7 : St.stB nt nr
              · have x3 : St.RegrownTo W 66 #[.agg #[.int .i64 nt, .int .i64 nr]] (.bool false) := St.regrown_bel fun W => refSt_is nt nr false g7 W
                obtain rfl : B = false := by rw [← hB, g7]; rfl
                clear g7 hB
                repeat (go_big_quiet_step ((first | (go_at_call_of 66 (Value.agg #[.int .i64 t, .int .i64 (rn : Int)]); with_reducible exact x1 _ _) | (go_at_call_of 66 (Value.agg #[.int .i64 nt, .int .i64 nr]); with_reducible exact x3 _ _) | (go_at_call 37; with_reducible exact x2 _ _))))
                refine wpQuiet_nil ?_
                intro _ hw'
                obtain ⟨⟨dq, osq⟩, hw''⟩ := hw'
                subst hw''
                go_wp2
                go_ret
                exact ⟨rfl, HB.out.trans ((below_regrown _ dq osq).mono HB.out.size)⟩
              · have x3 : St.RegrownTo W 66 #[.agg #[.int .i64 nt, .int .i64 nr]] (.bool true) := St.regrown_bel fun W => refSt_is nt nr true g7 W
                rw [g7] at hB
                simp only [Bool.true_and] at hB
                clear g7
                repeat (go_big_quiet_step ((first | (go_at_call_of 66 (Value.agg #[.int .i64 t, .int .i64 (rn : Int)]); with_reducible exact x1 _ _) | (go_at_call_of 66 (Value.agg #[.int .i64 nt, .int .i64 nr]); with_reducible exact x3 _ _) | (go_at_call 37; with_reducible exact x2 _ _))))
                refine wpQuiet_nil ?_
                intro _ hw'
                obtain ⟨⟨dq, osq⟩, hw''⟩ := hw'
                subst hw''
                have HB1 := Lib.hid (HB.out.trans ((below_regrown _ dq osq).mono HB.out.size))
                have HA1 := Lib.hid (HA.out.next (below_regrown _ dq osq))
                have HR1 := Lib.hid (HR.out.below (below_regrown _ dq osq) (Nat.le_refl _))
                clear c0 c1 c2 c3 c4 c5 c6 c7 c8 c9 c10 c11 x1 x2 x3 hc' HB HA HR hd3 hd3' hd4 hd5 hd6 hwx hw2 hlr
                generalize Go.Sort.grow (redrawn W dq) osq = W1 at *
                obtain ⟨c0, c1, c2, c3, c4, c5, c6, c7, c8, c9, c10, c11⟩ := HA1.out
                have hbd := fun W => op_build t (rn : Int) q (some ⟨b, off, none⟩) dn dc k nt nr W
                have hgl := HA1.out.lt
                have E := Lib.hid (fun W (h : RowK .i64 W (some ⟨b, off, none⟩) ds) pt pr s p v pt' pr' s' p' v' => eqOp_any t (rn : Int) q (some ⟨b, off, none⟩) ds dn dc k nt nr pt pr s p v pt' pr' s' p' v' (some ⟨b, off, none⟩) dn dc W h HN.out HL.out h HN.out)
                by_cases g8 : k = 1
                · subst g8
                  cases hq : eqOB pt pr s 0 0 pt pr s p v
                  · obtain rfl : B = false := by
                      rw [← hB]
                      have : ¬ (0 = p ∧ 0 = v) := by
                        rintro ⟨rfl, rfl⟩
                        rw [eqOB_same] at hq
                        exact absurd hq (by decide)
                      by_cases h0 : p = 0
                      · have : ¬ v = 0 := by omega
                        simp [kndB, this]
                      · simp [kndB, h0]
                    clear hB
                    go_wp2_with fail
                    go_region
                    go_wp2_with fail
                    refine (E.out _ (HR1.out.alloc _).drew _ _ _ _ _ _ _ _ _ _).mono ?_
                    rintro e W3 ⟨rfl, hb3⟩
                    rw [hq]
                    have HB3 := Lib.hid ((HB1.out.alloc HB1.out.size _).drew.trans (hb3.mono (HB1.out.alloc HB1.out.size _).drew.size))
                    have HA3 := Lib.hid ((HA1.out.next (box_bel _ _)).drew.next hb3)
                    clear hb3 c0 c1 c2 c3 c4 c5 c6 c7 c8 c9 c10 c11 hq
                    obtain ⟨c0, c1, c2, c3, c4, c5, c6, c7, c8, c9, c10, c11⟩ := HA3.out
                    go_wp2
                    go_ret
                    exact ⟨rfl, HB3.out⟩
                  · have hpv : p = 0 ∧ v = 0 := by
                      simp [eqOB] at hq
                      omega
                    obtain ⟨hp0, hv0⟩ := hpv
                    cases h1 : St.plB pt pr
                    · obtain rfl : B = false := by rw [← hB]; simp [kndB, h1]
                      have D1 := Lib.hid (fun W => St.refPlace_is pt pr false h1 W)
                      clear h1 hp0 hv0
                      clear hB
                      go_wp2_with fail
                      go_region
                      go_wp2_with fail
                      refine (E.out _ (HR1.out.alloc _).drew _ _ _ _ _ _ _ _ _ _).mono ?_
                      rintro e W3 ⟨rfl, hb3⟩
                      rw [hq]
                      have HB3 := Lib.hid ((HB1.out.alloc HB1.out.size _).drew.trans (hb3.mono (HB1.out.alloc HB1.out.size _).drew.size))
                      have HA3 := Lib.hid ((HA1.out.next (box_bel _ _)).drew.next hb3)
                      clear hb3 c0 c1 c2 c3 c4 c5 c6 c7 c8 c9 c10 c11 hq
                      obtain ⟨c0, c1, c2, c3, c4, c5, c6, c7, c8, c9, c10, c11⟩ := HA3.out
                      go_wp2_with fail
                      refine (D1.out _).mono ?_
                      rintro e W4 ⟨rfl, hb4⟩
                      have HB4 := Lib.hid (HB3.out.trans (hb4.mono HB3.out.size))
                      have HA4 := Lib.hid (HA3.out.next hb4)
                      clear hb4 c0 c1 c2 c3 c4 c5 c6 c7 c8 c9 c10 c11
                      obtain ⟨c0, c1, c2, c3, c4, c5, c6, c7, c8, c9, c10, c11⟩ := HA4.out
                      go_wp2
                      go_ret
                      exact ⟨rfl, HB4.out⟩
                    · have D1 := Lib.hid (fun W => St.refPlace_is pt pr true h1 W)
                      have D2 := Lib.hid (fun W => Ky.refKey_any s W)
                      have hB' : Ky.keyB (strN s) = B := by rw [← hB]; simp [kndB, h1, hp0, hv0]
                      rw [hB'] at D2
                      clear h1 hp0 hv0 hB'
                      clear hB
                      go_wp2_with fail
                      go_region
                      go_wp2_with fail
                      refine (E.out _ (HR1.out.alloc _).drew _ _ _ _ _ _ _ _ _ _).mono ?_
                      rintro e W3 ⟨rfl, hb3⟩
                      rw [hq]
                      have HB3 := Lib.hid ((HB1.out.alloc HB1.out.size _).drew.trans (hb3.mono (HB1.out.alloc HB1.out.size _).drew.size))
                      have HA3 := Lib.hid ((HA1.out.next (box_bel _ _)).drew.next hb3)
                      clear hb3 c0 c1 c2 c3 c4 c5 c6 c7 c8 c9 c10 c11 hq
                      obtain ⟨c0, c1, c2, c3, c4, c5, c6, c7, c8, c9, c10, c11⟩ := HA3.out
                      go_wp2_with fail
                      refine (D1.out _).mono ?_
                      rintro e W4 ⟨rfl, hb4⟩
                      have HB4 := Lib.hid (HB3.out.trans (hb4.mono HB3.out.size))
                      have HA4 := Lib.hid (HA3.out.next hb4)
                      clear hb4 c0 c1 c2 c3 c4 c5 c6 c7 c8 c9 c10 c11
                      obtain ⟨c0, c1, c2, c3, c4, c5, c6, c7, c8, c9, c10, c11⟩ := HA4.out
                      go_wp2_with fail
                      refine (D2.out _).mono ?_
                      rintro e W5 ⟨rfl, rfl⟩
                      go_wp2
                      go_ret
                      exact ⟨rfl, HB4.out⟩
                · by_cases g9 : k = 2
                  · subst g9
                    cases hq : eqOB 0 0 ⟨#[]⟩ p v pt pr s p v
                    · obtain rfl : B = false := by
                        rw [← hB]
                        have e0 : strN ⟨#[]⟩ = [] := rfl
                        by_cases h0 : pt = 0 ∧ pr = 0
                        · have : ¬ strN s = [] := by
                            intro h
                            obtain ⟨rfl, rfl⟩ := h0
                            have : eqOB 0 0 ⟨#[]⟩ p v 0 0 s p v = true := by simp [eqOB, e0, h]
                            rw [this] at hq
                            exact absurd hq (by decide)
                          simp [kndB, this]
                        · simp [kndB, h0]
                      clear hB
                      go_wp2_with fail
                      go_region
                      go_wp2_with fail
                      refine (E.out _ (HR1.out.alloc _).drew _ _ _ _ _ _ _ _ _ _).mono ?_
                      rintro e W3 ⟨rfl, hb3⟩
                      rw [hq]
                      have HB3 := Lib.hid ((HB1.out.alloc HB1.out.size _).drew.trans (hb3.mono (HB1.out.alloc HB1.out.size _).drew.size))
                      have HA3 := Lib.hid ((HA1.out.next (box_bel _ _)).drew.next hb3)
                      clear hb3 c0 c1 c2 c3 c4 c5 c6 c7 c8 c9 c10 c11 hq
                      obtain ⟨c0, c1, c2, c3, c4, c5, c6, c7, c8, c9, c10, c11⟩ := HA3.out
                      go_wp2
                      go_ret
                      exact ⟨rfl, HB3.out⟩
                    · have hpv : (pt = 0 ∧ pr = 0) ∧ strN s = [] := by
                        have e0 : strN ⟨#[]⟩ = [] := rfl
                        simp [eqOB, e0] at hq
                        exact ⟨⟨by omega, by omega⟩, hq.2⟩
                      obtain ⟨hp0, hv0⟩ := hpv
                      have D2 := Lib.hid (fun W => Pr.refCheck_any p v W)
                      by_cases h1 : Pr.errP p v = 0
                      · obtain rfl : B = true := by rw [← hB]; simp [kndB, h1, hp0, hv0]
                        rw [h1] at D2
                        clear h1 hp0 hv0
                        clear hB
                        go_wp2_with fail
                        go_region
                        go_wp2_with fail
                        refine (E.out _ (HR1.out.alloc _).drew _ _ _ _ _ _ _ _ _ _).mono ?_
                        rintro e W3 ⟨rfl, hb3⟩
                        rw [hq]
                        have HB3 := Lib.hid ((HB1.out.alloc HB1.out.size _).drew.trans (hb3.mono (HB1.out.alloc HB1.out.size _).drew.size))
                        have HA3 := Lib.hid ((HA1.out.next (box_bel _ _)).drew.next hb3)
                        clear hb3 c0 c1 c2 c3 c4 c5 c6 c7 c8 c9 c10 c11 hq
                        obtain ⟨c0, c1, c2, c3, c4, c5, c6, c7, c8, c9, c10, c11⟩ := HA3.out
                        go_wp2_with fail
                        refine (D2.out _).mono ?_
                        rintro e W5 ⟨rfl, rfl⟩
                        go_wp2
                        go_ret
                        exact ⟨rfl, HB3.out⟩
                      · obtain rfl : B = false := by rw [← hB]; simp [kndB, h1]
                        have h1' : (Pr.errP p v == 0) = false := by simpa using h1
                        generalize Pr.errP p v = z at *
                        clear hp0 hv0
                        clear hB
                        go_wp2_with fail
                        go_region
                        go_wp2_with fail
                        refine (E.out _ (HR1.out.alloc _).drew _ _ _ _ _ _ _ _ _ _).mono ?_
                        rintro e W3 ⟨rfl, hb3⟩
                        rw [hq]
                        have HB3 := Lib.hid ((HB1.out.alloc HB1.out.size _).drew.trans (hb3.mono (HB1.out.alloc HB1.out.size _).drew.size))
                        have HA3 := Lib.hid ((HA1.out.next (box_bel _ _)).drew.next hb3)
                        clear hb3 c0 c1 c2 c3 c4 c5 c6 c7 c8 c9 c10 c11 hq
                        obtain ⟨c0, c1, c2, c3, c4, c5, c6, c7, c8, c9, c10, c11⟩ := HA3.out
                        go_wp2_with fail
                        refine (D2.out _).mono ?_
                        rintro e W5 ⟨rfl, rfl⟩
                        go_wp2
                        go_ret
                        exact ⟨rfl, HB3.out⟩
                  · obtain rfl : B = false := by rw [← hB]; simp [kndB, g8, g9]
                    have g8' : (k == 1) = false := by simpa using g8
                    have g9' : (k == 2) = false := by simpa using g9
                    clear hB E
                    go_wp2
                    go_ret
                    exact ⟨rfl, HB1.out.alloc HB1.out.size _⟩
            · have hd6 : (q != x + 1) = true := by simpa using g6
              have x3 : True := trivial
              rw [decide_eq_false g6] at hB
              obtain rfl : B = false := by rw [← hB]; simp
              clear hB
              repeat (go_big_quiet_step ((first | (go_at_call_of 66 (Value.agg #[.int .i64 t, .int .i64 (rn : Int)]); with_reducible exact x1 _ _) | (go_at_call_of 66 (Value.agg #[.int .i64 nt, .int .i64 nr]); with_reducible exact x3 _ _) | (go_at_call 37; with_reducible exact x2 _ _))))
              refine wpQuiet_nil ?_
              intro _ hw'
              obtain ⟨⟨dq, osq⟩, hw''⟩ := hw'
              subst hw''
              go_wp2
              go_ret
              exact ⟨rfl, HB.out.trans ((below_regrown _ dq osq).mono HB.out.size)⟩
      · have hd3 : decide ((dn : Int) ≤ r) = true := decide_eq_true (by have := HN.out; omega)
        have hd3' : (dn : Int) ≤ r := by have := HN.out; omega
        have x3 : True := trivial
        obtain rfl : B = false := by rw [← hB]; simp [opB, cntB, g3]
        clear hB g1 g2 g3 HVR
        repeat (go_big_quiet_step ((first | (go_at_call_of 66 (Value.agg #[.int .i64 t, .int .i64 r]); with_reducible exact x1 _ _) | (go_at_call_of 66 (Value.agg #[.int .i64 nt, .int .i64 nr]); with_reducible exact x3 _ _) | (go_at_call 37; with_reducible exact x2 _ _))))
        refine wpQuiet_nil ?_
        intro _ hw'
        obtain ⟨⟨dq, osq⟩, hw''⟩ := hw'
        subst hw''
        go_wp2
        go_ret
        exact ⟨rfl, HB.out.trans ((below_regrown _ dq osq).mono HB.out.size)⟩
end Go.Proofs.YtfhppfbmnnkikaaDoor
