/- Operations: words; which part is which; whether an operation is counted, and of its kind. -/
import Derived.Test.YtabbbpmhmlapgaaDoorSW
import Derived.Test.YtabbbpmhmlapgaaDoorH7
import Derived.Test.YtabbbpmhmlapgaaDoorKK
import Derived.Test.YtabbbpmhmlapgaaDoorP6
namespace Go.Proofs.YtabbbpmhmlapgaaDoor
open Go.RowKit Go.Lib
set_option linter.unusedVariables false

/-- Deps, Stamp's Rep and Seq fit -/
def cntB (r q : Int) (ds : List Int) : Bool := Hv.vecB ds && decide (r < ds.length) && decide (1 ≤ q) && decide (q ≤ 1099511627776) && decide (q = ds.getD r.toNat 0 + 1)
/-- what a kind asks for, and nothing of the other kind's -/
def kndB (k pt pr : Int) (s : ByteArray) (p v : Int) : Bool :=
  if k = 1 then St.plB pt pr && Ky.keyB (strN s) && decide (p = 0) && decide (v = 0) else if k = 2 then decide (Pr.errP p v = 0) && decide (pt = 0 ∧ pr = 0) && decide (strN s = []) else false
/-- an operation that may be -/
def opB (t r q : Int) (ds : List Int) (k nt nr pt pr : Int) (s : ByteArray) (p v : Int) : Bool := St.stB t r && St.stB nt nr && cntB r q ds && kndB k pt pr s p v

/-- an operation at a place -/
structure OpAt (w : World) (b o : Nat) (t r q : Int) (da : Option Addr) (dn dc : Nat) (k nt nr pt pr : Int) (s : ByteArray) (p v : Int) : Prop where
  c0 : w.cell? ⟨b, o, none⟩ = some (.int .i64 t)
  c1 : w.cell? ⟨b, o + 1, none⟩ = some (.int .i64 r)
  c2 : w.cell? ⟨b, o + 2, none⟩ = some (.int .i64 q)
  c3 : w.cell? ⟨b, o + 3, none⟩ = some (.slice da dn dc)
  c4 : w.cell? ⟨b, o + 4, none⟩ = some (.int .i64 k)
  c5 : w.cell? ⟨b, o + 5, none⟩ = some (.int .i64 nt)
  c6 : w.cell? ⟨b, o + 6, none⟩ = some (.int .i64 nr)
  c7 : w.cell? ⟨b, o + 7, none⟩ = some (.int .i64 pt)
  c8 : w.cell? ⟨b, o + 8, none⟩ = some (.int .i64 pr)
  c9 : w.cell? ⟨b, o + 9, none⟩ = some (.string s)
  c10 : w.cell? ⟨b, o + 10, none⟩ = some (.int .i64 p)
  c11 : w.cell? ⟨b, o + 11, none⟩ = some (.int .i64 v)
theorem OpAt.lt {w : World} {b o : Nat} {t r q : Int} {da : Option Addr} {dn dc : Nat} {k nt nr pt pr : Int} {s : ByteArray} {p v : Int} (h : OpAt w b o t r q da dn dc k nt nr pt pr s p v) : b < w.heap.size := World.block_lt_of_cell? _ _ h.c0
theorem OpAt.below {w w' : World} {b o B : Nat} {t r q : Int} {da : Option Addr} {dn dc : Nat} {k nt nr pt pr : Int} {s : ByteArray} {p v : Int} (h : OpAt w b o t r q da dn dc k nt nr pt pr s p v) (hb : Below B w w') (hB : b < B) : OpAt w' b o t r q da dn dc k nt nr pt pr s p v :=
  ⟨(hb.cell (p := ⟨b, o, none⟩) hB).trans h.c0, (hb.cell (p := ⟨b, o + 1, none⟩) hB).trans h.c1, (hb.cell (p := ⟨b, o + 2, none⟩) hB).trans h.c2, (hb.cell (p := ⟨b, o + 3, none⟩) hB).trans h.c3, (hb.cell (p := ⟨b, o + 4, none⟩) hB).trans h.c4, (hb.cell (p := ⟨b, o + 5, none⟩) hB).trans h.c5, (hb.cell (p := ⟨b, o + 6, none⟩) hB).trans h.c6, (hb.cell (p := ⟨b, o + 7, none⟩) hB).trans h.c7, (hb.cell (p := ⟨b, o + 8, none⟩) hB).trans h.c8, (hb.cell (p := ⟨b, o + 9, none⟩) hB).trans h.c9, (hb.cell (p := ⟨b, o + 10, none⟩) hB).trans h.c10, (hb.cell (p := ⟨b, o + 11, none⟩) hB).trans h.c11⟩
theorem OpAt.next {w w' : World} {b o : Nat} {t r q : Int} {da : Option Addr} {dn dc : Nat} {k nt nr pt pr : Int} {s : ByteArray} {p v : Int} (h : OpAt w b o t r q da dn dc k nt nr pt pr s p v) (hb : Below w.heap.size w w') : OpAt w' b o t r q da dn dc k nt nr pt pr s p v := h.below hb h.lt
theorem OpAt.drewN {w : World} {b o : Nat} {t r q : Int} {da : Option Addr} {dn dc : Nat} {k nt nr pt pr : Int} {s : ByteArray} {p v : Int} (h : OpAt w b o t r q da dn dc k nt nr pt pr s p v) (n : Nat) : OpAt (w.drewN n) b o t r q da dn dc k nt nr pt pr s p v := ⟨h.c0, h.c1, h.c2, h.c3, h.c4, h.c5, h.c6, h.c7, h.c8, h.c9, h.c10, h.c11⟩
theorem OpAt.drew {w : World} {b o : Nat} {t r q : Int} {da : Option Addr} {dn dc : Nat} {k nt nr pt pr : Int} {s : ByteArray} {p v : Int} (h : OpAt w b o t r q da dn dc k nt nr pt pr s p v) : OpAt w.drew b o t r q da dn dc k nt nr pt pr s p v := ⟨h.c0, h.c1, h.c2, h.c3, h.c4, h.c5, h.c6, h.c7, h.c8, h.c9, h.c10, h.c11⟩
theorem OpAt.new (w : World) (t r q : Int) (da : Option Addr) (ds : List Int) (dn dc : Nat) (k nt nr pt pr : Int) (s : ByteArray) (p v : Int) : OpAt (w.alloc (.cells #[.int .i64 t, .int .i64 r, .int .i64 q, .slice da dn dc, .int .i64 k, .int .i64 nt, .int .i64 nr, .int .i64 pt, .int .i64 pr, .string s, .int .i64 p, .int .i64 v] 27)) w.heap.size 0 t r q da dn dc k nt nr pt pr s p v := ⟨by simp, by simp, by simp, by simp, by simp, by simp, by simp, by simp, by simp, by simp, by simp, by simp⟩
theorem box_bel (w : World) (o : Obj) : Below w.heap.size w (w.alloc o) := (Below.refl _ _).alloc (Nat.le_refl _) _

theorem stB_rep {t r : Int} (h : St.stB t r = true) : 0 ≤ r ∧ r < 16 := by simp [St.stB] at h; omega

set_option maxHeartbeats 400000 in
theorem fieldAt_any (i k : Int) (w : World) (h0 : 0 ≤ i) (h1 : i < 6) : Calls Tryd.prog 33 #[.int .i64 i, .int .i64 k] w fun e w' => e = .returned (.int .i64 (if 3 < i ∧ k = 2 then i + 2 else i)) ∧ w = w' := by
  by_cases g1 : 3 < i
  · by_cases g2 : k = 2
    · subst g2
      rw [if_pos ⟨g1, rfl⟩]
      go_enter Tryd.func33, Tryd.ntmps33
      go_wp2
      go_ret
      exact ⟨ret_int (by omega), rfl⟩
    · rw [if_neg (by omega)]
      have g2' : (k == 2) = false := by simpa using g2
      go_enter Tryd.func33, Tryd.ntmps33
      go_wp2
      go_ret
      exact ⟨rfl, rfl⟩
  · rw [if_neg (by omega)]
    go_enter Tryd.func33, Tryd.ntmps33
    go_wp2
    go_ret
    exact ⟨rfl, rfl⟩

set_option maxHeartbeats 1000000 in
theorem counted_any (t r q : Int) (da : Option Addr) (ds : List Int) (dn dc : Nat) (k nt nr pt pr : Int) (s : ByteArray) (p v : Int) (w : World) (hr : RowK .i64 w da ds) (hn : dn = ds.length) (hl : ds.length ≤ 140737488355328) (h0 : St.stB t r = true) : Calls Tryd.prog 15 #[.agg #[.int .i64 t, .int .i64 r, .int .i64 q, .slice da dn dc, .int .i64 k, .int .i64 nt, .int .i64 nr, .int .i64 pt, .int .i64 pr, .string s, .int .i64 p, .int .i64 v]] w (BoolPost w (cntB r q ds)) := by
  obtain ⟨hr0, hr1⟩ := stB_rep h0
  clear h0
  by_cases g1 : Hv.vecB ds = true
  · have C := Lib.hid (Hv.check_yes da ds dn dc (w.alloc (.cells #[.int .i64 t, .int .i64 r, .int .i64 q, .slice da dn dc, .int .i64 k, .int .i64 nt, .int .i64 nr, .int .i64 pt, .int .i64 pr, .string s, .int .i64 p, .int .i64 v] 27)) (hr.alloc _) hn hl g1)
    have HB := Lib.hid (box_bel w (.cells #[.int .i64 t, .int .i64 r, .int .i64 q, .slice da dn dc, .int .i64 k, .int .i64 nt, .int .i64 nr, .int .i64 pt, .int .i64 pr, .string s, .int .i64 p, .int .i64 v] 27))
    by_cases g2 : r < ds.length
    · have hd2 : decide ((dn : Int) ≤ r) = false := decide_eq_false (by omega)
      have hd2' : ¬ (dn : Int) ≤ r := by omega
      obtain ⟨rn, rfl⟩ : ∃ rn : Nat, r = rn := ⟨r.toNat, by omega⟩
      have hrn : rn < dn := by omega
      obtain ⟨b, off, rfl, hc⟩ := hr rn (by omega)
      have hlt := World.block_lt_of_cell? _ _ hc
      have hc' : (w.alloc (.cells #[.int .i64 t, .int .i64 (rn : Int), .int .i64 q, .slice (some ⟨b, off, none⟩) dn dc, .int .i64 k, .int .i64 nt, .int .i64 nr, .int .i64 pt, .int .i64 pr, .string s, .int .i64 p, .int .i64 v] 27)).cell? ⟨b, off + rn, none⟩ = some (.int .i64 (ds.getD rn 0)) := ((box_bel w _).cell (p := ⟨b, off + rn, none⟩) hlt).trans hc
      have hx := Hv.vecB_at g1 (k := rn) (by omega)
      have hwx : wrap64 (ds.getD rn 0 + 1) = ds.getD rn 0 + 1 := IntWalk.wrap64_in _ (by omega)
      have hw2 : IntKind.i64.wrap (ds.getD rn 0 + 1) = ds.getD rn 0 + 1 := IntWalk.i64_in _ (by omega)
      have hE : cntB rn q ds = (decide (1 ≤ q) && decide (q ≤ 1099511627776) && decide (q = ds.getD rn 0 + 1)) := by
        have : (rn : Int) < (ds.length : Int) := by omega
        simp [cntB, g1, this]
      clear hc hlt hr hl g1 g2 hr0 hr1 hn
      rw [hE]
      clear hE
      generalize ds.getD rn 0 = x at *
      by_cases g3 : 1 ≤ q
      · by_cases g4 : q ≤ 1099511627776
        · by_cases g5 : q = x + 1
          · have hd5 : (q == x + 1) = true := by simpa using g5
            have hE : (decide (1 ≤ q) && decide (q ≤ 1099511627776) && decide (q = x + 1)) = true := by rw [decide_eq_true g3, decide_eq_true g4, decide_eq_true g5]; rfl
            rw [hE]
            clear g5
            clear hE
            go_enter Tryd.func15, Tryd.ntmps15
            go_wp2_with fail
            refine (C.out).mono ?_
            rintro e w' ⟨rfl, rfl⟩
            go_wp2_with fail
            go_quiet (fail)
            go_wp2
            go_ret
            exact ⟨rfl, below_drewN HB.out _⟩
          · have hd5 : (q == x + 1) = false := by simpa using g5
            have hE : (decide (1 ≤ q) && decide (q ≤ 1099511627776) && decide (q = x + 1)) = false := by simp [g5]
            rw [hE]
            clear hE
            go_enter Tryd.func15, Tryd.ntmps15
            go_wp2_with fail
            refine (C.out).mono ?_
            rintro e w' ⟨rfl, rfl⟩
            go_wp2_with fail
            go_quiet (fail)
            go_wp2
            go_ret
            exact ⟨rfl, below_drewN HB.out _⟩
        · have hd4 : decide (q ≤ 1099511627776) = false := decide_eq_false g4
          have hE : (decide (1 ≤ q) && decide (q ≤ 1099511627776) && decide (q = x + 1)) = false := by simp [hd4]
          rw [hE]
          clear hE
          go_enter Tryd.func15, Tryd.ntmps15
          go_wp2_with fail
          refine (C.out).mono ?_
          rintro e w' ⟨rfl, rfl⟩
          go_wp2_with fail
          go_quiet (fail)
          go_wp2
          go_ret
          exact ⟨rfl, below_drewN HB.out _⟩
      · have hd3 : decide (1 ≤ q) = false := decide_eq_false g3
        have hE : (decide (1 ≤ q) && decide (q ≤ 1099511627776) && decide (q = x + 1)) = false := by simp [hd3]
        rw [hE]
        clear hE
        go_enter Tryd.func15, Tryd.ntmps15
        go_wp2_with fail
        refine (C.out).mono ?_
        rintro e w' ⟨rfl, rfl⟩
        go_wp2_with fail
        go_quiet (fail)
        go_wp2
        go_ret
        exact ⟨rfl, below_drewN HB.out _⟩
    · have hE : cntB r q ds = false := by simp [cntB, g2]
      rw [hE]
      have hd2 : decide ((dn : Int) ≤ r) = true := decide_eq_true (by omega)
      have hd2' : (dn : Int) ≤ r := by omega
      clear hE hr hl hn g1 g2
      go_enter Tryd.func15, Tryd.ntmps15
      go_wp2_with fail
      refine (C.out).mono ?_
      rintro e w' ⟨rfl, rfl⟩
      go_wp2
      go_ret
      exact ⟨rfl, HB.out⟩
  · have g1' : Hv.vecB ds = false := by simpa using g1
    have hE : cntB r q ds = false := by simp [cntB, g1']
    rw [hE]
    have C := Lib.hid (Hv.check_no da ds dn dc (w.alloc (.cells #[.int .i64 t, .int .i64 r, .int .i64 q, .slice da dn dc, .int .i64 k, .int .i64 nt, .int .i64 nr, .int .i64 pt, .int .i64 pr, .string s, .int .i64 p, .int .i64 v] 27)) (hr.alloc _) hn hl g1')
    have HB := Lib.hid (box_bel w (.cells #[.int .i64 t, .int .i64 r, .int .i64 q, .slice da dn dc, .int .i64 k, .int .i64 nt, .int .i64 nr, .int .i64 pt, .int .i64 pr, .string s, .int .i64 p, .int .i64 v] 27))
    clear hE hr hl hn g1 g1'
    go_enter Tryd.func15, Tryd.ntmps15
    go_wp2_with fail
    refine (C.out).mono ?_
    rintro e w' ⟨rfl, rfl⟩
    go_wp2
    go_ret
    exact ⟨rfl, HB.out⟩
end Go.Proofs.YtabbbpmhmlapgaaDoor
