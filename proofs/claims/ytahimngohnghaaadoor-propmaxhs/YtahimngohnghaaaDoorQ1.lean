/- The walk of one: the values of one property. -/
import Derived.Test.YtahimngohnghaaaDoorP6
namespace Go.Proofs.YtahimngohnghaaaDoor
open Go.RowKit Go.Lib
set_option linter.unusedVariables false

theorem quiet_left {P : Program} {f : FuncId} {args : Array Value} {w : World} {n : Nat} {v : Value}
    (h : Calls P f args (w.drewN n) fun e w' => e = .returned v ∧ w.drewN n = w') : Calls P f args (w.drewN n) fun e w'' => e = .returned v ∧ ∃ m, w'' = w.drewN m :=
  h.mono fun _ _ ⟨he, hm⟩ => ⟨he, n, hm.symm⟩
theorem AskAt.drewN {w : World} {b o : Nat} {t v : Int} {ax : Option Addr} {nx cx : Nat} (h : AskAt w b o t v ax nx cx) (n : Nat) : AskAt (w.drewN n) b o t v ax nx cx := ⟨h.c0, h.c1, h.c2⟩
theorem below_drew1 {B : Nat} {a b : World} (h : Below B a b) : Below B a b.drew := ⟨h.os, h.tape, h.output, h.size, h.block⟩
theorem one_drew {w : World} {g : Nat} {v : Value} (h : One w g v) : One w.drew g v := ⟨h.c, h.f⟩
theorem rowK_set {w : World} {base g : Nat} (h : OwnK .i64 3 w base (.slice (some ⟨g, 0, none⟩) 19 19) usL) (p : Nat) (v : Int) : RowK .i64 (w.setCell ⟨g, p, none⟩ (.int .i64 v)).drew (some ⟨g, 0, none⟩) (usL.set p v) := by
  have h1 := OwnK.stored (zs := usL) rfl h p v
  obtain ⟨a, c, e, hr, _, _⟩ := h1.form
  simp only [Value.slice.injEq] at e
  obtain ⟨rfl, _, _⟩ := e
  exact hr
theorem plain_ok : ∀ q : Nat, q < 19 → errP q (usT q) = 0 := by decide
theorem set_at (p q : Nat) (v : Int) (hp : p < 19) (hq : q < 19) : (usL.set p v).getD q 0 = if q = p then v else usT q := by
  rw [List.getD_eq_getElem?_getD, List.getElem?_set]
  by_cases h : p = q
  · subst h
    rw [if_pos rfl, if_pos rfl, if_pos (by rw [show usL.length = 19 from rfl]; exact hp)]
    rfl
  · rw [if_neg h, if_neg (fun e => h e.symm), ← List.getD_eq_getElem?_getD]
    rfl
theorem allB_set (p : Nat) (v : Int) (hp : p < 19) : allB (usL.set p v) = decide (errP p v = 0) := by
  by_cases h : errP p v = 0
  · rw [decide_eq_true h, allB_iff]
    refine ⟨by rw [List.length_set]; rfl, fun q hq => ?_⟩
    rw [set_at p q v hp hq]
    by_cases hqp : q = p
    · subst hqp
      rw [if_pos rfl]
      exact h
    · rw [if_neg hqp]
      exact plain_ok q hq
  · rw [decide_eq_false h]
    refine allB_no hp ?_
    rw [set_at p p v hp hp, if_pos rfl]
    exact h

set_option maxHeartbeats 8000000 in
set_option maxRecDepth 100000 in
theorem one_walk (a : Option Addr) (n cap : Nat) (p : Nat) (hp : p < 19) (w : World) (ht : Tab w) (h : AsksIs w a n) :
    Calls Tryd.prog 30 #[.slice a n cap, .int .i64 (p : Int)] w (BoolPost w true) := by
  have mixed : Tryd.prog.follows .mixedOrders = true := by kernel_rfl
  have HA := Lib.hid h
  have HT0 := Lib.hid ht
  have HP := Lib.hid hp
  have CD := Lib.hid (default_any (p : Int) w ht)
  have CG := Lib.hid (goes_any (p : Int) w ht)
  rw [errN_yes (propB_nat hp)] at CD CG
  have CRD := Lib.hid (refDefault_any (p : Int) w)
  have CRG := Lib.hid (refGoes_any (p : Int) w)
  have HN0 := Lib.hid (fun W => num_any 0 W)
  have hp19 : (p : Int) < 19 := by omega
  clear h ht hp
  generalize usZ (p : Int) = us at *
  generalize inZ (p : Int) = inh at *
  have huu : (us != us) = false := by simp
  have hii : (inh != inh) = false := by simp
  go_enter Tryd.func30, Tryd.ntmps30
  go_wp2_with fail
  refine (CD.out).mono ?_
  rintro e w1 ⟨rfl, rfl⟩
  go_wp2_with fail
  refine (CG.out).mono ?_
  rintro e w1 ⟨rfl, rfl⟩
  go_wp2_with fail
  refine (HN0.out _).mono ?_
  rintro e w1 ⟨rfl, rfl⟩
  go_wp2_with fail
  refine (HN0.out _).mono ?_
  rintro e w1 ⟨rfl, rfl⟩
  go_wp2_with fail
  refine (CRD.out).mono ?_
  rintro e w1 ⟨rfl, rfl⟩
  go_wp2_with fail
  refine (CRG.out).mono ?_
  rintro e w1 ⟨rfl, rfl⟩
  clear CD CG CRD CRG HN0
  go_wp2
  go_loopg [9] 30 (fun g1 v wr => ∃ i : Nat, v = .int .i64 i ∧ i ≤ 30 ∧ 30 - i ≤ g1 ∧ Hid (Below w.heap.size w wr))
  case atStart => exact ⟨0, rfl, by omega, by omega, Below.refl _ _⟩
  case round =>
    obtain ⟨i, rfl, hi30, hg1, HB⟩ := hrel
    have HT := Lib.hid (HT0.out.below HB.out HT0.out.lt)
    have HW := Lib.hid (wakes_any wr HT.out)
    by_cases hin : i < n
    · have hinz : decide ((i : Int) < (n : Int)) = true := decide_eq_true (by omega)
      have hiny : (i : Int) < (n : Int) := by omega
      by_cases hi : i < 30
      · have hiz : decide ((i : Int) < 30) = true := decide_eq_true (by omega)
        have hiy : (i : Int) < 30 := by omega
        clear HW
        obtain ⟨b, off, t, v, ax, xs, cx, rfl, hask, hrow⟩ := HA.out i hin
        have hask2 := hask.below HB.out hask.lt
        have q1 := hask2.c1
        have HS := Lib.hid hask2
        clear hask hrow hask2
        have HCK := Lib.hid (fun W (h : Tab W) => check_any (p : Int) v W h)
        have HRC := Lib.hid (fun W => refCheck_any (p : Int) v W)
        have HAL := Lib.hid (allB_set p v HP.out)
        by_cases he : errP (p : Int) v = 0
        · rw [he] at HCK HRC
          rw [decide_eq_true he] at HAL
          clear he
          have HNX := Lib.hid (fun W => num_any 0 W)
          go_wp2_with fail
          go_quiet (first | (go_at_call 16; exact quiet_left (HCK.out _ (HT.out.drewN _))) | (go_at_call 15; exact quiet_left (HNX.out _)) | (go_at_call 17; exact quiet_left (HRC.out _)))
          have HQ : Hid (AskAt (wr.drewN nq) b (off + i * 3) t v ax xs.length cx ∧ Below w.heap.size w (wr.drewN nq) ∧ Tab (wr.drewN nq)) := ⟨HS.out.drewN _, below_drewN HB.out _, HT.out.drewN _⟩
          clear HS HB HT q1
          generalize wr.drewN nq = w2 at *
          have CP := Lib.hid (plain_any w2 HQ.out.2.2)
          go_wp2_with fail
          refine (CP.out).mono ?_
          rintro e w3 ⟨g, rfl, ho3, hb3⟩
          clear CP
          have hs3 := hb3.size
          have HO : Hid (OwnK .i64 3 (w3.alloc (.cells #[.slice (some ⟨g, 0, none⟩) 19 19] 25)) w2.heap.size (.slice (some ⟨g, 0, none⟩) 19 19) usL) := ho3.alloc _
          have HQ4 : Hid (AskAt (w3.alloc (.cells #[.slice (some ⟨g, 0, none⟩) 19 19] 25)) b (off + i * 3) t v ax xs.length cx ∧ Below w.heap.size w (w3.alloc (.cells #[.slice (some ⟨g, 0, none⟩) 19 19] 25)) ∧ Tab (w3.alloc (.cells #[.slice (some ⟨g, 0, none⟩) 19 19] 25))) := by
            have h4 : Below w2.heap.size w2 (w3.alloc (.cells #[.slice (some ⟨g, 0, none⟩) 19 19] 25)) := hb3.alloc hs3 _
            exact ⟨HQ.out.1.below h4 HQ.out.1.lt, HQ.out.2.1.trans (h4.mono HQ.out.2.1.size), HQ.out.2.2.below h4 HQ.out.2.2.lt⟩
          have HS4 : Hid (One (w3.alloc (.cells #[.slice (some ⟨g, 0, none⟩) 19 19] 25)) w3.heap.size (.slice (some ⟨g, 0, none⟩) 19 19)) := One.new w3 _ 25
          have hgne : g ≠ w3.heap.size := by
            have h1 : w2.heap.size ≤ g ∧ g < w3.heap.size := OwnK.lt ho3 rfl
            omega
          have HL : Hid (b < w2.heap.size ∧ g ≠ w3.heap.size ∧ w.heap.size ≤ w2.heap.size ∧ 0 < w2.heap.size) := ⟨HQ.out.1.lt, hgne, HQ.out.2.1.size, HQ.out.2.2.lt⟩
          clear HQ ho3 hb3 hgne
          have hcell : (w3.alloc (.cells #[.slice (some ⟨g, 0, none⟩) 19 19] 25)).cell? ⟨w3.heap.size, 0, none⟩ = some (.slice (some ⟨g, 0, none⟩) 19 19) := HS4.out.c
          go_wp2_with fail
          clear hcell
          generalize w3.alloc (.cells #[.slice (some ⟨g, 0, none⟩) 19 19] 25) = w4 at *
          generalize w3.heap.size = gs at *
          obtain ⟨k1, f1, k2, k3⟩ := OwnK.cellAt (zs := usL) rfl HO.out p HP.out
          have k4 : w4.cell? ⟨gs, 0, none⟩ = some (.slice (some ⟨g, 0, none⟩) 19 19) := HS4.out.c
          have k5 : w4.cell? ⟨b, off + i * 3 + 1, none⟩ = some (.int .i64 v) := HQ4.out.1.c1
          generalize usL.getD p 0 = y at k1
          go_region
          have HQ5 : Hid (AskAt (w4.setCell ⟨g, p, none⟩ (.int .i64 v)).drew b (off + i * 3) t v ax xs.length cx ∧ Below w.heap.size w (w4.setCell ⟨g, p, none⟩ (.int .i64 v)).drew ∧ Tab (w4.setCell ⟨g, p, none⟩ (.int .i64 v)).drew ∧ RowK .i64 (w4.setCell ⟨g, p, none⟩ (.int .i64 v)).drew (some ⟨g, 0, none⟩) (usL.set p v) ∧ One (w4.setCell ⟨g, p, none⟩ (.int .i64 v)).drew gs (.slice (some ⟨g, 0, none⟩) 19 19)) := by
            have h5 : Below w2.heap.size w4 (w4.setCell ⟨g, p, none⟩ (.int .i64 v)).drew := below_drew1 ((Below.refl w2.heap.size w4).setCell (p := ⟨g, p, none⟩) k2 _)
            obtain ⟨hl1, hl2, hl3, hl4⟩ := HL.out
            exact ⟨HQ4.out.1.below h5 hl1, HQ4.out.2.1.trans (h5.mono hl3), HQ4.out.2.2.below h5 hl4, rowK_set HO.out p v, one_drew (HS4.out.other (fun e => hl2 e.symm) _)⟩
          clear HQ4 HS4 HO HL k1 f1 k2 k3 k4 k5
          generalize (w4.setCell ⟨g, p, none⟩ (.int .i64 v)).drew = w5 at *
          have C24 : Hid (∀ W, RowK .i64 W (some ⟨g, 0, none⟩) (usL.set p v) → Tab W → Calls Tryd.prog 24 #[.agg #[.slice (some ⟨g, 0, none⟩) 19 19]] W (fun e w' => e = .returned (.int .i64 0) ∧ Below W.heap.size W w')) := fun W h1 h2 => by
            have h3 := all_any (some ⟨g, 0, none⟩) (usL.set p v) 19 19 W (by rw [List.length_set]; rfl) (by omega) h1 h2
            unfold AllPost at h3
            rw [HAL.out] at h3
            exact h3
          have HND := Lib.hid (fun W => num_any 0 W)
          have r0 : w5.cell? ⟨gs, 0, none⟩ = some (.slice (some ⟨g, 0, none⟩) 19 19) := HQ5.out.2.2.2.2.c
          have r1 : w5.cell? ⟨b, off + i * 3 + 1, none⟩ = some (.int .i64 v) := HQ5.out.1.c1
          have HK : Hid (∀ W w6, Below w5.heap.size w5 W → Below W.heap.size W w6 → w6.cell? ⟨gs, 0, none⟩ = some (.slice (some ⟨g, 0, none⟩) 19 19) ∧ w6.cell? ⟨b, off + i * 3 + 1, none⟩ = some (.int .i64 v) ∧ Below w.heap.size w w6) := fun W w6 h1 h2 => by
            have h3 : Below w5.heap.size w5 w6 := h1.trans (h2.mono h1.size)
            exact ⟨(HQ5.out.2.2.2.2.next h3).c, (HQ5.out.1.below h3 HQ5.out.1.lt).c1, HQ5.out.2.1.trans (h3.mono HQ5.out.2.1.size)⟩
          go_wp2_with fail
          go_region_held3 (fun W => W.cell? ⟨gs, 0, none⟩ = some (.slice (some ⟨g, 0, none⟩) 19 19) ∧ W.cell? ⟨b, off + i * 3 + 1, none⟩ = some (.int .i64 v)) (first | exact ⟨by assumption, by assumption⟩) (first
            | (go_at_call 24
               refine (C24.out w5.drew HQ5.out.2.2.2.1 HQ5.out.2.2.1.drew).mono ?_
               rintro e w6 ⟨rfl, hb6⟩
               obtain ⟨s0, s1, hb7⟩ := HK.out w5.drew w6 (below_drew1 (Below.refl _ _)) hb6
               have HB6 := Lib.hid hb7
               clear hb6 hb7)
            | (go_at_call 15
               refine (HND.out _).mono ?_
               rintro e w8 ⟨rfl, rfl⟩)
            | (go_at_call 17
               refine (HRC.out _).mono ?_
               rintro e w8 ⟨rfl, rfl⟩))
          go_wp2
          go_roundg (30 - (i + 1))
          case measure => omega
          case rel => exact ⟨i + 1, by go_num, by omega, by omega, HB6.out⟩
        · rw [decide_eq_false he] at HAL
          have hnb : (errP (p : Int) v == 0) = false := by simpa using he
          generalize errP (p : Int) v = x at *
          have hxx : (x != x) = false := by simp
          have HNX := Lib.hid (fun W => num_any x W)
          go_wp2_with fail
          go_quiet (first | (go_at_call 16; exact quiet_left (HCK.out _ (HT.out.drewN _))) | (go_at_call 15; exact quiet_left (HNX.out _)) | (go_at_call 17; exact quiet_left (HRC.out _)))
          have HQ : Hid (AskAt (wr.drewN nq) b (off + i * 3) t v ax xs.length cx ∧ Below w.heap.size w (wr.drewN nq) ∧ Tab (wr.drewN nq)) := ⟨HS.out.drewN _, below_drewN HB.out _, HT.out.drewN _⟩
          clear HS HB HT q1
          generalize wr.drewN nq = w2 at *
          have CP := Lib.hid (plain_any w2 HQ.out.2.2)
          go_wp2_with fail
          refine (CP.out).mono ?_
          rintro e w3 ⟨g, rfl, ho3, hb3⟩
          clear CP
          have hs3 := hb3.size
          have HO : Hid (OwnK .i64 3 (w3.alloc (.cells #[.slice (some ⟨g, 0, none⟩) 19 19] 25)) w2.heap.size (.slice (some ⟨g, 0, none⟩) 19 19) usL) := ho3.alloc _
          have HQ4 : Hid (AskAt (w3.alloc (.cells #[.slice (some ⟨g, 0, none⟩) 19 19] 25)) b (off + i * 3) t v ax xs.length cx ∧ Below w.heap.size w (w3.alloc (.cells #[.slice (some ⟨g, 0, none⟩) 19 19] 25)) ∧ Tab (w3.alloc (.cells #[.slice (some ⟨g, 0, none⟩) 19 19] 25))) := by
            have h4 : Below w2.heap.size w2 (w3.alloc (.cells #[.slice (some ⟨g, 0, none⟩) 19 19] 25)) := hb3.alloc hs3 _
            exact ⟨HQ.out.1.below h4 HQ.out.1.lt, HQ.out.2.1.trans (h4.mono HQ.out.2.1.size), HQ.out.2.2.below h4 HQ.out.2.2.lt⟩
          have HS4 : Hid (One (w3.alloc (.cells #[.slice (some ⟨g, 0, none⟩) 19 19] 25)) w3.heap.size (.slice (some ⟨g, 0, none⟩) 19 19)) := One.new w3 _ 25
          have hgne : g ≠ w3.heap.size := by
            have h1 : w2.heap.size ≤ g ∧ g < w3.heap.size := OwnK.lt ho3 rfl
            omega
          have HL : Hid (b < w2.heap.size ∧ g ≠ w3.heap.size ∧ w.heap.size ≤ w2.heap.size ∧ 0 < w2.heap.size) := ⟨HQ.out.1.lt, hgne, HQ.out.2.1.size, HQ.out.2.2.lt⟩
          clear HQ ho3 hb3 hgne
          have hcell : (w3.alloc (.cells #[.slice (some ⟨g, 0, none⟩) 19 19] 25)).cell? ⟨w3.heap.size, 0, none⟩ = some (.slice (some ⟨g, 0, none⟩) 19 19) := HS4.out.c
          go_wp2_with fail
          clear hcell
          generalize w3.alloc (.cells #[.slice (some ⟨g, 0, none⟩) 19 19] 25) = w4 at *
          generalize w3.heap.size = gs at *
          obtain ⟨k1, f1, k2, k3⟩ := OwnK.cellAt (zs := usL) rfl HO.out p HP.out
          have k4 : w4.cell? ⟨gs, 0, none⟩ = some (.slice (some ⟨g, 0, none⟩) 19 19) := HS4.out.c
          have k5 : w4.cell? ⟨b, off + i * 3 + 1, none⟩ = some (.int .i64 v) := HQ4.out.1.c1
          generalize usL.getD p 0 = y at k1
          go_region
          have HQ5 : Hid (AskAt (w4.setCell ⟨g, p, none⟩ (.int .i64 v)).drew b (off + i * 3) t v ax xs.length cx ∧ Below w.heap.size w (w4.setCell ⟨g, p, none⟩ (.int .i64 v)).drew ∧ Tab (w4.setCell ⟨g, p, none⟩ (.int .i64 v)).drew ∧ RowK .i64 (w4.setCell ⟨g, p, none⟩ (.int .i64 v)).drew (some ⟨g, 0, none⟩) (usL.set p v) ∧ One (w4.setCell ⟨g, p, none⟩ (.int .i64 v)).drew gs (.slice (some ⟨g, 0, none⟩) 19 19)) := by
            have h5 : Below w2.heap.size w4 (w4.setCell ⟨g, p, none⟩ (.int .i64 v)).drew := below_drew1 ((Below.refl w2.heap.size w4).setCell (p := ⟨g, p, none⟩) k2 _)
            obtain ⟨hl1, hl2, hl3, hl4⟩ := HL.out
            exact ⟨HQ4.out.1.below h5 hl1, HQ4.out.2.1.trans (h5.mono hl3), HQ4.out.2.2.below h5 hl4, rowK_set HO.out p v, one_drew (HS4.out.other (fun e => hl2 e.symm) _)⟩
          clear HQ4 HS4 HO HL k1 f1 k2 k3 k4 k5
          generalize (w4.setCell ⟨g, p, none⟩ (.int .i64 v)).drew = w5 at *
          have C24 : Hid (∀ W, RowK .i64 W (some ⟨g, 0, none⟩) (usL.set p v) → Tab W → Calls Tryd.prog 24 #[.agg #[.slice (some ⟨g, 0, none⟩) 19 19]] W (fun e w' => e = .returned (.int .i64 1) ∧ Below W.heap.size W w')) := fun W h1 h2 => by
            have h3 := all_any (some ⟨g, 0, none⟩) (usL.set p v) 19 19 W (by rw [List.length_set]; rfl) (by omega) h1 h2
            unfold AllPost at h3
            rw [HAL.out] at h3
            exact h3
          have HND := Lib.hid (fun W => num_any 1 W)
          have r0 : w5.cell? ⟨gs, 0, none⟩ = some (.slice (some ⟨g, 0, none⟩) 19 19) := HQ5.out.2.2.2.2.c
          have r1 : w5.cell? ⟨b, off + i * 3 + 1, none⟩ = some (.int .i64 v) := HQ5.out.1.c1
          have HK : Hid (∀ W w6, Below w5.heap.size w5 W → Below W.heap.size W w6 → w6.cell? ⟨gs, 0, none⟩ = some (.slice (some ⟨g, 0, none⟩) 19 19) ∧ w6.cell? ⟨b, off + i * 3 + 1, none⟩ = some (.int .i64 v) ∧ Below w.heap.size w w6) := fun W w6 h1 h2 => by
            have h3 : Below w5.heap.size w5 w6 := h1.trans (h2.mono h1.size)
            exact ⟨(HQ5.out.2.2.2.2.next h3).c, (HQ5.out.1.below h3 HQ5.out.1.lt).c1, HQ5.out.2.1.trans (h3.mono HQ5.out.2.1.size)⟩
          go_wp2_with fail
          go_region_held3 (fun W => W.cell? ⟨gs, 0, none⟩ = some (.slice (some ⟨g, 0, none⟩) 19 19) ∧ W.cell? ⟨b, off + i * 3 + 1, none⟩ = some (.int .i64 v)) (first | exact ⟨by assumption, by assumption⟩) (first
            | (go_at_call 24
               refine (C24.out w5.drew HQ5.out.2.2.2.1 HQ5.out.2.2.1.drew).mono ?_
               rintro e w6 ⟨rfl, hb6⟩
               obtain ⟨s0, s1, hb7⟩ := HK.out w5.drew w6 (below_drew1 (Below.refl _ _)) hb6
               have HB6 := Lib.hid hb7
               clear hb6 hb7)
            | (go_at_call 15
               refine (HND.out _).mono ?_
               rintro e w8 ⟨rfl, rfl⟩)
            | (go_at_call 17
               refine (HRC.out _).mono ?_
               rintro e w8 ⟨rfl, rfl⟩))
          go_wp2
          go_roundg (30 - (i + 1))
          case measure => omega
          case rel => exact ⟨i + 1, by go_num, by omega, by omega, HB6.out⟩
      · have hiz : decide ((i : Int) < 30) = false := decide_eq_false (by omega)
        have hiy : ¬ (i : Int) < 30 := by omega
        go_wp2_with fail
        refine (HW.out).mono ?_
        rintro e w1 ⟨rfl, rfl⟩
        go_wp2
        go_ret
        exact ⟨rfl, HB.out⟩
    · have hinz : decide ((i : Int) < (n : Int)) = false := decide_eq_false (by omega)
      have hiny : ¬ (i : Int) < (n : Int) := by omega
      go_wp2_with fail
      refine (HW.out).mono ?_
      rintro e w1 ⟨rfl, rfl⟩
      go_wp2
      go_ret
      exact ⟨rfl, HB.out⟩
end Go.Proofs.YtahimngohnghaaaDoor
