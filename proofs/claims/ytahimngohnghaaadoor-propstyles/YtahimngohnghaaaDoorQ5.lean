/- The walk of PropStyles. -/
import Derived.Test.YtahimngohnghaaaDoorP7
namespace Go.Proofs.YtahimngohnghaaaDoor
open Go.RowKit Go.Lib
set_option linter.unusedVariables false

theorem own_row {w : World} {base g : Nat} (h : OwnK .i64 3 w base (.slice (some ⟨g, 0, none⟩) 19 19) usL) : RowK .i64 w (some ⟨g, 0, none⟩) usL := by
  obtain ⟨a, c, e, hr, _, _⟩ := h.form
  simp only [Value.slice.injEq] at e
  obtain ⟨rfl, _, _⟩ := e
  exact hr
theorem allB_plain : allB usL = true := (allB_iff usL).2 ⟨rfl, fun p hp => plain_ok p hp⟩
theorem all_plain {g : Nat} (w : World) (hr : RowK .i64 w (some ⟨g, 0, none⟩) usL) (ht : Tab w) : Calls Tryd.prog 24 #[.agg #[.slice (some ⟨g, 0, none⟩) 19 19]] w (fun e w' => e = .returned (.int .i64 0) ∧ Below w.heap.size w w') := by
  have h3 := all_any (some ⟨g, 0, none⟩) usL 19 19 w rfl (by omega) hr ht
  unfold AllPost at h3
  rw [allB_plain] at h3
  exact h3
theorem Tab.grown {w w' : World} {row : Option Nat} (h : Tab w) (hg : w.grownBy w' row) (hne : some 0 ≠ row) : Tab w' :=
  ⟨fun p hp => hg.cell (h.lo p hp) hne, fun p hp => hg.cell (h.hi p hp) hne, fun p hp => hg.cell (h.us p hp) hne, fun p hp => hg.cell (h.inh p hp) hne⟩

/-- the two plain styles, each in a variable -/
structure St (w W : World) (ga g1 g2 : Nat) : Prop where
  oa : W.cell? ⟨ga, 0, none⟩ = some (.slice (some ⟨g1, 0, none⟩) 19 19)
  ob : W.cell? ⟨ga + 1, 0, none⟩ = some (.slice (some ⟨g2, 0, none⟩) 19 19)
  ra : OwnK .i64 3 W w.heap.size (.slice (some ⟨g1, 0, none⟩) 19 19) usL
  rb : OwnK .i64 3 W w.heap.size (.slice (some ⟨g2, 0, none⟩) 19 19) usL
  bel : Below w.heap.size w W
  tab : Tab W
  ne : g1 < g2 ∧ g2 < ga ∧ w.heap.size ≤ g1 ∧ 0 < w.heap.size
theorem St.drew {w W : World} {ga g1 g2 : Nat} (h : St w W ga g1 g2) : St w W.drew ga g1 g2 := ⟨h.oa, h.ob, h.ra.drewN 1, h.rb.drewN 1, below_drew1 h.bel, h.tab.drew, h.ne⟩
theorem St.next {w W W' : World} {ga g1 g2 : Nat} (h : St w W ga g1 g2) (hb : Below W.heap.size W W') : St w W' ga g1 g2 :=
  ⟨(hb.cell (p := ⟨ga, 0, none⟩) (World.block_lt_of_cell? _ _ h.oa)).trans h.oa, (hb.cell (p := ⟨ga + 1, 0, none⟩) (World.block_lt_of_cell? _ _ h.ob)).trans h.ob, h.ra.below hb, h.rb.below hb, h.bel.trans (hb.mono h.bel.size), h.tab.below hb h.tab.lt, h.ne⟩
structure StB (w W : World) (ga g2 : Nat) : Prop where
  ob : W.cell? ⟨ga + 1, 0, none⟩ = some (.slice (some ⟨g2, 0, none⟩) 19 19)
  rb : OwnK .i64 3 W w.heap.size (.slice (some ⟨g2, 0, none⟩) 19 19) usL
  bel : Below w.heap.size w W
  tab : Tab W
theorem StB.drew {w W : World} {ga g2 : Nat} (h : StB w W ga g2) : StB w W.drew ga g2 := ⟨h.ob, h.rb.drewN 1, below_drew1 h.bel, h.tab.drew⟩
theorem StB.next {w W W' : World} {ga g2 : Nat} (h : StB w W ga g2) (hb : Below W.heap.size W W') : StB w W' ga g2 :=
  ⟨(hb.cell (p := ⟨ga + 1, 0, none⟩) (World.block_lt_of_cell? _ _ h.ob)).trans h.ob, h.rb.below hb, h.bel.trans (hb.mono h.bel.size), h.tab.below hb h.tab.lt⟩
theorem St.over {w W W' : World} {ga g1 g2 : Nat} (h : St w W ga g1 g2) (hg : W.grownBy W' (Value.slice (some ⟨g1, 0, none⟩) 19 19).ownBlock) : StB w W' ga g2 := by
  obtain ⟨n1, n2, n3, n4⟩ := h.ne
  have hg' : W.grownBy W' (some g1) := hg
  exact ⟨hg'.cell h.ob (by simp; omega), h.rb.grown hg' (.inr (by simp [Value.ownBlock]; omega)), h.bel.grown hg' h.bel.size (fun g e => by injection e with e; omega), h.tab.grown hg' (by simp; omega)⟩
theorem St.start {w wr w1 w2 : World} {g1 g2 : Nat} (hb : Below w.heap.size w wr) (h1 : OwnK .i64 3 w1 wr.heap.size (.slice (some ⟨g1, 0, none⟩) 19 19) usL) (hb1 : Below wr.heap.size wr w1) (h2 : OwnK .i64 3 w2 w1.heap.size (.slice (some ⟨g2, 0, none⟩) 19 19) usL) (hb2 : Below w1.heap.size w1 w2) (ht : Tab w2) (h0 : 0 < w.heap.size) :
    St w ((w2.alloc (.cells #[.slice (some ⟨g1, 0, none⟩) 19 19] 25)).alloc (.cells #[.slice (some ⟨g2, 0, none⟩) 19 19] 25)) w2.heap.size g1 g2 := by
  have l1 : wr.heap.size ≤ g1 ∧ g1 < w1.heap.size := OwnK.lt h1 rfl
  have l2 : w1.heap.size ≤ g2 ∧ g2 < w2.heap.size := OwnK.lt h2 rfl
  have s0 := hb.size
  have s1 := hb1.size
  have s2 := hb2.size
  have hw2 : Below w.heap.size w w2 := (hb.trans (hb1.mono s0)).trans (hb2.mono (by omega))
  have o1 : OwnK .i64 3 w2 w.heap.size (.slice (some ⟨g1, 0, none⟩) 19 19) usL := (h1.below hb2).mono s0
  have o2 : OwnK .i64 3 w2 w.heap.size (.slice (some ⟨g2, 0, none⟩) 19 19) usL := h2.mono (by omega)
  have hA : Below w.heap.size w (w2.alloc (.cells #[.slice (some ⟨g1, 0, none⟩) 19 19] 25)) := hw2.alloc hw2.size _
  refine ⟨((One.new w2 (.slice (some ⟨g1, 0, none⟩) 19 19) 25).next ((Below.refl _ _).alloc (Nat.le_refl _) _)).c, ?_, (o1.alloc _).alloc _, (o2.alloc _).alloc _, hA.alloc hA.size _, (ht.alloc _).alloc _, by omega, by omega, by omega, h0⟩
  have := (One.new (w2.alloc (.cells #[.slice (some ⟨g1, 0, none⟩) 19 19] 25)) (.slice (some ⟨g2, 0, none⟩) 19 19) 25).c
  rw [show (w2.alloc (.cells #[.slice (some ⟨g1, 0, none⟩) 19 19] 25)).heap.size = w2.heap.size + 1 from by simp] at this
  exact this

set_option maxHeartbeats 8000000 in
set_option maxRecDepth 100000 in
theorem propStyles_walk (a : Option Addr) (n cap : Nat) (w : World) (ht : Tab w) (h : AsksIs w a n) :
    Calls Tryd.prog 4 #[.slice a n cap] w (BoolPost w true) := by
  have mixed : Tryd.prog.follows .mixedOrders = true := by kernel_rfl
  have HA := Lib.hid h
  have HT0 := Lib.hid ht
  clear h ht
  go_enter Tryd.func4, Tryd.ntmps4
  go_wp2
  go_loopg [3] 30 (fun g1 v wr => ∃ i : Nat, v = .int .i64 i ∧ i ≤ 30 ∧ 30 - i ≤ g1 ∧ Hid (Below w.heap.size w wr))
  case atStart => exact ⟨0, rfl, by omega, by omega, Below.refl _ _⟩
  case round =>
    obtain ⟨i, rfl, hi30, hg1, HB⟩ := hrel
    have HT := Lib.hid (HT0.out.below HB.out HT0.out.lt)
    by_cases hin : i < n
    · have hinz : decide ((i : Int) < (n : Int)) = true := decide_eq_true (by omega)
      have hiny : (i : Int) < (n : Int) := by omega
      by_cases hi : i < 30
      · have hiz : decide ((i : Int) < 30) = true := decide_eq_true (by omega)
        have hiy : (i : Int) < 30 := by omega
        obtain ⟨b, off, t, v, ax, xs, cx, rfl, hask, hrow⟩ := HA.out i hin
        have hask2 := hask.below HB.out hask.lt
        have q2 := hask2.c2
        have HLT := Lib.hid hask2.lt
        have HR := Lib.hid (hrow.below HB.out (Nat.le_refl _))
        clear hask hrow hask2
        obtain ⟨nx, hnx⟩ : ∃ k, k = xs.length := ⟨_, rfl⟩
        rw [← hnx] at q2
        have HNX := Lib.hid hnx
        clear hnx
        by_cases hbig : 1000 < nx
        · have hbz : decide ((1000 : Int) < (nx : Int)) = true := decide_eq_true (by omega)
          have hby : (1000 : Int) < (nx : Int) := by omega
          go_wp2
          go_ret
          exact ⟨rfl, HB.out⟩
        · have hbz : decide ((1000 : Int) < (nx : Int)) = false := decide_eq_false (by omega)
          have hby : ¬ (1000 : Int) < (nx : Int) := by omega
          cases hal : allB xs
          · have CA : Hid (Calls Tryd.prog 24 #[.agg #[.slice ax nx cx]] wr (fun e w' => e = .returned (.int .i64 1) ∧ Below wr.heap.size wr w')) := by
              have h3 := all_any ax xs nx cx wr HNX.out (by omega) HR.out HT.out
              unfold AllPost at h3
              rw [hal] at h3
              exact h3
            have CR : Hid (∀ W, Below wr.heap.size wr W → Calls Tryd.prog 25 #[.agg #[.slice ax nx cx]] W (fun e w' => e = .returned (.bool false) ∧ Below W.heap.size W w')) := fun W hb => by
              have h3 := refAll_any ax xs nx cx W HNX.out (by omega) (HR.out.below hb (Nat.le_refl _))
              unfold RefAllPost at h3
              rw [hal] at h3
              exact h3
            have HNN := Lib.hid (fun W => num_any 1 W)
            clear hal
            go_wp2_with fail
            refine (CA.out).mono ?_
            rintro e w1 ⟨rfl, hb1⟩
            have q3 := (hb1.cell (p := ⟨b, off + i * 3 + 2, none⟩) HLT.out).trans q2
            have HB1 := Lib.hid hb1
            have CR1 := Lib.hid (CR.out w1 hb1)
            clear hb1 CA CR q2
            go_wp2_with fail
            refine (HNN.out _).mono ?_
            rintro e w1' ⟨rfl, rfl⟩
            go_wp2_with fail
            refine (CR1.out).mono ?_
            rintro e w2 ⟨rfl, hb2⟩
            have HB2 : Hid (Below w.heap.size w w2) := (HB.out.trans (HB1.out.mono HB.out.size)).trans (hb2.mono (Nat.le_trans HB.out.size HB1.out.size))
            clear hb2 CR1 HB1
            go_wp2
            go_roundg (30 - (i + 1))
            case measure => omega
            case rel => exact ⟨i + 1, by go_num, by omega, by omega, HB2.out⟩
          · have CA : Hid (Calls Tryd.prog 24 #[.agg #[.slice ax nx cx]] wr (fun e w' => e = .returned (.int .i64 0) ∧ Below wr.heap.size wr w')) := by
              have h3 := all_any ax xs nx cx wr HNX.out (by omega) HR.out HT.out
              unfold AllPost at h3
              rw [hal] at h3
              exact h3
            have CR : Hid (∀ W, Below wr.heap.size wr W → Calls Tryd.prog 25 #[.agg #[.slice ax nx cx]] W (fun e w' => e = .returned (.bool true) ∧ Below W.heap.size W w')) := fun W hb => by
              have h3 := refAll_any ax xs nx cx W HNX.out (by omega) (HR.out.below hb (Nat.le_refl _))
              unfold RefAllPost at h3
              rw [hal] at h3
              exact h3
            have HNN := Lib.hid (fun W => num_any 0 W)
            clear hal
            go_wp2_with fail
            refine (CA.out).mono ?_
            rintro e w1 ⟨rfl, hb1⟩
            have q3 := (hb1.cell (p := ⟨b, off + i * 3 + 2, none⟩) HLT.out).trans q2
            have HB1 := Lib.hid hb1
            have CR1 := Lib.hid (CR.out w1 hb1)
            clear hb1 CA CR q2
            go_wp2_with fail
            refine (HNN.out _).mono ?_
            rintro e w1' ⟨rfl, rfl⟩
            go_wp2_with fail
            refine (CR1.out).mono ?_
            rintro e w2 ⟨rfl, hb2⟩
            have HB2 : Hid (Below w.heap.size w w2) := (HB.out.trans (HB1.out.mono HB.out.size)).trans (hb2.mono (Nat.le_trans HB.out.size HB1.out.size))
            clear hb2 CR1 HB1
            go_wp2
            go_roundg (30 - (i + 1))
            case measure => omega
            case rel => exact ⟨i + 1, by go_num, by omega, by omega, HB2.out⟩
      · have hiz : decide ((i : Int) < 30) = false := decide_eq_false (by omega)
        have hiy : ¬ (i : Int) < 30 := by omega
        go_wp2_with fail
        refine (plain_any wr HT.out).mono ?_
        rintro e w1 ⟨g1, rfl, ho1, hb1⟩
        have HT1 := Lib.hid (HT.out.below hb1 HT.out.lt)
        have HO1 := Lib.hid ho1
        have HB1 := Lib.hid hb1
        clear ho1 hb1
        go_wp2_with fail
        refine (plain_any w1 HT1.out).mono ?_
        rintro e w2 ⟨g2, rfl, ho2, hb2⟩
        have HS := Lib.hid (St.start HB.out HO1.out HB1.out ho2 hb2 (HT1.out.below hb2 HT1.out.lt) HT0.out.lt)
        clear ho2 hb2 HO1 HB1 HT1 HT HB
        go_wp2_with fail
        generalize (w2.alloc (.cells #[.slice (some ⟨g1, 0, none⟩) 19 19] 25)).alloc (.cells #[.slice (some ⟨g2, 0, none⟩) 19 19] 25) = w3 at *
        generalize hga : w2.heap.size = ga at *
        clear hga
        have N0 := Lib.hid (fun W => num_any 0 W)
        have k0 := HS.out.oa
        go_region_held3 (fun W => W.cell? ⟨ga, 0, none⟩ = some (.slice (some ⟨g1, 0, none⟩) 19 19)) (first | assumption) (first
          | (go_at_call 28
             refine (refPlain_any w3.drew).mono ?_
             rintro e w4 ⟨ap, cp, rfl, hr4, hb4⟩
             have HS4 := Lib.hid (HS.out.drew.next hb4)
             have HR4 := Lib.hid hr4
             have k4 := HS4.out.oa
             clear hr4 hb4)
          | (go_at_call 27
             refine (eqStyle_yes (some ⟨g1, 0, none⟩) ap usL 19 19 19 cp w4 (own_row HS4.out.ra) HR4.out rfl rfl (by decide)).mono ?_
             rintro e w5 ⟨rfl, hb5⟩
             have HS5 := Lib.hid (HS4.out.next hb5)
             have k5 := HS5.out.oa
             clear hb5)
          | (go_at_call 24
             refine (all_plain w5 (own_row HS5.out.ra) HS5.out.tab).mono ?_
             rintro e w6 ⟨rfl, hb6⟩
             have HS6 := Lib.hid (HS5.out.next hb6)
             have k6 := HS6.out.oa
             clear hb6)
          | (go_at_call 15
             refine (N0.out _).mono ?_
             rintro e w8 ⟨rfl, rfl⟩))
        clear HS HS4 HR4 HS5 k0 k4 k5
        go_wp2_with fail
        refine (over_any (.slice (some ⟨g1, 0, none⟩) 19 19) w.heap.size usL w6 HS6.out.ra HS6.out.bel.size (by decide)).mono ?_
        rintro e w7 ⟨rfl, hg7⟩
        have HS7 := Lib.hid (HS6.out.over hg7)
        clear hg7 HS6 k6
        have k7 := HS7.out.ob
        go_wp2_with fail
        go_region_held3 (fun W => W.cell? ⟨ga + 1, 0, none⟩ = some (.slice (some ⟨g2, 0, none⟩) 19 19)) (first | assumption) (first
          | (go_at_call 26
             refine (plain_any w7.drew HS7.out.tab.drew).mono ?_
             rintro e w8 ⟨g3, rfl, ho8, hb8⟩
             have HS8 := Lib.hid (HS7.out.drew.next hb8)
             have HO8 := Lib.hid ho8
             have k8 := HS8.out.ob
             clear ho8 hb8)
          | (go_at_call 27
             refine (eqStyle_yes (some ⟨g2, 0, none⟩) (some ⟨g3, 0, none⟩) usL 19 19 19 19 w8 (own_row HS8.out.rb) (own_row HO8.out) rfl rfl (by decide)).mono ?_
             rintro e w9 ⟨rfl, hb9⟩
             have HS9 := Lib.hid (HS8.out.next hb9)
             have k9 := HS9.out.ob
             clear hb9)
          | (go_at_call 23
             refine (wakes_any w9 HS9.out.tab).mono ?_
             rintro e w10 ⟨rfl, rfl⟩))
        go_wp2
        go_ret
        exact ⟨rfl, HS9.out.bel⟩
    · have hinz : decide ((i : Int) < (n : Int)) = false := decide_eq_false (by omega)
      have hiny : ¬ (i : Int) < (n : Int) := by omega
      go_wp2_with fail
      refine (plain_any wr HT.out).mono ?_
      rintro e w1 ⟨g1, rfl, ho1, hb1⟩
      have HT1 := Lib.hid (HT.out.below hb1 HT.out.lt)
      have HO1 := Lib.hid ho1
      have HB1 := Lib.hid hb1
      clear ho1 hb1
      go_wp2_with fail
      refine (plain_any w1 HT1.out).mono ?_
      rintro e w2 ⟨g2, rfl, ho2, hb2⟩
      have HS := Lib.hid (St.start HB.out HO1.out HB1.out ho2 hb2 (HT1.out.below hb2 HT1.out.lt) HT0.out.lt)
      clear ho2 hb2 HO1 HB1 HT1 HT HB
      go_wp2_with fail
      generalize (w2.alloc (.cells #[.slice (some ⟨g1, 0, none⟩) 19 19] 25)).alloc (.cells #[.slice (some ⟨g2, 0, none⟩) 19 19] 25) = w3 at *
      generalize hga : w2.heap.size = ga at *
      clear hga
      have N0 := Lib.hid (fun W => num_any 0 W)
      have k0 := HS.out.oa
      go_region_held3 (fun W => W.cell? ⟨ga, 0, none⟩ = some (.slice (some ⟨g1, 0, none⟩) 19 19)) (first | assumption) (first
        | (go_at_call 28
           refine (refPlain_any w3.drew).mono ?_
           rintro e w4 ⟨ap, cp, rfl, hr4, hb4⟩
           have HS4 := Lib.hid (HS.out.drew.next hb4)
           have HR4 := Lib.hid hr4
           have k4 := HS4.out.oa
           clear hr4 hb4)
        | (go_at_call 27
           refine (eqStyle_yes (some ⟨g1, 0, none⟩) ap usL 19 19 19 cp w4 (own_row HS4.out.ra) HR4.out rfl rfl (by decide)).mono ?_
           rintro e w5 ⟨rfl, hb5⟩
           have HS5 := Lib.hid (HS4.out.next hb5)
           have k5 := HS5.out.oa
           clear hb5)
        | (go_at_call 24
           refine (all_plain w5 (own_row HS5.out.ra) HS5.out.tab).mono ?_
           rintro e w6 ⟨rfl, hb6⟩
           have HS6 := Lib.hid (HS5.out.next hb6)
           have k6 := HS6.out.oa
           clear hb6)
        | (go_at_call 15
           refine (N0.out _).mono ?_
           rintro e w8 ⟨rfl, rfl⟩))
      clear HS HS4 HR4 HS5 k0 k4 k5
      go_wp2_with fail
      refine (over_any (.slice (some ⟨g1, 0, none⟩) 19 19) w.heap.size usL w6 HS6.out.ra HS6.out.bel.size (by decide)).mono ?_
      rintro e w7 ⟨rfl, hg7⟩
      have HS7 := Lib.hid (HS6.out.over hg7)
      clear hg7 HS6 k6
      have k7 := HS7.out.ob
      go_wp2_with fail
      go_region_held3 (fun W => W.cell? ⟨ga + 1, 0, none⟩ = some (.slice (some ⟨g2, 0, none⟩) 19 19)) (first | assumption) (first
        | (go_at_call 26
           refine (plain_any w7.drew HS7.out.tab.drew).mono ?_
           rintro e w8 ⟨g3, rfl, ho8, hb8⟩
           have HS8 := Lib.hid (HS7.out.drew.next hb8)
           have HO8 := Lib.hid ho8
           have k8 := HS8.out.ob
           clear ho8 hb8)
        | (go_at_call 27
           refine (eqStyle_yes (some ⟨g2, 0, none⟩) (some ⟨g3, 0, none⟩) usL 19 19 19 19 w8 (own_row HS8.out.rb) (own_row HO8.out) rfl rfl (by decide)).mono ?_
           rintro e w9 ⟨rfl, hb9⟩
           have HS9 := Lib.hid (HS8.out.next hb9)
           have k9 := HS9.out.ob
           clear hb9)
        | (go_at_call 23
           refine (wakes_any w9 HS9.out.tab).mono ?_
           rintro e w10 ⟨rfl, rfl⟩))
      go_wp2
      go_ret
      exact ⟨rfl, HS9.out.bel⟩
end Go.Proofs.YtahimngohnghaaaDoor
