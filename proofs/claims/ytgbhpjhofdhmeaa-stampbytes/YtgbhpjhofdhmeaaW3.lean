/- The walk of StampBytes. -/
import Derived.Test.YtgbhpjhofdhmeaaB4
import Derived.Deep.RegionWith
namespace Go.Proofs.Ytgbhpjhofdhmeaa
open Go.RowKit Go.Lib
set_option linter.unusedVariables false

/-- what is read of an ask, in a world -/
structure BB (w W : World) (b o : Nat) (t r u v : Int) (ax : Option Addr) (xs : List Int) (nx cx : Nat) : Prop where
  ask : AskAt W b o t r u v ax nx cx
  rx : RowK .u8 W ax xs
  bel : Below w.heap.size w W
theorem BB.below {w W W' : World} {b o : Nat} {t r u v : Int} {ax : Option Addr} {xs : List Int} {nx cx : Nat} (h : BB w W b o t r u v ax xs nx cx) (hb : Below W.heap.size W W') : BB w W' b o t r u v ax xs nx cx :=
  ⟨h.ask.below hb h.ask.lt, h.rx.below hb (Nat.le_refl _), h.bel.trans (hb.mono h.bel.size)⟩
theorem BB.drew {w W : World} {b o : Nat} {t r u v : Int} {ax : Option Addr} {xs : List Int} {nx cx : Nat} (h : BB w W b o t r u v ax xs nx cx) : BB w W.drew b o t r u v ax xs nx cx := ⟨h.ask.drew, h.rx, h.bel.drew⟩
theorem BB.drewN {w W : World} {b o : Nat} {t r u v : Int} {ax : Option Addr} {xs : List Int} {nx cx : Nat} (h : BB w W b o t r u v ax xs nx cx) (m : Nat) : BB w (W.drewN m) b o t r u v ax xs nx cx := ⟨⟨h.ask.c0, h.ask.c1, h.ask.c2, h.ask.c3, h.ask.c4⟩, h.rx, below_drewN h.bel m⟩
theorem BB.alloc {w W : World} {b o : Nat} {t r u v : Int} {ax : Option Addr} {xs : List Int} {nx cx : Nat} (h : BB w W b o t r u v ax xs nx cx) (x : Obj) : BB w (W.alloc x) b o t r u v ax xs nx cx := h.below (below_box _ _)

def TakeIs (x1 x2 : Int) (x3 : Nat) (x4 : Int) (w : World) (e : Ending) (w' : World) : Prop := e = .returned (.tuple #[.agg #[.int .i64 x1, .int .i64 x2], .int .i64 (x3 : Int), .int .i64 x4]) ∧ Below w.heap.size w w'
theorem take_is (a : Option Addr) (bs : List Int) (n cap : Nat) (w : World) (hn : n = bs.length) (hr : RowK .u8 w a bs) (hb : IsB bs) (hcap : bs.length ≤ cap) (hlen : bs.length ≤ 140737488355328) {x1 x2 : Int} {x3 : Nat} {x4 : Int} (h : tkSt bs = (x1, x2, x3, x4)) : Calls Try.prog 19 #[.slice a n cap] w (TakeIs x1 x2 x3 x4 w) := by
  have := take_any a bs n cap w hn hr hb hcap hlen
  rw [h] at this
  exact this
theorem refTake_is (a : Option Addr) (bs : List Int) (n cap : Nat) (w : World) (hn : n = bs.length) (hr : RowK .u8 w a bs) (hb : IsB bs) (hcap : bs.length ≤ cap) (hlen : bs.length ≤ 140737488355328) {x1 x2 : Int} {x3 : Nat} {x4 : Int} (h : tkSt bs = (x1, x2, x3, x4)) : Calls Try.prog 20 #[.slice a n cap] w (TakeIs x1 x2 x3 x4 w) := by
  have := refTake_any a bs n cap w hn hr hb hcap hlen
  rw [h] at this
  exact this
theorem cell_set2 {w : World} {b o g : Nat} {x u v : Value} (h : w.cell? ⟨b, o, none⟩ = some x) (hne : b ≠ g) : ((w.setCell ⟨g, 0, none⟩ u).setCell ⟨g, 1, none⟩ v).cell? ⟨b, o, none⟩ = some x := by
  rw [World.cell?_setCell_other _ _ _ _ (by simp [hne]), World.cell?_setCell_other _ _ _ _ (by simp [hne])]
  exact h
theorem StW.drew {w : World} {g : Nat} {t r : Int} (h : StW w g t r) : StW w.drew g t r := ⟨h.c0, h.c1, h.f0, h.f1⟩
theorem st_same (t r : Int) (W : World) : (binOp .neq 24 (.agg #[.int .i64 t, .int .i64 r]) (.agg #[.int .i64 t, .int .i64 r])).run Try.prog W = .ok (.bool false) W := by
  rw [st_neq]
  congr 2
  simp

set_option maxHeartbeats 8000000 in
set_option maxRecDepth 100000 in
theorem stampBytes_walk (a : Option Addr) (n cap : Nat) (w : World) (h : AsksIs w a n) :
    Calls Try.prog 5 #[.slice a n cap] w (BoolPost w true) := by
  have mixed : Try.prog.follows .mixedOrders = true := by kernel_rfl
  have HA := Lib.hid h
  clear h
  go_enter Try.func5, Try.ntmps5
  go_wp2
  go_loopg [3] 20 (fun g1 v wr => ∃ i : Nat, v = .int .i64 i ∧ i ≤ 20 ∧ 20 - i ≤ g1 ∧ Hid (Below w.heap.size w wr))
  case atStart => exact ⟨0, rfl, by omega, by omega, Below.refl _ _⟩
  case round =>
    obtain ⟨i, rfl, hi20, hg1, HB⟩ := hrel
    by_cases hin : i < n
    · have hinz : decide ((i : Int) < (n : Int)) = true := decide_eq_true (by omega)
      have hiny : (i : Int) < (n : Int) := by omega
      by_cases hi : i < 20
      · have hiz : decide ((i : Int) < 20) = true := decide_eq_true (by omega)
        have hiy : (i : Int) < 20 := by omega
        obtain ⟨b, off, t, r, u, v, ax, xs, cx, ea, hask, hrx, hib, hcx, _, _, _, _⟩ := HA.out i hin
        subst ea
        have hbl := hask.lt
        obtain ⟨nx, hnx⟩ : ∃ k, k = xs.length := ⟨_, rfl⟩
        rw [← hnx] at hask
        have HB0 : Hid (BB w wr b (off + i * 5) t r u v ax xs nx cx) := ⟨hask.below HB.out hask.lt, hrx.below HB.out (Nat.le_refl _), HB.out⟩
        have HNX := Lib.hid hnx
        have HIB := Lib.hid hib
        have HCX := Lib.hid hcx
        clear hask hrx hib hcx hnx
        obtain ⟨p0, p1, _, _, p4⟩ := HB0.out.ask
        by_cases hnx : nx ≤ 3000
        · have hnz : ¬ (3000 : Int) < (nx : Int) := by omega
          clear HB
          have hG := st_guard
          obtain ⟨⟨x1, x2, x3, x4⟩, hR⟩ : ∃ R, tkSt xs = R := ⟨_, rfl⟩
          have HTK := Lib.hid hR
          clear hR
          have hE := st_same x1 x2
          cases hp : plB t r
          · have C10 := Lib.hid (fun W => refPlace_is t r false hp W)
            have C17 := Lib.hid (fun W => bytes_no t r W hp)
            clear hp
            go_wp2_with fail
            refine (C10.out _).mono ?_
            rintro e w1 ⟨rfl, hb⟩
            have HB1 := Lib.hid (HB0.out.below hb)
            clear hb p0 p1 p4 HB0
            obtain ⟨p0, p1, _, _, p4⟩ := HB1.out.ask
            go_wp2_with fail
            refine (C17.out _).mono ?_
            rintro e w2 ⟨rfl, hb⟩
            have HB2 := Lib.hid (HB1.out.below hb)
            clear hb p0 p1 p4 HB1
            obtain ⟨p0, p1, _, _, p4⟩ := HB2.out.ask
            go_wp2_with fail
            refine (num_any 1 _).mono ?_
            rintro e w' ⟨rfl, rfl⟩
            go_wp2_with fail
            refine (eqB_yes none none [] 0 0 0 0 _ (RowK.nil _ _ _) (RowK.nil _ _ _) rfl rfl (by simp)).mono ?_
            rintro e w3 ⟨rfl, m3, rfl⟩
            have HB3 := Lib.hid (HB2.out.drewN m3)
            clear p0 p1 p4 HB2
            generalize w2.drewN m3 = w3 at *
            obtain ⟨p0, p1, _, _, p4⟩ := HB3.out.ask
            have HK := Lib.hid (take_is ax xs nx cx _ HNX.out HB3.out.rx HIB.out HCX.out (by have := HNX.out; omega) HTK.out)
            go_wp2_with fail
            refine (HK.out).mono ?_
            rintro e wa ⟨rfl, hb⟩
            have HBa := Lib.hid ((HB3.out.below hb).alloc (.cells #[.int .i64 x1, .int .i64 x2] 24))
            have HS8 := Lib.hid (StW.new wa x1 x2)
            clear hb p0 p1 p4 HB3 HK
            obtain ⟨p0, p1, _, _, p4⟩ := HBa.out.ask
            have HK := Lib.hid (refTake_is ax xs nx cx _ HNX.out HBa.out.rx HIB.out HCX.out (by have := HNX.out; omega) HTK.out)
            go_wp2_with fail
            refine (HK.out).mono ?_
            rintro e wb ⟨rfl, hb⟩
            have HBb := Lib.hid ((HBa.out.below hb).alloc (.cells #[.int .i64 x1, .int .i64 x2] 24))
            have HS9 := Lib.hid ((HS8.out.next hb).next (below_box _ (.cells #[.int .i64 x1, .int .i64 x2] 24)))
            clear hb p0 p1 p4 HBa HK HS8
            obtain ⟨y0, y1, y2, y3⟩ := HS9.out
            obtain ⟨p0, p1, _, _, p4⟩ := HBb.out.ask
            go_wp2_with fail
            refine (num_any x4 _).mono ?_
            rintro e w' ⟨rfl, rfl⟩
            have HZ := Lib.hid HBb.out.bel
            go_wp2_with fail
            go_roundg (20 - (i + 1))
            case measure => omega
            case rel => exact ⟨i + 1, by go_num, by omega, by omega, HZ.out⟩
          · have C10 := Lib.hid (fun W => refPlace_is t r true hp W)
            have C16 := Lib.hid (fun W => refBytes_any t r W hp)
            have C17 := Lib.hid (fun W => bytes_yes t r W hp)
            have HLE := Lib.hid (encS_len hp)
            have ht2 := tkSt_enc hp xs
            clear hp
            go_wp2_with fail
            refine (C10.out _).mono ?_
            rintro e w1 ⟨rfl, hb⟩
            have HB1 := Lib.hid (HB0.out.below hb)
            clear hb p0 p1 p4 HB0
            obtain ⟨p0, p1, _, _, p4⟩ := HB1.out.ask
            go_wp2_with fail
            refine (C16.out _).mono ?_
            rintro e w2 ⟨v5, rfl, ho5, hb⟩
            obtain ⟨a5, n5, c5, rfl, hn5, hr5, hc5⟩ := ho5.form'
            have HB2 := Lib.hid (HB1.out.below hb)
            have HR5 := Lib.hid hr5
            rw [← hn5] at ht2
            have HN5 := Lib.hid hn5
            have HT2 := Lib.hid ht2
            clear hb p0 p1 p4 HB1 ho5 hn5 hr5 hc5 ht2
            obtain ⟨p0, p1, _, _, p4⟩ := HB2.out.ask
            go_wp2_with fail
            refine (C17.out _).mono ?_
            rintro e w3 ⟨v6, rfl, ho6, hb⟩
            obtain ⟨a6, n6, c6, rfl, hn6, hr6, hc6⟩ := ho6.form'
            have hn56 : n6 = n5 := by rw [hn6, HN5.out]
            subst hn56
            have HB3 := Lib.hid (HB2.out.below hb)
            have HR53 : Hid (RowK .u8 w3 a5 (encS t r)) := HR5.out.below hb (Nat.le_refl _)
            have HR6 := Lib.hid hr6
            have hn18 : n6 ≤ 18 := by have := HLE.out; omega
            clear hb p0 p1 p4 HB2 ho6 hn6 hr6 hc6 HR5
            obtain ⟨p0, p1, _, _, p4⟩ := HB3.out.ask
            go_wp2_with fail
            refine (num_any 0 _).mono ?_
            rintro e w' ⟨rfl, rfl⟩
            go_wp2_with fail
            refine (eqB_yes a6 a5 (encS t r) n6 n6 c6 c5 _ HR6.out HR53.out HN5.out HN5.out (by have := HLE.out; omega)).mono ?_
            rintro e w4 ⟨rfl, m4, rfl⟩
            have HB4 := Lib.hid (HB3.out.drewN m4)
            have HR64 := Lib.hid (HR6.out.drewN m4)
            clear p0 p1 p4 HB3 HR6 HR53
            generalize w3.drewN m4 = w4 at *
            obtain ⟨p0, p1, _, _, p4⟩ := HB4.out.ask
            have HK := Lib.hid (take_is ax xs nx cx _ HNX.out HB4.out.rx HIB.out HCX.out (by have := HNX.out; omega) HTK.out)
            go_wp2_with fail
            refine (HK.out).mono ?_
            rintro e wa ⟨rfl, hb⟩
            have HBa := Lib.hid ((HB4.out.below hb).alloc (.cells #[.int .i64 x1, .int .i64 x2] 24))
            have HR6a : Hid (RowK .u8 (wa.alloc (.cells #[.int .i64 x1, .int .i64 x2] 24)) a6 (encS t r)) := (HR64.out.below hb (Nat.le_refl _)).alloc _
            have hne : b ≠ wa.heap.size := by have := (HB4.out.below hb).ask.lt; omega
            have hge : w.heap.size ≤ wa.heap.size := (HB4.out.below hb).bel.size
            have HS8 := Lib.hid (StW.new wa x1 x2)
            clear hb p0 p1 p4 HB4 HK
            obtain ⟨p0, p1, _, _, p4⟩ := HBa.out.ask
            have HK := Lib.hid (refTake_is ax xs nx cx _ HNX.out HBa.out.rx HIB.out HCX.out (by have := HNX.out; omega) HTK.out)
            go_wp2_with fail
            refine (HK.out).mono ?_
            rintro e wb ⟨rfl, hb⟩
            have HBb := Lib.hid ((HBa.out.below hb).alloc (.cells #[.int .i64 x1, .int .i64 x2] 24))
            have HR6b : Hid (RowK .u8 (wb.alloc (.cells #[.int .i64 x1, .int .i64 x2] 24)) a6 (encS t r)) := (HR6a.out.below hb (Nat.le_refl _)).alloc _
            have HS9 := Lib.hid ((HS8.out.next hb).next (below_box _ (.cells #[.int .i64 x1, .int .i64 x2] 24)))
            clear hb p0 p1 p4 HBa HK HS8
            obtain ⟨y0, y1, y2, y3⟩ := HS9.out
            obtain ⟨p0, p1, _, _, p4⟩ := HBb.out.ask
            go_wp2_with fail
            refine (num_any x4 _).mono ?_
            rintro e w' ⟨rfl, rfl⟩
            clear y0 y1 y2 y3 p0 p1 p4 HR6a HR64
            generalize wa.heap.size = g8 at *
            generalize wb.heap.size = g11 at *
            generalize wb.alloc (.cells #[.int .i64 x1, .int .i64 x2] 24) = W7 at *
            have q4 : W7.drew.cell? ⟨b, off + i * 5 + 4, none⟩ = some (.slice ax nx cx) := HBb.out.ask.c4
            go_upto_region 17 with fail
            go_region_held3 (fun w' => w'.cell? ⟨b, off + i * 5 + 4, none⟩ = some (.slice ax nx cx)) (first | assumption | exact cell_set2 (by assumption) hne) (first
              | (go_at_call 21
                 refine (copyB_any a6 (encS t r) n6 c6 _ (by exact HR6b.out) HN5.out (by have := HLE.out; omega)).mono ?_
                 rintro e w8 ⟨v8, rfl, ho8, hb8⟩
                 have HO8 := Lib.hid ho8
                 have HB8 := Lib.hid hb8
                 have HBd := Lib.hid (BB.below (W := W7.drew) HBb.out.drew hb8)
                 have r8 : w8.cell? ⟨b, off + i * 5 + 4, none⟩ = some (.slice ax nx cx) := HBd.out.ask.c4
                 clear ho8 hb8)
              | (refine stepB_row (by rfl) _ _ (by rfl) W7.drew.heap.size w8 v8 (encS t r) xs ax nx cx HNX.out (by rfl) HO8.out (by rfl) HBd.out.rx (by have h1 := HLE.out; have h2 := HNX.out; omega) HB8.out.size ?_
                 intro v9 w9 hp9
                 obtain ⟨ho9, hb9⟩ := glued HO8.out HB8.out hp9
                 obtain ⟨a9, n9, c9, rfl, hn9, hr9, hc9⟩ := ho9.form'
                 have HBe := Lib.hid (BB.below (W := W7.drew) HBb.out.drew hb9)
                 have HSe := Lib.hid (StW.next (w := W7.drew) HS9.out.drew hb9)
                 have r9 : w9.cell? ⟨b, off + i * 5 + 4, none⟩ = some (.slice ax nx cx) := HBe.out.ask.c4
                 have HN9 := Lib.hid hn9
                 have HR9 := Lib.hid hr9
                 have HC9 := Lib.hid hc9
                 clear ho9 hb9 hn9 hr9 hc9 hp9)
              | (go_at_call 19
                 refine (take_is a9 (encS t r ++ xs) n9 c9 _ HN9.out HR9.out ((encS_isB t r).app HIB.out) HC9.out (by rw [List.length_append]; have h1 := HLE.out; have h2 := HNX.out; omega) HT2.out).mono ?_
                 rintro e w10 ⟨rfl, hb10⟩
                 have HBf := Lib.hid (HBe.out.below hb10)
                 have HSf := Lib.hid (HSe.out.next hb10)
                 have r10 : w10.cell? ⟨b, off + i * 5 + 4, none⟩ = some (.slice ax nx cx) := HBf.out.ask.c4
                 obtain ⟨y0, y1, y2, y3⟩ := HSf.out
                 clear hb10))
            obtain ⟨z0, z1⟩ := set2_cells HSf.out (.int .i64 t) (.int .i64 r)
            have z2 := cell_set2 (u := .int .i64 t) (v := .int .i64 r) HBf.out.ask.c0 hne
            have z3 := cell_set2 (u := .int .i64 t) (v := .int .i64 r) HBf.out.ask.c1 hne
            have HZ := Lib.hid ((HBf.out.bel.setCell (p := ⟨g8, 0, none⟩) hge (.int .i64 t)).setCell (p := ⟨g8, 1, none⟩) hge (.int .i64 r))
            clear y0 y1 y2 y3 r8 r9 r10 HBd HBe HBf HSe HSf HS9 q4 HR9 HO8 HB8 HBb HR6b hE HTK HT2
            generalize (w10.setCell ⟨g8, 0, none⟩ (.int .i64 t)).setCell ⟨g8, 1, none⟩ (.int .i64 r) = wz at *
            have hE2 := st_same t r
            go_wp2_with fail
            go_quiet ((go_at_call 6; exact quiet_left (num_any 0 _)))
            have HZ2 := Lib.hid (below_drewN HZ.out nq)
            go_wp2_with fail
            go_roundg (20 - (i + 1))
            case measure => omega
            case rel => exact ⟨i + 1, by go_num, by omega, by omega, HZ2.out⟩
        · have hnz : (3000 : Int) < (nx : Int) := by omega
          go_wp2
          go_ret
          exact ⟨rfl, HB.out⟩
      · have hiz : decide ((i : Int) < 20) = false := decide_eq_false (by omega)
        have hiy : ¬ (i : Int) < 20 := by omega
        have HW := Lib.hid (wakes_any wr)
        have HI := Lib.hid (within_53 wr)
        go_wp2_with fail
        refine (HI.out).mono ?_
        rintro e w' ⟨rfl, rfl⟩
        go_wp2_with fail
        refine (HW.out).mono ?_
        rintro e w1 ⟨rfl, hb1⟩
        have HZ : Hid (Below w.heap.size w w1) := HB.out.trans (hb1.mono HB.out.size)
        clear hb1 HW
        go_wp2
        go_ret
        exact ⟨rfl, HZ.out⟩
    · have hinz : decide ((i : Int) < (n : Int)) = false := decide_eq_false (by omega)
      have hiny : ¬ (i : Int) < (n : Int) := by omega
      have HW := Lib.hid (wakes_any wr)
      have HI := Lib.hid (within_53 wr)
      go_wp2_with fail
      refine (HI.out).mono ?_
      rintro e w' ⟨rfl, rfl⟩
      go_wp2_with fail
      refine (HW.out).mono ?_
      rintro e w1 ⟨rfl, hb1⟩
      have HZ : Hid (Below w.heap.size w w1) := HB.out.trans (hb1.mono HB.out.size)
      clear hb1 HW
      go_wp2
      go_ret
      exact ⟨rfl, HZ.out⟩
end Go.Proofs.Ytgbhpjhofdhmeaa
