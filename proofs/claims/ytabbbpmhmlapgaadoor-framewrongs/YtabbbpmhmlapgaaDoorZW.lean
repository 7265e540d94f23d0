/- Joined: F2. -/
import Derived.Test.YtabbbpmhmlapgaaDoorZN
import Derived.Test.YtabbbpmhmlapgaaDoorZM

/- FrameWrongs: the walk. -/
namespace Go.Proofs.YtabbbpmhmlapgaaDoor
open Go.RowKit Go.Lib
set_option linter.unusedVariables false
set_option linter.unusedSimpArgs false

theorem rep_get {α : Type} {n i : Nat} {x y : α} (h : (List.replicate n x)[i]? = some y) : i < n ∧ y = x := by
  rw [List.getElem?_replicate] at h
  split at h
  · rename_i hl
    cases h
    exact ⟨hl, rfl⟩
  · cases h
theorem rowO_eight {w : World} {a : Option Addr} {x : OpD} (h : RowO w a (List.replicate 9 x)) : RowO w a (List.replicate 8 x) := fun i y hi => by
  obtain ⟨hl, rfl⟩ := rep_get hi
  exact h i _ (by rw [List.getElem?_replicate, if_pos (by omega)])
theorem good8 : frB 0 1 2 [] (List.replicate 8 x0D) = true := by
  have ha : (List.replicate 8 x0D).all OpD.ok = true := by
    rw [List.all_replicate, x0_ok]
    rfl
  have h : batB (List.replicate 8 x0D) = true := by
    unfold batB
    rw [ha]
    rfl
  unfold frB fkB
  rw [h]
  rfl

set_option maxHeartbeats 4000000 in
set_option maxRecDepth 100000 in
theorem frameWrongs_walk (a : Option Addr) (n cap : Nat) (w : World) (ht : Pr.Tab w) (h : AsksF w a n) :
    Calls Tryd.prog 4 #[.slice a n cap] w (BoolPost w true) := by
  have mixed : Tryd.prog.follows .mixedOrders = true := by kernel_rfl
  have HT0 := Lib.hid ht
  clear ht h
  have H0 := Lib.hid (mkO_any w)
  go_enter Tryd.func4, Tryd.ntmps4
  go_wp2_with fail
  refine (H0.out).mono ?_
  rintro e w1 ⟨a1, rfl, hr1, hb1⟩
  have HA0 : Hid (OpAt (w1.alloc (.cells #[.int .i64 1, .int .i64 0, .int .i64 1, .slice a1 1 1, .int .i64 1, .int .i64 1, .int .i64 0, .int .i64 0, .int .i64 0, .string ⟨#[107]⟩, .int .i64 0, .int .i64 0] 27)) w1.heap.size 0 1 0 1 a1 1 1 1 1 0 0 0 ⟨#[107]⟩ 0 0) := OpAt.new w1 1 0 1 a1 [0] 1 1 1 1 0 0 0 ⟨#[107]⟩ 0 0
  have HR0 : Hid (RowK .i64 (w1.alloc (.cells #[.int .i64 1, .int .i64 0, .int .i64 1, .slice a1 1 1, .int .i64 1, .int .i64 1, .int .i64 0, .int .i64 0, .int .i64 0, .string ⟨#[107]⟩, .int .i64 0, .int .i64 0] 27)) a1 [0]) := Lib.hid (hr1.alloc _)
  have HB0 : Hid (Below w.heap.size w (w1.alloc (.cells #[.int .i64 1, .int .i64 0, .int .i64 1, .slice a1 1 1, .int .i64 1, .int .i64 1, .int .i64 0, .int .i64 0, .int .i64 0, .string ⟨#[107]⟩, .int .i64 0, .int .i64 0] 27))) := Lib.hid (hb1.trans ((box_bel w1 (.cells #[.int .i64 1, .int .i64 0, .int .i64 1, .slice a1 1 1, .int .i64 1, .int .i64 1, .int .i64 0, .int .i64 0, .int .i64 0, .string ⟨#[107]⟩, .int .i64 0, .int .i64 0] 27)).mono hb1.size))
  clear hr1 hb1 H0
  go_wp2
  generalize w1.alloc (.cells #[.int .i64 1, .int .i64 0, .int .i64 1, .slice a1 1 1, .int .i64 1, .int .i64 1, .int .i64 0, .int .i64 0, .int .i64 0, .string ⟨#[107]⟩, .int .i64 0, .int .i64 0] 27) = W2 at *
  generalize w1.heap.size = go at *
  go_loopg [4, 5] 9 (fun g1 v4 v5 wr => ∃ i : Nat, v5 = .int .i64 i ∧ i ≤ 9 ∧ 9 - i ≤ g1 ∧ Hid (OwnO wr W2.heap.size v4 (List.replicate i x0D) (List.replicate i (.slice a1 1 1)) ∧ Below W2.heap.size W2 wr))
  case atStart => exact ⟨0, rfl, by omega, by omega, ⟨OwnO.nil _ _, Below.refl _ _⟩⟩
  case round =>
    obtain ⟨i, rfl, hi9, hg1, HI⟩ := hrel
    by_cases hi : i < 9
    · have hiz : decide ((i : Int) ≤ 8) = true := decide_eq_true (by omega)
      have hiy : (i : Int) ≤ 8 := by omega
      obtain ⟨a4, n4, c4, rfl, hn4, hc4, _⟩ := HI.out.1.form
      have HO4 := Lib.hid HI.out.1
      have HB4 := Lib.hid HI.out.2
      clear HI hn4 hc4
      obtain ⟨c0, c1, c2, c3, c4', c5, c6, c7, c8, c9, c10, c11⟩ := HA0.out.below HB4.out HA0.out.lt
      go_wp2_with (at_builtin
                   refine wpO_one rfl _ _ rfl W2.heap.size wr (.slice a4 n4 c4) (List.replicate i x0D) (List.replicate i (.slice a1 1 1)) 1 0 1 a1 [0] 1 1 1 1 0 0 0 ⟨#[107]⟩ 0 0 rfl HO4.out _ rfl rfl (by rw [List.length_replicate]; omega) HB4.out.size ?_
                   intro v6 w6 hp6
                   have HO6 : Hid (OwnO w6 W2.heap.size v6 (List.replicate (i + 1) x0D) (List.replicate (i + 1) (.slice a1 1 1))) := by
                     have : OwnO w6 W2.heap.size v6 (List.replicate i x0D ++ [x0D]) (List.replicate i (.slice a1 1 1) ++ [.slice a1 1 1]) := hp6.own
                     rw [← List.replicate_succ', ← List.replicate_succ'] at this
                     exact this
                   have HB6 := Lib.hid (hp6.bel HB4.out (Nat.le_refl _) HB4.out.size)
                   clear hp6)
      go_roundg (9 - (i + 1))
      case measure => omega
      case rel => exact ⟨i + 1, by go_num, by omega, by omega, ⟨HO6.out, HB6.out⟩⟩
    · have hi' : i = 9 := by omega
      subst hi'
      clear hi hi9 hg1
      obtain ⟨a4, n4, mc, rfl, hn4, hmc, hcell⟩ := HI.out.1.form
      obtain ⟨gm, rfl, hgm, _⟩ := hcell 0 x0D (.slice a1 1 1) (by simp [List.replicate_succ]) (by simp [List.replicate_succ])
      rw [List.length_replicate] at hn4
      subst hn4
      have HRO : Hid (RowO wr (some ⟨gm, 0, none⟩) (List.replicate 9 x0D)) := by
        have hd : DepsR wr (List.replicate 9 x0D) (List.replicate 9 (.slice a1 1 1)) := by
          intro j x d hx hd
          obtain ⟨_, rfl⟩ := rep_get hx
          obtain ⟨_, rfl⟩ := rep_get hd
          exact ⟨a1, 1, rfl, HR0.out.below HI.out.2 (Nat.le_refl _), by decide⟩
        obtain ⟨a, n, c, e, _, _, hr⟩ := HI.out.1.row hd
        injection e with e1 e2 e3
        rw [← e1] at hr
        exact hr
      have HBr := Lib.hid (HB0.out.trans (HI.out.2.mono HB0.out.size))
      clear hcell hgm HI HA0 HR0
      go_wp2_with fail
      refine reg7_law gm mc _ _ _ _ _ _ _ _ _ _ _ _ _ _ _ _ _ _ _ _ _ _ _ _ _ _ _ _ _ _ _ _ _ _ _ _ _ _ _ _ _ _ _ _ _ _ _ _ _ _ _ _ _ _ _ _ _ _ _ _ _ _ _ _ _ _ _ _ _ _ _ _ _ _ _ _ _ _ _ _ _ _ _ _ _ _ _ _ _ _ _ _ _ HRO.out hmc ?_
      intro u0 u1 u2 u3 u4 u5 u6 u7 u8 u9 u10 u11 u12 u13 u14 u15 u16 u17 u18 u19 u20 u21 u22 u23 u24 u25 u26 u27 ub w5 hb5 hab
      obtain ⟨gb, ob, cb, rfl, hall⟩ := hab
      have HALL := Lib.hid hall
      have HB5 := Lib.hid (HBr.out.trans (hb5.mono HBr.out.size))
      have HRO5 := Lib.hid (HRO.out.below hb5)
      have HN1 := Lib.hid (fun W => num18_any 1 W)
      clear hall hb5 HBr HRO
      go_wp2
      go_loopg [7] 13 (fun g1 v wr => ∃ i : Nat, v = .int .i64 i ∧ i ≤ 13 ∧ 13 - i ≤ g1 ∧ Hid (Below w5.heap.size w5 wr))
      case atStart => exact ⟨0, rfl, by omega, by omega, Below.refl _ _⟩
      case round =>
        obtain ⟨i, rfl, hi13, hg1, HI⟩ := hrel
        by_cases hi : i < 13
        · have hiz : (i : Int) < 13 := by omega
          obtain ⟨fr, tu, k, ha, hs, hn, hc, oa, os, on, oc, hat, hfr, hbad⟩ := HALL.out i hi
          have HT5 := Lib.hid (HT0.out.below (HB5.out.trans (HI.out.mono HB5.out.size)) HT0.out.lt)
          have HF := Lib.hid (hfr.below HI.out)
          have HAT := Lib.hid (hat.below HI.out hat.lt)
          have C1 := Lib.hid (frBytes_no fr tu k ha hs hn hc oa os on oc wr HT5.out HF.out hbad)
          have C2 := Lib.hid (fun W hT hF => frCheck_is fr tu k ha hs hn hc oa os on oc W hT hF 1 (by rw [hbad]; rfl))
          clear hat hfr hbad
          obtain ⟨c0, c1, c2, c3, c4⟩ := HAT.out
          go_wp2_with fail
          refine (C1.out).mono ?_
          rintro e w6 ⟨v6, rfl, ho6, hb6⟩
          obtain ⟨a6, n6, c6, rfl, hn6, _, _⟩ := ho6.form'
          obtain rfl : n6 = 0 := hn6
          have HT6 := Lib.hid (HT5.out.below hb6 HT5.out.lt)
          have HF6 := Lib.hid (HF.out.below hb6)
          have HB6 := Lib.hid (HI.out.trans (hb6.mono HI.out.size))
          have HAT6 := Lib.hid (HAT.out.next hb6)
          clear ho6 hb6 c0 c1 c2 c3 c4 C1
          obtain ⟨c0, c1, c2, c3, c4⟩ := HAT6.out
          go_wp2_with fail
          refine (C2.out w6 HT6.out HF6.out).mono ?_
          rintro e w7 ⟨rfl, hb7⟩
          have HB7 := Lib.hid (HB6.out.trans (hb7.mono HB6.out.size))
          clear hb7
          go_wp2_with fail
          refine (HN1.out _).mono ?_
          rintro e w7' ⟨rfl, rfl⟩
          go_wp2_with fail
          refine (HN1.out _).mono ?_
          rintro e w7' ⟨rfl, rfl⟩
          go_wp2
          go_roundg (13 - (i + 1))
          case measure => omega
          case rel => exact ⟨i + 1, by go_num, by omega, by omega, HB7.out⟩
        · have hi' : i = 13 := by omega
          subst hi'
          clear hi hi13 hg1 HALL
          have HBr := Lib.hid (HB5.out.trans (HI.out.mono HB5.out.size))
          have HTr := Lib.hid (HT0.out.below HBr.out HT0.out.lt)
          have HROr : Hid (RowO wr (some ⟨gm, 0, none⟩) (List.replicate 8 x0D)) := Lib.hid (rowO_eight (HRO5.out.below HI.out))
          have HF : Hid (FrR wr none [] 0 (some ⟨gm, 0, none⟩) (List.replicate 8 x0D) 8) := ⟨RowK.nil _ _ _, rfl, by decide, HROr.out, rfl, by decide⟩
          have C := Lib.hid (frCheck_is 0 1 2 none [] 0 0 (some ⟨gm, 0, none⟩) (List.replicate 8 x0D) 8 mc wr HTr.out HF.out 0 (by rw [good8]; rfl))
          have hsl := fun W : World => slice37 W gm 9 mc 8 (by omega)
          have hbd := fun (a : Option Addr) (n c : Nat) => fr_build12 (.slice a n c) a n c rfl
          have HN0 := Lib.hid (fun W => num18_any 0 W)
          clear HI HRO5
          go_wp2_with fail
          refine (C.out).mono ?_
          rintro e w6 ⟨rfl, hb6⟩
          have HB6 := Lib.hid (HBr.out.trans (hb6.mono HBr.out.size))
          have HT6 := Lib.hid (HTr.out.below hb6 HTr.out.lt)
          clear hb6 C
          go_wp2_with fail
          refine (HN0.out _).mono ?_
          rintro e w6' ⟨rfl, rfl⟩
          go_wp2_with fail
          refine (wakesF_any w6 HT6.out).mono ?_
          rintro e w7 ⟨rfl, hb7⟩
          have HB7 := Lib.hid (HB6.out.trans (hb7.mono HB6.out.size))
          clear hb7
          go_wp2
          go_ret
          exact ⟨rfl, HB7.out⟩
end Go.Proofs.YtabbbpmhmlapgaaDoor
