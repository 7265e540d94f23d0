/- Registers: Check; the page's Regs. -/
import Derived.Test.YtjpjjckokonkpaaDoorA3
namespace Go.Proofs.YtjpjjckokonkpaaDoor
open Go.RowKit Go.Lib
set_option linter.unusedVariables false

theorem okG_bad {xs : List RgD} {k : Nat} {x : RgD} (h : xs[k]? = some x) (hf : regB x = false) : okG xs k = false := by rw [okG_is h, hf, Bool.false_and]
theorem okG_less {xs : List RgD} {k : Nat} {x y : RgD} (h : xs[k + 1]? = some x) (h' : xs[k]? = some y) (hf : x.p ≤ y.p) : okG xs (k + 1) = false := by rw [okG_is h, ahead_succ h', decide_eq_false (by omega), Bool.and_false]
theorem okG_yes0 {xs : List RgD} {x : RgD} (h : xs[0]? = some x) (h1 : regB x = true) : okG xs 0 = true := by rw [okG_is h, h1]; rfl
theorem okG_yes {xs : List RgD} {k : Nat} {x y : RgD} (h : xs[k + 1]? = some x) (h' : xs[k]? = some y) (h1 : regB x = true) (hf : ¬ x.p ≤ y.p) : okG xs (k + 1) = true := by rw [okG_is h, ahead_succ h', h1, decide_eq_true (by omega)]; rfl
set_option maxHeartbeats 4000000 in
set_option maxRecDepth 100000 in
theorem rcheck_any (a : Option Addr) (xs : List RgD) (n c : Nat) (w : World) (ht : Pr.Tab w) (hr : RowG w a xs) (hn : n = xs.length) (hl : n ≤ 140737488355328) :
    Calls Tryd.prog 12 #[.slice a n c] w (St.IntBel w (St.errB (regsB xs))) := by
  have mixed : Tryd.prog.follows .mixedOrders = true := by kernel_rfl
  have HA := Lib.hid hr
  have HN := Lib.hid hn
  have HT := Lib.hid ht
  clear ht
  obtain ⟨fin, hfin⟩ : ∃ fin, regsB xs = fin := ⟨_, rfl⟩
  rw [hfin]
  have HFIN := Lib.hid hfin
  clear hfin hr hn
  go_enter Tryd.func12, Tryd.ntmps12
  go_wp2
  go_loopg [3, 4, 7] n (fun gg _ _ s7 wr => ∃ k : Nat, s7 = .int .i64 k ∧ k ≤ n ∧ n - k ≤ gg ∧ Hid (∀ j, j < k → okG xs j = true) ∧ Hid (Below w.heap.size w wr))
  case atStart => exact ⟨0, rfl, Nat.zero_le _, by omega, fun j hj => absurd hj (Nat.not_lt_zero _), Below.refl _ _⟩
  case round =>
    obtain ⟨k, rfl, hk, hg, HF, HI⟩ := hrel
    by_cases hin : k < n
    · have hinz : (k : Int) < (n : Int) := by omega
      obtain ⟨x, hx⟩ : ∃ x, xs[k]? = some x := ⟨_, List.getElem?_eq_getElem (by rw [← HN.out]; exact hin)⟩
      obtain ⟨b, off, rfl, hat⟩ := (HA.out.below HI.out (Nat.le_refl _)) k x hx
      have HX := Lib.hid hx
      have HAT := Lib.hid hat
      clear hx hat
      have HBX := Lib.hid (bel1 wr (objG x))
      have HBX2 := Lib.hid (HI.out.trans (HBX.out.mono HI.out.size))
      have HAX := Lib.hid (RgAt.new wr x)
      have D := Lib.hid (fun W (hb : Below w.heap.size w W) => isReg_any x W (HT.out.below hb HT.out.lt))
      obtain ⟨rb, hrb⟩ : ∃ rb, regB x = rb := ⟨_, rfl⟩
      rw [hrb] at D
      have HRB := Lib.hid hrb
      clear hrb
      have x1 : St.RegrownTo (wr.alloc (objG x)) 26 #[valG x] (.bool rb) := regrown_at fun W' hb => D.out W' (HBX2.out.trans (hb.mono HBX2.out.size))
      obtain ⟨c0, c1, c2, c3⟩ := HAT.out
      obtain ⟨g0, g1, g2, g3⟩ := HAX.out.regrown
      cases rb
      · go_wp2_with fail
        refine wp_region_quiet_below (by assumption) (by kernel_rfl) ?_
        repeat (go_big_quiet_step ((first | (go_at_call 26; with_reducible exact x1 _ _))))
        refine wpQuiet_nil ?_
        intro _ hw'
        obtain ⟨⟨dq, osq⟩, hw''⟩ := hw'
        subst hw''
        have HB2 := Lib.hid (HBX2.out.trans ((below_regrown _ dq osq).mono HBX2.out.size))
        generalize Go.Sort.grow (redrawn (wr.alloc (objG x)) dq) osq = w2 at *
        clear g0 g1 g2 g3 c0 c1 c2 c3 x1
        have HR : Hid (fin = false) := by show _ = _; rw [← HFIN.out]; exact regs_no (by rw [← HN.out]; exact hin) (okG_bad HX.out HRB.out)
        go_wp2
        go_ret
        exact ⟨by rw [HR.out]; rfl, HB2.out⟩
      · rcases Nat.eq_zero_or_pos k with rfl | hkp
        · have hat0 := HAT.out
          rw [Nat.zero_mul, Nat.add_zero] at hat0
          obtain ⟨c0, c1, c2, c3⟩ := hat0
          go_wp2_with fail
          refine wp_region_quiet_below (by assumption) (by kernel_rfl) ?_
          repeat (go_big_quiet_step ((first | (go_at_call 26; with_reducible exact x1 _ _))))
          refine wpQuiet_nil ?_
          intro _ hw'
          obtain ⟨⟨dq, osq⟩, hw''⟩ := hw'
          subst hw''
          have HB2 := Lib.hid (HBX2.out.trans ((below_regrown _ dq osq).mono HBX2.out.size))
          generalize Go.Sort.grow (redrawn (wr.alloc (objG x)) dq) osq = w2 at *
          clear g0 g1 g2 g3 c0 c1 c2 c3 x1
          have HF2 : Hid (∀ j, j < 0 + 1 → okG xs j = true) := fun j hj => by
            by_cases e : j = 0
            · subst e
              exact okG_yes0 HX.out HRB.out
            · exact HF.out j (by omega)
          go_wp2_with fail
          go_roundg (n - (0 + 1))
          case measure => omega
          case rel => exact ⟨0 + 1, by go_num, by omega, by omega, HF2.out, HB2.out⟩
        · obtain ⟨k', rfl⟩ : ∃ k', k = k' + 1 := ⟨k - 1, by omega⟩
          obtain ⟨y, hy⟩ : ∃ y, xs[k']? = some y := ⟨_, List.getElem?_eq_getElem (by have := HN.out; omega)⟩
          obtain ⟨b', off', hbo, hat'⟩ := (HA.out.below HBX2.out (Nat.le_refl _)) k' y hy
          obtain ⟨rfl, rfl⟩ : b' = b ∧ off' = off := by simpa using hbo.symm
          clear hbo
          have HY := Lib.hid hy
          clear hy
          have hkz : (((k' + 1 : Nat) : Int) - 1) = (k' : Int) := by omega
          have hkw : wrap64 ((k' + 1 : Nat) : Int) = ((k' + 1 : Nat) : Int) := IntWalk.wrap64_in _ (by omega)
          have hkpz : (0 : Int) < ((k' + 1 : Nat) : Int) := by omega
          have hkd : decide ((0 : Int) < ((k' + 1 : Nat) : Int)) = true := decide_eq_true hkpz
          obtain ⟨f0, f1, f2, f3⟩ := hat'.regrown
          clear hat'
          by_cases hle : x.p ≤ y.p
          · have hled : decide (x.p ≤ y.p) = true := decide_eq_true hle
            have HLE := Lib.hid hle
            go_wp2_with fail
            refine wp_region_quiet_below (by assumption) (by kernel_rfl) ?_
            repeat (go_big_quiet_step ((first | (go_at_call 26; with_reducible exact x1 _ _))))
            refine wpQuiet_nil ?_
            intro _ hw'
            obtain ⟨⟨dq, osq⟩, hw''⟩ := hw'
            subst hw''
            have HB2 := Lib.hid (HBX2.out.trans ((below_regrown _ dq osq).mono HBX2.out.size))
            generalize Go.Sort.grow (redrawn (wr.alloc (objG x)) dq) osq = w2 at *
            clear g0 g1 g2 g3 c0 c1 c2 c3 x1 f0 f1 f2 f3
            have HR : Hid (fin = false) := by show _ = _; rw [← HFIN.out]; exact regs_no (by rw [← HN.out]; exact hin) (okG_less HX.out HY.out HLE.out)
            go_wp2
            go_ret
            exact ⟨by rw [HR.out]; rfl, HB2.out⟩
          · have hled : decide (x.p ≤ y.p) = false := decide_eq_false hle
            have HLE := Lib.hid hle
            go_wp2_with fail
            refine wp_region_quiet_below (by assumption) (by kernel_rfl) ?_
            repeat (go_big_quiet_step ((first | (go_at_call 26; with_reducible exact x1 _ _))))
            refine wpQuiet_nil ?_
            intro _ hw'
            obtain ⟨⟨dq, osq⟩, hw''⟩ := hw'
            subst hw''
            have HB2 := Lib.hid (HBX2.out.trans ((below_regrown _ dq osq).mono HBX2.out.size))
            generalize Go.Sort.grow (redrawn (wr.alloc (objG x)) dq) osq = w2 at *
            clear g0 g1 g2 g3 c0 c1 c2 c3 x1 f0 f1 f2 f3
            have HF2 : Hid (∀ j, j < (k' + 1) + 1 → okG xs j = true) := fun j hj => by
              by_cases e : j = (k' + 1)
              · subst e
                exact okG_yes HX.out HY.out HRB.out (by have := HLE.out; omega)
              · exact HF.out j (by omega)
            go_wp2_with fail
            go_roundg (n - ((k' + 1) + 1))
            case measure => omega
            case rel => exact ⟨(k' + 1) + 1, by go_num, by omega, by omega, HF2.out, HB2.out⟩
    · obtain rfl : k = n := by omega
      have hinz : ¬ (k : Int) < (k : Int) := by omega
      have HR : Hid (fin = true) := by show _ = _; rw [← HFIN.out]; exact regs_iff.2 fun j hj => HF.out j (by rw [HN.out]; exact hj)
      go_wp2
      go_ret
      exact ⟨by rw [HR.out]; rfl, HI.out⟩
set_option maxHeartbeats 4000000 in
set_option maxRecDepth 100000 in
theorem refRegs_any (a : Option Addr) (xs : List RgD) (n c : Nat) (w : World) (hr : RowG w a xs) (hn : n = xs.length) (hl : n ≤ 140737488355328) :
    Calls Tryd.prog 10 #[.slice a n c] w (BoolPost w (regsB xs)) := by
  have mixed : Tryd.prog.follows .mixedOrders = true := by kernel_rfl
  have HA := Lib.hid hr
  have HN := Lib.hid hn
  obtain ⟨fin, hfin⟩ : ∃ fin, regsB xs = fin := ⟨_, rfl⟩
  rw [hfin]
  have HFIN := Lib.hid hfin
  clear hfin hr hn
  go_enter Tryd.func10, Tryd.ntmps10
  go_wp2
  go_loopg [3] n (fun gg s3 wr => ∃ k : Nat, s3 = .int .i64 k ∧ k ≤ n ∧ n - k ≤ gg ∧ Hid (∀ j, j < k → okG xs j = true) ∧ Hid (Below w.heap.size w wr))
  case atStart => exact ⟨0, rfl, Nat.zero_le _, by omega, fun j hj => absurd hj (Nat.not_lt_zero _), Below.refl _ _⟩
  case round =>
    obtain ⟨k, rfl, hk, hg, HF, HI⟩ := hrel
    by_cases hin : k < n
    · have hinz : (k : Int) < (n : Int) := by omega
      obtain ⟨x, hx⟩ : ∃ x, xs[k]? = some x := ⟨_, List.getElem?_eq_getElem (by rw [← HN.out]; exact hin)⟩
      obtain ⟨b, off, rfl, hat⟩ := (HA.out.below HI.out (Nat.le_refl _)) k x hx
      have HX := Lib.hid hx
      have HAT := Lib.hid hat
      clear hx hat
      obtain ⟨z, hz⟩ : ∃ z, Pr.errP x.p x.v = z := ⟨_, rfl⟩
      have D := Lib.hid (fun W => Pr.refCheck_any x.p x.v W)
      obtain ⟨sb, hsb⟩ : ∃ sb, St.stB x.t x.r = sb := ⟨_, rfl⟩
      have E := Lib.hid (fun W => St.refStamp_any x.t x.r W)
      rw [hz] at D
      rw [hsb] at E
      have HRB : Hid (regB x = (decide (z = 0) && sb)) := by show _ = _; unfold regB; rw [hz, hsb]
      clear hz hsb
      have x1 : St.RegrownTo wr 24 #[.int .i64 x.p, .int .i64 x.v] (.int .i64 z) := St.regrown_same D.out
      have x2 : St.RegrownTo wr 25 #[.agg #[.int .i64 x.t, .int .i64 x.r]] (.bool sb) := St.regrown_bel E.out
      obtain ⟨g0, g1, g2, g3⟩ := HAT.out.regrown
      by_cases hz0 : z = 0
      · subst hz0
        cases sb
        · have HRB2 : Hid (regB x = false) := HRB.out.trans (by simp)
          go_wp2_with fail
          refine wp_region_quiet_below (by assumption) (by kernel_rfl) ?_
          repeat (go_big_quiet_step ((first | (go_at_call 24; with_reducible exact x1 _ _) | (go_at_call 25; with_reducible exact x2 _ _))))
          refine wpQuiet_nil ?_
          intro _ hw'
          obtain ⟨⟨dq, osq⟩, hw''⟩ := hw'
          subst hw''
          have HB2 := Lib.hid (HI.out.trans ((below_regrown _ dq osq).mono HI.out.size))
          generalize Go.Sort.grow (redrawn wr dq) osq = w2 at *
          clear g0 g1 g2 g3 x1 x2
          have HR : Hid (fin = false) := by show _ = _; rw [← HFIN.out]; exact regs_no (by rw [← HN.out]; exact hin) (okG_bad HX.out HRB2.out)
          go_wp2
          go_ret
          exact ⟨by rw [HR.out]; rfl, HB2.out⟩
        · have HRB2 : Hid (regB x = true) := HRB.out.trans (by simp)
          rcases Nat.eq_zero_or_pos k with rfl | hkp
          · have hat0 := HAT.out
            rw [Nat.zero_mul, Nat.add_zero] at hat0
            obtain ⟨g0, g1, g2, g3⟩ := hat0.regrown
            go_wp2_with fail
            refine wp_region_quiet_below (by assumption) (by kernel_rfl) ?_
            repeat (go_big_quiet_step ((first | (go_at_call 24; with_reducible exact x1 _ _) | (go_at_call 25; with_reducible exact x2 _ _))))
            refine wpQuiet_nil ?_
            intro _ hw'
            obtain ⟨⟨dq, osq⟩, hw''⟩ := hw'
            subst hw''
            have HB2 := Lib.hid (HI.out.trans ((below_regrown _ dq osq).mono HI.out.size))
            generalize Go.Sort.grow (redrawn wr dq) osq = w2 at *
            clear g0 g1 g2 g3 x1 x2
            have HF2 : Hid (∀ j, j < 0 + 1 → okG xs j = true) := fun j hj => by
              by_cases e : j = 0
              · subst e
                exact okG_yes0 HX.out HRB2.out
              · exact HF.out j (by omega)
            go_wp2_with fail
            go_roundg (n - (0 + 1))
            case measure => omega
            case rel => exact ⟨0 + 1, by go_num, by omega, by omega, HF2.out, HB2.out⟩
          · obtain ⟨k', rfl⟩ : ∃ k', k = k' + 1 := ⟨k - 1, by omega⟩
            obtain ⟨y, hy⟩ : ∃ y, xs[k']? = some y := ⟨_, List.getElem?_eq_getElem (by have := HN.out; omega)⟩
            obtain ⟨b', off', hbo, hat'⟩ := (HA.out.below HI.out (Nat.le_refl _)) k' y hy
            obtain ⟨rfl, rfl⟩ : b' = b ∧ off' = off := by simpa using hbo.symm
            clear hbo
            have HY := Lib.hid hy
            clear hy
            have hkz : (((k' + 1 : Nat) : Int) - 1) = (k' : Int) := by omega
            have hkw : wrap64 ((k' + 1 : Nat) : Int) = ((k' + 1 : Nat) : Int) := IntWalk.wrap64_in _ (by omega)
            have hkpz : (0 : Int) < ((k' + 1 : Nat) : Int) := by omega
            have hkd : decide ((0 : Int) < ((k' + 1 : Nat) : Int)) = true := decide_eq_true hkpz
            obtain ⟨f0, f1, f2, f3⟩ := hat'.regrown
            clear hat'
            by_cases hle : x.p ≤ y.p
            · have hled : decide (x.p ≤ y.p) = true := decide_eq_true hle
              have HLE := Lib.hid hle
              go_wp2_with fail
              refine wp_region_quiet_below (by assumption) (by kernel_rfl) ?_
              repeat (go_big_quiet_step ((first | (go_at_call 24; with_reducible exact x1 _ _) | (go_at_call 25; with_reducible exact x2 _ _))))
              refine wpQuiet_nil ?_
              intro _ hw'
              obtain ⟨⟨dq, osq⟩, hw''⟩ := hw'
              subst hw''
              have HB2 := Lib.hid (HI.out.trans ((below_regrown _ dq osq).mono HI.out.size))
              generalize Go.Sort.grow (redrawn wr dq) osq = w2 at *
              clear g0 g1 g2 g3 x1 x2 f0 f1 f2 f3
              have HR : Hid (fin = false) := by show _ = _; rw [← HFIN.out]; exact regs_no (by rw [← HN.out]; exact hin) (okG_less HX.out HY.out HLE.out)
              go_wp2
              go_ret
              exact ⟨by rw [HR.out]; rfl, HB2.out⟩
            · have hled : decide (x.p ≤ y.p) = false := decide_eq_false hle
              have HLE := Lib.hid hle
              go_wp2_with fail
              refine wp_region_quiet_below (by assumption) (by kernel_rfl) ?_
              repeat (go_big_quiet_step ((first | (go_at_call 24; with_reducible exact x1 _ _) | (go_at_call 25; with_reducible exact x2 _ _))))
              refine wpQuiet_nil ?_
              intro _ hw'
              obtain ⟨⟨dq, osq⟩, hw''⟩ := hw'
              subst hw''
              have HB2 := Lib.hid (HI.out.trans ((below_regrown _ dq osq).mono HI.out.size))
              generalize Go.Sort.grow (redrawn wr dq) osq = w2 at *
              clear g0 g1 g2 g3 x1 x2 f0 f1 f2 f3
              have HF2 : Hid (∀ j, j < (k' + 1) + 1 → okG xs j = true) := fun j hj => by
                by_cases e : j = (k' + 1)
                · subst e
                  exact okG_yes HX.out HY.out HRB2.out (by have := HLE.out; omega)
                · exact HF.out j (by omega)
              go_wp2_with fail
              go_roundg (n - ((k' + 1) + 1))
              case measure => omega
              case rel => exact ⟨(k' + 1) + 1, by go_num, by omega, by omega, HF2.out, HB2.out⟩
      · have hz1 : (z == 0) = false := by simpa using hz0
        have hz2 : (z != 0) = true := by simpa using hz0
        have HRB2 : Hid (regB x = false) := HRB.out.trans (by simp [hz0])
        go_wp2_with fail
        refine wp_region_quiet_below (by assumption) (by kernel_rfl) ?_
        repeat (go_big_quiet_step ((first | (go_at_call 24; with_reducible exact x1 _ _) | (go_at_call 25; with_reducible exact x2 _ _))))
        refine wpQuiet_nil ?_
        intro _ hw'
        obtain ⟨⟨dq, osq⟩, hw''⟩ := hw'
        subst hw''
        have HB2 := Lib.hid (HI.out.trans ((below_regrown _ dq osq).mono HI.out.size))
        generalize Go.Sort.grow (redrawn wr dq) osq = w2 at *
        clear g0 g1 g2 g3 x1 x2
        have HR : Hid (fin = false) := by show _ = _; rw [← HFIN.out]; exact regs_no (by rw [← HN.out]; exact hin) (okG_bad HX.out HRB2.out)
        go_wp2
        go_ret
        exact ⟨by rw [HR.out]; rfl, HB2.out⟩
    · obtain rfl : k = n := by omega
      have hinz : ¬ (k : Int) < (k : Int) := by omega
      have HR : Hid (fin = true) := by show _ = _; rw [← HFIN.out]; exact regs_iff.2 fun j hj => HF.out j (by rw [HN.out]; exact hj)
      go_wp2
      go_ret
      exact ⟨by rw [HR.out]; rfl, HI.out⟩
end Go.Proofs.YtjpjjckokonkpaaDoor
