/- Joined: D36. -/
import Derived.Test.YtdpopdlifcjdeaaDoorYD35

/- HoldOrders: the walk. -/
namespace Go.Proofs.YtdpopdlifcjdeaaDoor
open Go.RowKit Go.Lib
set_option linter.unusedVariables false

/-- what is held over the calls -/
structure HoS (wA W : World) (gv m : Nat) (v : List Int) (ha : Option Addr) (hn hc : Nat) (hs : List OpD) (da : Option Addr) (dn dc : Nat) (ds : List OpD) (dl : List Value) : Prop where
  gvA : gv = wA.heap.size
  own : OwnK .i64 3 W wA.heap.size (.slice (some ⟨gv, 0, none⟩) m m) v
  len : v.length = m
  row : RowO W ha hs
  hl : hn = hs.length
  hc : hn ≤ hc
  don : OwnO W (gv + 1) (.slice da dn dc) ds dl
  bel : Below wA.heap.size wA W
/-- what is held while the taken ones are looked at -/
structure InS (wA W : World) (A A2 gv m : Nat) (v a : List Int) (wv lv tv : Value) (b d : List OpD) (dl1 dl2 : List Value) (da : Option Addr) (dn dc : Nat) (ds : List OpD) (dl : List Value) : Prop where
  gvA : gv = wA.heap.size
  hA : gv < A
  hA2 : A2 ≤ W.heap.size
  hAA : A ≤ A2
  own : OwnK .i64 3 W wA.heap.size (.slice (some ⟨gv, 0, none⟩) m m) v
  len : v.length = m
  wv : OwnK .i64 3 W A wv a
  l : OwnO W A lv b dl1
  ld : DepsN W A b dl1
  t : OwnO W A tv d dl2
  td : DepsN W A d dl2
  lb : ∀ g, lv.ownBlock = some g → g < A2
  tb : ∀ g, tv.ownBlock = some g → g < A2
  don : OwnO W (gv + 1) (.slice da dn dc) ds dl
  db : ∀ g, (Value.slice da dn dc).ownBlock = some g → g < A ∨ A2 ≤ g
  bel : Below wA.heap.size wA W
section
variable {wA W W' : World} {A A2 gv m : Nat} {v a : List Int} {wv lv tv : Value} {b d : List OpD} {dl1 dl2 : List Value} {ha : Option Addr} {hn hc : Nat} {hs : List OpD} {da : Option Addr} {dn dc : Nat} {ds : List OpD} {dl : List Value}
theorem HoS.next (h : HoS wA W gv m v ha hn hc hs da dn dc ds dl) (hb : Below W.heap.size W W') : HoS wA W' gv m v ha hn hc hs da dn dc ds dl :=
  ⟨h.gvA, h.own.below hb, h.len, h.row.below hb, h.hl, h.hc, h.don.below hb, h.bel.trans (hb.mono h.bel.size)⟩
theorem InS.next (h : InS wA W A A2 gv m v a wv lv tv b d dl1 dl2 da dn dc ds dl) (hb : Below W.heap.size W W') : InS wA W' A A2 gv m v a wv lv tv b d dl1 dl2 da dn dc ds dl :=
  ⟨h.gvA, h.hA, Nat.le_trans h.hA2 hb.size, h.hAA, h.own.below hb, h.len, h.wv.below hb, h.l.below hb, h.ld.below hb, h.t.below hb, h.td.below hb, h.lb, h.tb, h.don.below hb, h.db, h.bel.trans (hb.mono h.bel.size)⟩
theorem InS.write (h : InS wA W A A2 gv m v a wv lv tv b d dl1 dl2 da dn dc ds dl) (x : OpD) : InS wA (W.setCell ⟨gv, x.1.r.toNat, none⟩ (.int .i64 x.2)) A A2 gv m (setV v x) a wv lv tv b d dl1 dl2 da dn dc ds dl :=
  ⟨h.gvA, h.hA, by rw [World.size_setCell]; exact h.hA2, h.hAA, OwnK.stored h.len h.own _ _, by rw [setV_len]; exact h.len, h.wv.far h.hA _ _, h.l.far h.hA _ _, h.ld.far h.hA _ _, h.t.far h.hA _ _, h.td.far h.hA _ _, h.lb, h.tb, h.don.far (Nat.lt_succ_self gv) _ _, h.db, h.bel.setCell (p := ⟨gv, x.1.r.toNat, none⟩) (Nat.le_of_eq h.gvA.symm) _⟩
theorem InS.push {x : OpD} {dd v' : Value} (h : InS wA W A A2 gv m v a wv lv tv b d dl1 dl2 da dn dc ds dl) (ho : OwnO W' (gv + 1) v' (ds ++ [x]) (dl ++ [dd])) (hg : W.grownBy W' (Value.slice da dn dc).ownBlock) (hbl : v'.ownBlock = (Value.slice da dn dc).ownBlock ∨ v'.ownBlock = some W.heap.size) : ∃ da' dc', v' = .slice da' (dn + 1) dc' ∧ InS wA W' A A2 gv m v a wv lv tv b d dl1 dl2 da' (dn + 1) dc' (ds ++ [x]) (dl ++ [dd]) := by
  obtain ⟨a', n', c', e, h1, h2, h3⟩ := ho.form
  obtain ⟨a0, n0, c0, e0, h10, h20, h30⟩ := h.don.form
  injection e0 with e01 e02 e03
  have hn : n' = dn + 1 := by rw [h1, List.length_append, List.length_singleton, e02, h10]
  subst hn e
  have ap : ∀ {v0 : Value} {os0 : List OpD} {dl0 : List Value}, OwnO W A v0 os0 dl0 → (∀ g, v0.ownBlock = some g → g < A2) → v0.ownBlock = none ∨ v0.ownBlock ≠ (Value.slice da dn dc).ownBlock := fun {v0 os0 dl0} ho hb => by
    cases hv : v0.ownBlock with
    | none => exact .inl rfl
    | some g =>
      right
      intro e
      have h4 := ho.lt hv
      have h5 := hb g hv
      rcases h.db g e.symm with h6 | h6 <;> omega
  have hbase : wA.heap.size ≤ gv + 1 := by have := h.gvA; omega
  refine ⟨a', c', rfl, h.gvA, h.hA, Nat.le_trans h.hA2 hg.size, h.hAA, h.own.grown hg (apart_types h.own h.don), h.len, h.wv.grown hg (apart_types h.wv h.don), h.l.grown hg (ap h.l h.lb), h.ld.grown h.don hg, h.t.grown hg (ap h.t h.tb), h.td.grown h.don hg, h.lb, h.tb, ho, fun g hg => ?_, h.bel.grown hg h.bel.size (fun g hgg => Nat.le_trans hbase (h.don.lt hgg).1)⟩
  rcases hbl with e | e
  · exact h.db g (by rw [← e]; exact hg)
  · rw [e] at hg
    injection hg with hg
    have := h.hA2
    omega
theorem InS.vec (h : InS wA W A A2 gv m v a wv lv tv b d dl1 dl2 da dn dc ds dl) : RowK .i64 W (some ⟨gv, 0, none⟩) v := ownK_row h.own
theorem own_at {base n c : Nat} {ax : Option Addr} {os : List OpD} {el : List Value} (h : OwnO W base (.slice ax n c) os el) (hd : DepsN W base os el) : n = os.length ∧ n ≤ c ∧ RowO W ax os := by
  obtain ⟨a, n', c', e, h1, h2, h3⟩ := h.row hd.read
  injection e with e1 e2 e3
  subst e1 e2 e3
  exact ⟨h1, h2, h3⟩
theorem don_at {base n c : Nat} {ax : Option Addr} {os : List OpD} {el : List Value} (h : OwnO W base (.slice ax n c) os el) : n = os.length := by
  obtain ⟨a, n', c', e, h1, h2, h3⟩ := h.form
  injection e with e1 e2 e3
  rw [e2, h1]
theorem HoS.start (wA : World) (m : Nat) (hm : m ≤ 1000) : HoS wA (wA.alloc (.cells (madeCells #[.int .i64 0] m) 3)) wA.heap.size m (List.replicate m 0) none 0 0 [] none 0 0 [] [] :=
  ⟨rfl, ownZ m hm wA, List.length_replicate, RowO.nil _ _, rfl, Nat.le_refl _, OwnO.nil _ _, box_bel wA _⟩
/-- behind Take -/
theorem InS.start {wv lv tv : Value} (h : HoS wA W gv m v ha hn hc hs da dn dc ds dl) (hT : TkO W W' wv lv tv a b d) : ∃ dl1 dl2, InS wA W' W.heap.size W'.heap.size gv m v a wv lv tv b d dl1 dl2 da dn dc ds dl := by
  obtain ⟨B, dl1, dl2, h1, h2, h3, h4, h5, h6, h7, h8, h9, h10, h11⟩ := hT
  have hgv := (h.own.lt rfl).2
  exact ⟨dl1, dl2, h.gvA, hgv, Nat.le_refl _, h11.size, h.own.below h11, h.len, h1, h2.mono h10, h3.N.mono h10, h4, h5.N, fun g hg => (h2.lt hg).2, fun g hg => (h4.lt hg).2, h.don.below h11, fun g hg => .inl (h.don.lt hg).2, h.bel.trans (h11.mono h.bel.size)⟩
/-- ahead of the next one -/
theorem InS.last {ln lc : Nat} {la : Option Addr} (h : InS wA W A A2 gv m v a wv (.slice la ln lc) tv b d dl1 dl2 da dn dc ds dl) : HoS wA W gv m v la ln lc b da dn dc ds dl := by
  obtain ⟨h1, h2, h3⟩ := own_at h.l h.ld
  exact ⟨h.gvA, h.own, h.len, h3, h1, h2, h.don, h.bel⟩
end
theorem takeBy_zero {a : List Int} {b d : List OpD} {w w' : World} {e : Ending} (h : TakeBy a b d 0 w e w') : HTake a b d w e w' := by
  rcases h with h | h
  · exact h.2
  · exact absurd h.1 (by decide)
theorem wrapN (k n : Nat) (hk : k ≤ 3) (hn : n ≤ 16) : wrap64 ((k : Int) * (n : Int)) = ((k * n : Nat) : Int) := by
  have h1 : k * n ≤ 3 * 16 := Nat.mul_le_mul hk hn
  rw [← Int.natCast_mul]
  generalize k * n = q at *
  exact IntWalk.wrap64_in _ (by omega)
theorem HInv.few {m : Nat} {os : List OpD} {c : List Int} {i : Nat} {v : List Int} {h : List OpD} {dn : Nat} (hc : Cas m os c) (h16 : os.length ≤ 16) (hi : HInv m os c i v h dn) : dn ≤ 16 ∧ h.length ≤ 16 := by
  refine ⟨?_, (held_iff.1 hi.held).2.1⟩
  have key : ∀ (v c : List Int), v.length = c.length → (∀ k, k < v.length → v.getD k 0 ≤ c.getD k 0) → v.sum ≤ c.sum := by
    intro v
    induction v with
    | nil => intro c hl _; cases c with
      | nil => exact Int.le_refl _
      | cons _ _ => simp at hl
    | cons y v ih =>
      intro c hl h
      cases c with
      | nil => simp at hl
      | cons z c =>
        have h0 := h 0 (by simp)
        have h1 := ih c (by simpa using hl) (fun k hk => by have := h (k + 1) (by simpa using hk); rwa [List.getD_cons_succ, List.getD_cons_succ] at this)
        rw [List.getD_cons_zero, List.getD_cons_zero] at h0
        rw [List.sum_cons, List.sum_cons]; omega
  have h1 := key v c (by rw [hi.vl, hc.cl]) (fun k hk => hi.le k (by rw [← hi.vl]; exact hk))
  have h2 := hi.sum
  have h3 := hc.sum
  omega

set_option maxHeartbeats 16000000 in
set_option maxRecDepth 100000 in
theorem holdOrders_walk (rp : Int) (ka : Option Addr) (ks : List Int) (kn kc : Nat) (ea : Option Addr) (es : List Int) (en ec : Nat) (ra : Option Addr) (rs : List Int) (rn rc : Nat) (w : World) (ht : Pr.Tab w) (h : StR w rp ka ks kn kc ea es en ec ra rs rn rc) :
    Calls Tryd.prog 4 #[.agg #[.int .i64 rp, .slice ka kn kc, .slice ea en ec, .slice ra rn rc]] w (BoolPost w true) := by
  have mixed : Tryd.prog.follows .mixedOrders = true := by kernel_rfl
  have hq := within_rng rp 4 (by decide)
  obtain ⟨m, hm⟩ : ∃ m : Nat, (m : Int) = 1 + withinI rp 4 := ⟨(1 + withinI rp 4).toNat, by omega⟩
  have hm1 : 1 ≤ m := by omega
  have hm4 : m ≤ 4 := by omega
  obtain ⟨g, hg⟩ : ∃ g, w.heap.size = g := ⟨_, rfl⟩
  have HG := Lib.hid hg
  have HST := Lib.hid h
  have HTW := Lib.hid (fun W (hb : Below g w W) => ht.below (by rw [hg]; exact hb) ht.lt)
  obtain ⟨W0, hW0⟩ : ∃ W0, w.alloc (stO rp ka kn kc ea en ec ra rn rc) = W0 := ⟨_, rfl⟩
  have HB0 : Hid (Below g w W0) := by show Below _ _ _; rw [← hW0, ← hg]; exact box_bel w _
  have HZ0 : Hid (W0.heap.size = g + 1) := by show _ = _; rw [← hW0]; simp [hg]
  have s0 : W0.cell? ⟨g, 0, none⟩ = some (.int .i64 rp) := by rw [← hW0, ← hg]; simp
  have s1 : W0.cell? ⟨g, 1, none⟩ = some (.slice ka kn kc) := by rw [← hW0, ← hg]; simp
  have s2 : W0.cell? ⟨g, 2, none⟩ = some (.slice ea en ec) := by rw [← hW0, ← hg]; simp
  have s3 : W0.cell? ⟨g, 3, none⟩ = some (.slice ra rn rc) := by rw [← hW0, ← hg]; simp
  have HC0 := Lib.hid s0
  have HC3 := Lib.hid s3
  have CI := Lib.hid (issued_any rp ka ks kn kc ea es en ec ra rs rn rc W0 (h.below (by rw [hg]; exact HB0.out)) m hm)
  have CW := Lib.hid (fun W => withinN_any rp 4 W (by decide) (by decide))
  have HW1 : Hid (wrap64 (1 + withinI rp 4) = (m : Int)) := by show _ = _; rw [← hm]; exact IntWalk.wrap64_in _ (by omega)
  have hmk1 : ∀ W, (Instr.makeSlice 22 (.int .i64 (m : Int)) (.int .i64 (m : Int))).run Tryd.prog W = .ok (.slice (some ⟨W.heap.size, 0, none⟩) m m) (W.alloc (.cells (madeCells #[.int .i64 0] m) 3)) := fun W => makeI m (by omega) W
  clear h ht hq hm
  generalize withinI rp 4 = q at *
  go_enter Tryd.func4, Tryd.ntmps4
  go_upto_region 1 with fail
  clear hW0 hg
  go_cut [26] from 15 to 26 (fun v26 wc => ∃ b, v26 = .bool b ∧ W0 = wc)
  case first =>
    go_wp2_with fail
    go_meet
    case rel => exact ⟨_, rfl, rfl⟩
  case rest =>
    obtain ⟨bb, rfl, rfl⟩ := hcut
    cases bb
    · go_wp2_with fail
      refine (CI.out).mono ?_
      rintro e w1 ⟨os, c, aa, n, ac, rfl, hn, hnc, hrow, hcas, h16, hb⟩
      have HROW := Lib.hid hrow
      have HCAS := Lib.hid hcas
      have HN : Hid (os.length = n) := hn.symm
      have H16 : Hid (n ≤ 16) := by show _ ≤ _; rw [hn]; exact h16
      have hnc2 : n ≤ ac := hnc
      have HKB : Hid (∀ W, Below w1.heap.size w1 W → Below g w W) := fun W hb2 => HB0.out.trans ((hb.trans (hb2.mono hb.size)).mono (by have := HZ0.out; omega))
      have HS0 : Hid (∀ W, Below w1.heap.size w1 W → W.cell? ⟨g, 0, none⟩ = some (.int .i64 rp) ∧ W.cell? ⟨g, 3, none⟩ = some (.slice ra rn rc)) := fun W hb2 => by
        have h3 := hb.trans (hb2.mono hb.size)
        have hlt : g < W0.heap.size := by have := HZ0.out; omega
        exact ⟨(h3.cell (p := ⟨g, 0, none⟩) hlt).trans HC0.out, (h3.cell (p := ⟨g, 3, none⟩) hlt).trans HC3.out⟩
      clear hn hnc hrow hcas h16 hb s0 s1 s2 s3 CI
      have s0 := (HS0.out w1 (Below.refl _ _)).1
      have hw1 := HW1.out
      go_wp2_with fail
      refine (CW.out _).mono ?_
      rintro e wn ⟨rfl, rfl⟩
      have HX0 := Lib.hid (HoS.start w1 m (by omega))
      have HV0 := Lib.hid (HInv.start HCAS.out)
      obtain ⟨gv, hgv⟩ : ∃ gv, w1.heap.size = gv := ⟨_, rfl⟩
      rw [hgv] at HX0
      go_upto_region 6 with fail
      rw [hw1]
      clear hw1 hmk1 hgv CW s0
      go_wp2_with fail
      go_loopg [6, 7, 8, 9, 10, 11, 12, 13, 14] (3 * n) (fun g1 s6 s7 s8 _ _ _ _ _ _ wr => ∃ (i : Nat) (v : List Int) (ha : Option Addr) (hn hc : Nat) (hs : List OpD) (da : Option Addr) (dn dc : Nat) (ds : List OpD) (dl : List Value), s6 = .slice ha hn hc ∧ s7 = .slice da dn dc ∧ s8 = .int .i64 (i : Int) ∧ i ≤ 3 * n ∧ 3 * n - i ≤ g1 ∧ Hid (HInv m os c i v hs dn ∧ HoS w1 wr gv m v ha hn hc hs da dn dc ds dl))
      case atStart => exact ⟨0, _, none, 0, 0, [], none, 0, 0, [], [], rfl, rfl, rfl, Nat.zero_le _, by omega, HV0.out, HX0.out⟩
      case round =>
        obtain ⟨i, v, ha, hn, hc, hs, da, dn, dc, ds, dl, rfl, rfl, rfl, hi3, hg1, HI⟩ := hrel
        have HI1 := Lib.hid HI.out.1
        have HX := Lib.hid HI.out.2
        clear HI HX0 HV0
        obtain ⟨n3, hn3⟩ : ∃ n3, 3 * n = n3 := ⟨_, rfl⟩
        have HW3 : Hid (wrap64 (3 * (n : Int)) = (n3 : Int)) := by show _ = _; rw [← hn3]; exact wrapN 3 n (by decide) H16.out
        rw [hn3] at hi3 hg1
        have HS1 := Lib.hid (HS0.out wr HX.out.bel)
        by_cases hlt : i < n3
        · have hltz : (i : Int) < (n3 : Int) := by omega
          have hw3 := HW3.out
          go_upto_region 10 with fail
          clear hw3
          have hnp : 0 < n := by omega
          have hnz : ((n : Int) == 0) = false := by simp; omega
          go_upto_region 11 with fail
          clear hnz
          obtain ⟨n2, hn2⟩ : ∃ n2, 2 * n = n2 := ⟨_, rfl⟩
          have HW2 : Hid (wrap64 (2 * (n : Int)) = (n2 : Int)) := by show _ = _; rw [← hn2]; exact wrapN 2 n (by decide) H16.out
          obtain ⟨k0, hk0⟩ : ∃ k0, i % n = k0 := ⟨_, rfl⟩
          have hk0n : k0 < n := by rw [← hk0]; exact Nat.mod_lt _ hnp
          have hk0c : 2 * n ≤ i → k0 = i - 2 * n := fun h2 => by
            rw [← hk0, Nat.mod_eq_sub_mod (by omega), Nat.mod_eq_sub_mod (by omega), Nat.mod_eq_of_lt (by omega)]
            omega
          have hmod : (i : Int) % (n : Int) = (k0 : Int) := by rw [← hk0]; rfl
          have HMOD := Lib.hid hmod
          rw [hmod]
          clear hk0 hmod
          go_cut [57] from 35 to 143 (fun v57 wc => v57 = .bool (decide ((i : Int) < (rn : Int)) && decide ((i : Int) < (n2 : Int))) ∧ wr = wc)
          case first =>
            have s3 := HS1.out.2
            by_cases hir : i < rn
            · have h1 : decide ((i : Int) < (rn : Int)) = true := decide_eq_true (by omega)
              have h1' : (i : Int) < (rn : Int) := by omega
              by_cases hi2 : i < n2
              · have h2 : decide ((i : Int) < (n2 : Int)) = true := decide_eq_true (by omega)
                have h2' : (i : Int) < (n2 : Int) := by omega
                have hw2 := HW2.out
                go_wp2_with fail
                go_meet
                case rel => exact ⟨by rw [h1, h2]; rfl, rfl⟩
              · have h2 : decide ((i : Int) < (n2 : Int)) = false := decide_eq_false (by omega)
                have h2' : ¬ (i : Int) < (n2 : Int) := by omega
                have hw2 := HW2.out
                go_wp2_with fail
                go_meet
                case rel => exact ⟨by rw [h1, h2]; rfl, rfl⟩
            · have h1 : decide ((i : Int) < (rn : Int)) = false := decide_eq_false (by omega)
              have h1' : ¬ (i : Int) < (rn : Int) := by omega
              go_wp2_with fail
              go_meet
              case rel => exact ⟨by rw [h1, Bool.false_and], rfl⟩
          case rest =>
            obtain ⟨rfl, rfl⟩ := hcut
            obtain ⟨bb, hbb⟩ : ∃ bb, (decide ((i : Int) < (rn : Int)) && decide ((i : Int) < (n2 : Int))) = bb := ⟨_, rfl⟩
            rw [hbb]
            go_upto_if 57 with fail
            go_cut [9] from 35 to 143 (fun v9 wc => ∃ k : Nat, v9 = .int .i64 (k : Int) ∧ k < n ∧ (2 * n ≤ i → k = i - 2 * n) ∧ wr = wc)
            case first =>
              cases bb
              · go_wp2_with fail
                go_meet
                case rel => exact ⟨k0, rfl, hk0n, hk0c, rfl⟩
              · rw [Bool.and_eq_true, decide_eq_true_eq, decide_eq_true_eq] at hbb
                obtain ⟨h1, h2⟩ := hbb
                have s3 := HS1.out.2
                obtain ⟨rb, ro, rfl, hrc⟩ := (HST.out.rr.below (HKB.out wr HX.out.bel) (Nat.le_of_eq HG.out)) i (by have := HST.out.rl; omega)
                have CW := Lib.hid (fun W => withinN_any (rs.getD i 0) (n : Int) W (by omega) (by have := H16.out; omega))
                have hr0 := within_rng (rs.getD i 0) (n : Int) (by omega)
                obtain ⟨k, hk⟩ : ∃ k : Nat, withinI (rs.getD i 0) (n : Int) = (k : Int) := ⟨(withinI (rs.getD i 0) (n : Int)).toNat, by omega⟩
                rw [hk] at CW hr0
                have hkn : k < n := by omega
                have hkc : 2 * n ≤ i → k = i - 2 * n := fun h => by omega
                clear hk hr0
                generalize rs.getD i 0 = rz at *
                go_wp2_with fail
                refine (CW.out _).mono ?_
                rintro e wn ⟨rfl, rfl⟩
                go_wp2_with fail
                go_meet
                case rel => exact ⟨k, rfl, hkn, hkc, rfl⟩
            case rest =>
              obtain ⟨k, rfl, hkn, hkc, rfl⟩ := hcut
              clear HMOD hbb
              obtain ⟨o, ho⟩ : ∃ o, os[k]? = some o := ⟨_, List.getElem?_eq_getElem (by rw [HN.out]; exact hkn)⟩
              obtain ⟨ob, oo, rfl, oa, oc, hat, hor, hol⟩ := (HROW.out.below HX.out.bel) k o ho
              have hvec := (held_iff.1 HI1.out.held).1
              have hfit := HCAS.out.fits (by rw [HN.out]; exact H16.out) hvec HI1.out.vl (List.mem_of_getElem? ho)
              obtain ⟨a, b, d, z, hT, hGd⟩ := takeIs_good HI1.out.held hfit
              obtain ⟨hz, hch, hnx⟩ := HI1.out.step HCAS.out (by rw [HN.out]; exact H16.out) ho (by rw [HN.out]; exact hkc) hT hGd
              subst hz
              have hfew := HI1.out.few HCAS.out (by rw [HN.out]; exact H16.out)
              have hfew2 := hnx.few HCAS.out (by rw [HN.out]; exact H16.out)
              have CT := Lib.hid ((take_by (some ⟨gv, 0, none⟩) v m m ha hs hn hc o oa oc wr (HTW.out wr (HKB.out wr HX.out.bel)) (ownK_row HX.out.own) HX.out.len.symm (by rw [HX.out.len]; omega) HX.out.row HX.out.hl (by omega) HX.out.hc hor hol HI1.out.held hfit a b d 0 hT).mono fun _ _ h => takeBy_zero h)
              have HCH := Lib.hid hch
              have HNX := Lib.hid hnx
              have HDN : Hid (dn + d.length ≤ 16) := hfew2.1
              have hkz : (k : Int) < (n : Int) := by omega
              have HN14 := Lib.hid (fun W => num14_any 0 W)
              clear hvec hfit hT hGd hch hnx hfew hfew2 hor hol HI1
              have HVL : Hid (v.length = m) := HX.out.len
              clear ho
              generalize o.1.ds.length = ol at *
              obtain ⟨c0, c1, c2, c3, c4, c5, c6, c7, c8, c9, c10, c11⟩ := hat
              go_wp2_with fail
              refine (CT.out).mono ?_
              rintro e w2 ⟨wv, lv, tv, rfl, hTk⟩
              obtain ⟨dl1, dl2, hIn⟩ := InS.start HX.out hTk
              obtain ⟨A, hA⟩ : ∃ A, wr.heap.size = A := ⟨_, rfl⟩
              obtain ⟨A2, hA2⟩ : ∃ A2, w2.heap.size = A2 := ⟨_, rfl⟩
              rw [hA, hA2] at hIn
              obtain ⟨wa, wn, wc9, rfl, hwn, -, -⟩ := hIn.wv.form'
              obtain ⟨la, ln, lc, rfl, -, -, -⟩ := hIn.l.form
              obtain ⟨ta, tn, tc, rfl, -, -, -⟩ := hIn.t.form
              have htn := (own_at hIn.t hIn.td).1
              have HTN : Hid (d.length = tn) := htn.symm
              have HIN := Lib.hid hIn
              have HWN : Hid (wn = a.length) := hwn
              clear hTk hIn CT hA hA2 hwn htn c0 c1 c2 c3 c4 c5 c6 c7 c8 c9 c10 c11
              go_wp2_with fail
              refine (HN14.out _).mono ?_
              rintro e wn9 ⟨rfl, rfl⟩
              go_wp2_with fail
              go_loopg [7, 14] tn (fun g2 s7 s14 wx => ∃ (j : Nat) (vj : List Int) (da : Option Addr) (dc : Nat) (ds : List OpD) (dl : List Value), s7 = .slice da (dn + j) dc ∧ s14 = .int .i64 (j : Int) ∧ j ≤ tn ∧ tn - j ≤ g2 ∧ Hid (chn vj (d.drop j) a ∧ InS w1 wx A A2 gv m vj a (.slice wa wn wc9) (.slice la ln lc) (.slice ta tn tc) b d dl1 dl2 da (dn + j) dc ds dl))
              case atStart => exact ⟨0, v, da, dc, ds, dl, rfl, rfl, Nat.zero_le _, by omega, HCH.out, HIN.out⟩
              case round =>
                obtain ⟨j, vj, da, dc, ds, dl, rfl, rfl, hjt, hg2, HJ⟩ := hrel
                have HC := Lib.hid HJ.out.1
                have HI := Lib.hid HJ.out.2
                clear HJ HIN HCH HX
                by_cases hjl : j < tn
                · have hjz : (j : Int) < (tn : Int) := by omega
                  obtain ⟨x, hx⟩ : ∃ x, d[j]? = some x := ⟨_, List.getElem?_eq_getElem (by rw [HTN.out]; exact hjl)⟩
                  have HXD := Lib.hid hx
                  have HC2 : Hid (chn vj (x :: d.drop (j + 1)) a) := by
                    have h := HC.out
                    rw [drop_at hx] at h
                    exact h
                  obtain ⟨hfx, hrx, hcx⟩ := HC2.out
                  have HCX := Lib.hid hcx
                  have hlt2 := fits_lt hfx
                  have hav : vj.getD x.1.r.toNat 0 = x.2 - 1 := ready_new hrx
                  have F := ok_facts (fits_iff.1 hfx).2.1
                  have hq0 := F.q0
                  have hq1 := F.q1
                  have hr0 : 0 ≤ x.1.r := hlt2.2
                  have hvl := HI.out.len
                  have hrm : x.1.r < (m : Int) := by omega
                  have hrt : x.1.r.toNat < m := by omega
                  obtain ⟨tb, to2, rfl, xa, xc, hat, hxr, hxl⟩ := (own_at HI.out.t HI.out.td).2.2 j x hx
                  have HXL := Lib.hid hxl
                  obtain ⟨gc, gf, -, -⟩ := OwnK.cellAt hvl HI.out.own x.1.r.toNat hrt
                  rw [hav] at gc
                  obtain ⟨y, hy⟩ : ∃ y, x.2 - 1 = y := ⟨_, rfl⟩
                  rw [hy] at gc
                  have hcov : Hv.coversB vj x.1.ds = true := by
                    unfold readyB at hrx
                    rw [Bool.and_eq_true] at hrx
                    exact hrx.2
                  have HB := HI.out.bel
                  have x28 : St.RegrownTo wr 28 #[valO x xa x.1.ds.length xc] (.bool true) := regrown_at fun W' hb => by
                    have h := refOp_any x.1.t x.1.r x.2 xa x.1.ds x.1.ds.length xc x.1.k x.1.nt x.1.nr x.1.pt x.1.pr x.1.s x.1.p x.1.v W' (hxr.below hb (Nat.le_refl _)) rfl (by omega)
                    have e : opB x.1.t x.1.r x.2 x.1.ds x.1.k x.1.nt x.1.nr x.1.pt x.1.pr x.1.s x.1.p x.1.v = true := (fits_iff.1 hfx).2.1
                    rw [e] at h
                    exact h
                  have x29 : St.RegrownTo wr 29 #[.slice (some ⟨gv, 0, none⟩) m m, .slice xa x.1.ds.length xc] (.bool true) := regrown_at fun W' hb => by
                    have h := Hv.refCovers_any (some ⟨gv, 0, none⟩) xa vj x.1.ds m m x.1.ds.length xc W' ((ownK_row HI.out.own).below hb (Nat.le_refl _)) (hxr.below hb (Nat.le_refl _)) hvl.symm rfl (fits_pair hfx)
                    rw [hcov] at h
                    exact h.mono fun e w' h2 => ⟨h2.1, by obtain ⟨q, hq⟩ := h2.2; rw [hq]; exact below_drewN (Below.refl _ _) q⟩
                  have HVY : Hid (vj.getD x.1.r.toNat 0 = y) := by show _ = _; rw [hav]; exact hy
                  have hws1 : IntKind.i64.wrap (x.2 - 1) = y := by rw [← hy]; exact IntWalk.i64_in _ (by omega)
                  have hws2 : wrap64 (x.2 - 1) = y := by rw [← hy]; exact IntWalk.wrap64_in _ (by omega)
                  have HWY : Hid (wrap64 (y + 1) = x.2) := by show _ = _; rw [IntWalk.wrap64_in _ (by omega)]; omega
                  have hyy : (y != y) = false := by simp
                  have gcr := cell_regrown gc
                  obtain ⟨g0, g1', g2', g3, g4, g5, g6, g7, g8, g9, g10, g11⟩ := hat.regrown
                  have HAT := Lib.hid hat
                  clear hx hfx hrx hcx hlt2 hav F hq0 hq1 hvl hcov HB hxr hxl gc gf hat hy HC HC2
                  generalize x.1.ds.length = xn at *
                  go_upto_region 19 with fail
                  go_cut [120] from 81 to 138 (fun v120 wc => v120 = .bool false ∧ Hid (Below wr.heap.size wr wc))
                  case first =>
                    go_wp2_with fail
                    refine wp_region_quiet_below (by assumption) (by kernel_rfl) ?_
                    repeat (go_big_quiet_step ((first | (go_at_call 28; with_reducible exact x28 _ _) | (go_at_call 29; with_reducible exact x29 _ _))))
                    refine wpQuiet_nil ?_
                    intro _ hw'
                    obtain ⟨⟨dq, osq⟩, hw''⟩ := hw'
                    subst hw''
                    go_wp2_with fail
                    go_meet
                    case rel => exact ⟨rfl, below_regrown _ dq osq⟩
                  case rest =>
                    obtain ⟨rfl, HBc⟩ := hcut
                    have HI3 := Lib.hid (HI.out.next HBc.out)
                    have HAT3 := Lib.hid (HAT.out.next HBc.out)
                    clear x28 x29 gcr g0 g1' g2' g3 g4 g5 g6 g7 g8 g9 g10 g11 hws1 hws2 hyy HI HAT HBc
                    obtain ⟨gc, gf, -, -⟩ := OwnK.cellAt HI3.out.len HI3.out.own x.1.r.toNat hrt
                    rw [HVY.out] at gc
                    have HI4 := Lib.hid (HI3.out.write x)
                    obtain ⟨tb2, to3, e3, xa4, xc4, hat4, -, -⟩ := (own_at HI4.out.t HI4.out.td).2.2 j x HXD.out
                    obtain ⟨rfl, rfl⟩ : tb = tb2 ∧ to2 = to3 := by
                      injection e3 with e
                      injection e with e1 e2
                      exact ⟨e1, e2⟩
                    clear e3
                    generalize x.1.ds.length = xl at hat4
                    have HSB := Lib.hid (HI4.out.next (box_bel (wc.setCell ⟨gv, x.1.r.toNat, none⟩ (.int .i64 x.2)) (objO x xa4 xl xc4)))
                    have HSRC : Hid (SrcO ((wc.setCell ⟨gv, x.1.r.toNat, none⟩ (.int .i64 x.2)).alloc (objO x xa4 xl xc4)) (some ⟨wc.heap.size, 0, none⟩) [x] [.slice xa4 xl xc4]) := by
                      have h := (ownO_one (wc.setCell ⟨gv, x.1.r.toNat, none⟩ (.int .i64 x.2)) 0 x xa4 xl xc4 (Nat.zero_le _)).src (fun d' hd' => by simp only [List.mem_singleton] at hd'; rw [hd']; rfl)
                      rw [World.size_setCell] at h
                      exact h
                    have HLEN : Hid ((ds.length + [x].length) * 120 ≤ 140737488355328) := by
                      have h1 := don_at HI4.out.don
                      have h2 := HDN.out
                      have h3 := HTN.out
                      show _ ≤ _
                      rw [List.length_singleton]
                      omega
                    have HBA : Hid (gv + 1 ≤ ((wc.setCell ⟨gv, x.1.r.toNat, none⟩ (.int .i64 x.2)).alloc (objO x xa4 xl xc4)).heap.size) := by
                      have h1 := HSB.out.hA
                      have h2 := HSB.out.hA2
                      have h3 := HSB.out.hAA
                      show _ ≤ _
                      omega
                    obtain ⟨c0, c1, c2, c3, c4, c5, c6, c7, c8, c9, c10, c11⟩ := HAT3.out
                    obtain ⟨d0, d1, d2, d3, d4, d5, d6, d7, d8, d9, d10, d11⟩ := hat4
                    have hwy := HWY.out
                    go_wp2_with (at_builtin
                                 refine wpO_src rfl _ _ rfl (gv + 1) _ (.slice da (dn + j) dc) ds dl (some ⟨wc.heap.size, 0, none⟩) 1 1 [x] [.slice xa4 xl xc4] rfl HSB.out.don rfl HSRC.out rfl HLEN.out HBA.out ?_
                                 intro v6 w6 ho6 hg6 h56
                                 obtain ⟨da6, dc6, rfl, hi6⟩ := HSB.out.push ho6 hg6 h56
                                 have HI6 := Lib.hid hi6
                                 clear ho6 hg6 h56 hi6)
                    clear c0 c1 c2 c3 c4 c5 c6 c7 c8 c9 c10 c11 d0 d1 d2 d3 d4 d5 d6 d7 d8 d9 d10 d11 gc gf hwy
                    go_roundg (tn - (j + 1))
                    case measure => omega
                    case rel =>
                      have hb1 := HDN.out
                      have hb2 := HTN.out
                      have hb3 : j ≤ 16 := by omega
                      clear hb1 hb2
                      refine ⟨j + 1, setV vj x, da6, dc6, ds ++ [x], dl ++ [.slice xa4 xl xc4], rfl, (by rw [IntWalk.wrap64_in _ (by omega)]; go_num), ?_, ?_, HCX.out, HI6.out⟩
                      · omega
                      · omega
                · have hjz : ¬ (j : Int) < (tn : Int) := by omega
                  obtain rfl : tn = j := by omega
                  have e : a = vj := by
                    have h := HC.out
                    rw [List.drop_of_length_le (by rw [HTN.out]; exact Nat.le_refl _)] at h
                    exact h
                  subst e
                  have CE := Lib.hid (eqI_yes (some ⟨gv, 0, none⟩) wa a m wn m wc9 wr (ownK_row HI.out.own) (ownK_row' HI.out.wv) HI.out.len.symm HWN.out (by rw [HI.out.len]; omega))
                  have HNY : Hid (HInv m os c (i + 1) a b (dn + tn)) := by
                    have h := HNX.out
                    rw [HTN.out] at h
                    exact h
                  clear HNX HC
                  go_wp2_with fail
                  refine (CE.out).mono ?_
                  rintro e w4 ⟨rfl, nq, rfl⟩
                  have HO := Lib.hid ((HI.out.next (below_drewN (Below.refl _ _) nq)).last)
                  generalize wr.drewN nq = w5 at HO ⊢
                  go_wp2_with fail
                  go_roundg (3 * n - (i + 1))
                  case measure => omega
                  case rel =>
                    have hb1 := H16.out
                    have hb3 : i ≤ 48 := by omega
                    clear hb1
                    refine ⟨i + 1, a, la, ln, lc, b, da, dn + tn, dc, ds, dl, rfl, rfl, (by rw [IntWalk.wrap64_in _ (by omega)]; go_num), ?_, ?_, HNY.out, HO.out⟩
                    · omega
                    · omega
        · have hltz : ¬ (i : Int) < (n3 : Int) := by omega
          have hfin := HInv.fin (v := v) (h := hs) (dn := dn) HCAS.out (by
            have h := HI1.out
            rw [show i = 3 * os.length by rw [HN.out]; omega] at h
            exact h)
          obtain ⟨rfl, hdn⟩ := hfin
          rw [HN.out] at hdn
          have hhn := HX.out.hl
          rw [List.length_nil] at hhn
          subst hdn hhn
          have hw3 := HW3.out
          have HT9 := Lib.hid (HTW.out wr (HKB.out wr HX.out.bel))
          have HB9 := Lib.hid (HKB.out wr HX.out.bel)
          have hcz : ((dn : Int) == (dn : Int)) = true := by simp
          clear hn3 hg1 hi3 hlt
          go_upto_region 26 with fail
          clear hw3
          go_wp2_with fail
          refine (wakes14_any wr HT9.out).mono ?_
          rintro e w9 ⟨rfl, hb9⟩
          have HB10 := Lib.hid (HB9.out.trans (hb9.mono (by have := HB9.out.size; rw [HG.out] at this; exact this)))
          clear hb9
          go_wp2
          go_ret
          exact ⟨rfl, by rw [HG.out]; exact HB10.out⟩
    · go_wp2
      go_ret
      exact ⟨rfl, by rw [HG.out]; exact HB0.out⟩
end Go.Proofs.YtdpopdlifcjdeaaDoor
