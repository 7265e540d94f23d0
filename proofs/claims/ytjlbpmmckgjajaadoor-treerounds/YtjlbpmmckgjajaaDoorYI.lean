/- Joined: TE6 TJ2. -/
import Derived.Test.YtjlbpmmckgjajaaDoorYH
import Derived.ScopeJumps

/- Trees: where a stamp goes among the entries. -/
namespace Go.Proofs.YtjlbpmmckgjajaaDoor
open Go.RowKit Go.Lib Go.Maps
set_option linter.unusedVariables false

theorem st_same (t r u v : Int) : (St.cmpS t r u v == 0) = decide ((t, r) = (u, v)) := by
  rw [Bool.eq_iff_iff, beq_iff_eq, decide_eq_true_eq, Prod.mk.injEq]
  unfold St.cmpS St.cmpI
  constructor
  · intro h
    (repeat (first | omega | split at h))
  · intro h
    (repeat (first | omega | split))
theorem asc_at {l : List OpD} (h : AscS l) {i j : Nat} {x y : OpD} (hij : i < j) (hx : l[i]? = some x) (hy : l[j]? = some y) : ltP (stO x) (stO y) = true := by
  unfold AscS at h
  rw [List.pairwise_iff_getElem] at h
  have h1 := (List.getElem?_eq_some_iff.1 hx)
  have h2 := (List.getElem?_eq_some_iff.1 hy)
  obtain ⟨h1, e1⟩ := h1
  obtain ⟨h2, e2⟩ := h2
  have := h i j h1 h2 hij
  rwa [e1, e2] at this
/-- how many are ahead, at the least and at the most -/
def Betw (os : List OpD) (o : OpD) (lo hi : Nat) : Prop := (∀ k x, k < lo → os[k]? = some x → ltP (stO x) (stO o) = true) ∧ (∀ k x, hi ≤ k → os[k]? = some x → ltP (stO x) (stO o) = false)
theorem Betw.pos {os : List OpD} {o : OpD} {p : Nat} (h : Betw os o p p) (hp : p ≤ os.length) : PosS os o p := by
  refine ⟨hp, fun x hx => ?_, fun x hx => ?_⟩
  · obtain ⟨k, hk⟩ := List.getElem?_of_mem hx
    rw [List.getElem?_take] at hk
    split at hk
    · exact h.1 k x (by assumption) hk
    · cases hk
  · obtain ⟨k, hk⟩ := List.getElem?_of_mem hx
    rw [List.getElem?_drop] at hk
    exact h.2 (p + k) x (by omega) hk
theorem here_at {os : List OpD} {o x : OpD} {p : Nat} (ha : AscS os) (h : Betw os o p p) (hx : os[p]? = some x) : hereS os o = decide (stO x = stO o) := by
  rw [Bool.eq_iff_iff, decide_eq_true_eq]
  constructor
  · intro hh
    obtain ⟨y, hy, e⟩ := here_yes hh
    obtain ⟨k, hk⟩ := List.getElem?_of_mem hy
    rcases Nat.lt_trichotomy k p with hlt | rfl | hlt
    · have h1 := h.1 k y hlt hk
      rw [e, ltP_irr] at h1
      cases h1
    · rw [hx] at hk
      injection hk with hk
      rw [hk]; exact e
    · have h1 := asc_at ha hlt hx hk
      have h2 := h.2 p x (Nat.le_refl _) hx
      rw [e, h2] at h1
      cases h1
  · intro e
    unfold hereS
    rw [List.any_eq_true]
    exact ⟨x, List.mem_of_getElem? hx, by simpa using e⟩
theorem here_end {os : List OpD} {o : OpD} {p : Nat} (h : Betw os o p p) (hp : os.length ≤ p) : hereS os o = false := by
  rw [Bool.eq_false_iff]
  intro hh
  obtain ⟨y, hy, e⟩ := here_yes hh
  obtain ⟨k, hk⟩ := List.getElem?_of_mem hy
  have h1 := h.1 k y (by have := (List.getElem?_eq_some_iff.1 hk).1; omega) hk
  rw [e, ltP_irr] at h1
  cases h1
def SearchPost (os : List OpD) (o : OpD) (w : World) (e : Ending) (w' : World) : Prop := ∃ p : Nat, e = .returned (.tuple #[.int .i64 (p : Int), .bool (hereS os o)]) ∧ PosS os o p ∧ Below w.heap.size w w'
set_option maxHeartbeats 8000000 in
set_option maxRecDepth 100000 in
theorem search_any (ma : Option Addr) (ys : List EV) (n c : Nat) (o : OpD) (oa : Option Addr) (on oc : Nat) (w : World) (hr : RowM w ma ys) (hn : n = ys.length) (hl : n ≤ 400) (hsr : AscS (opsY ys)) :
    Calls Tryd.prog 25 #[.slice ma n c, valO o oa on oc, .func (.func 26) #[] #[]] w (SearchPost (opsY ys) o w) := by
  have mixed : Tryd.prog.follows .mixedOrders = true := by kernel_rfl
  obtain ⟨os, hos⟩ : ∃ os, opsY ys = os := ⟨_, rfl⟩
  rw [hos] at hsr ⊢
  have HOS := Lib.hid hos
  have HA := Lib.hid hr
  have HN := Lib.hid hn
  have HNO : Hid (os.length = n) := by show _ = _; rw [← hos, hn]; simp [opsY]
  have HS := Lib.hid hsr
  have HBT := Lib.hid (box_bel w (objO o oa on oc))
  have HO := Lib.hid (blkX_new w o oa on oc)
  clear hr hn hsr hos
  go_enter Tryd.func25, Tryd.ntmps25
  go_wp2
  go_loopg [9, 10, 11] n (fun kx s9 s10 _ wr => ∃ lo hi : Nat, s9 = .int .i64 (lo : Int) ∧ s10 = .int .i64 (hi : Int) ∧ lo ≤ hi ∧ hi ≤ n ∧ hi - lo ≤ kx ∧ Hid (Betw os o lo hi) ∧ Hid (Below (w.alloc (objO o oa on oc)).heap.size (w.alloc (objO o oa on oc)) wr))
  case atStart => exact ⟨0, n, rfl, rfl, Nat.zero_le _, Nat.le_refl _, by omega, ⟨fun k x hk => absurd hk (Nat.not_lt_zero _), fun k x hk hx => by have := (List.getElem?_eq_some_iff.1 hx).1; have := HNO.out; omega⟩, Below.refl _ _⟩
  case round =>
    obtain ⟨lo, hi, rfl, rfl, hlh, hin, hg, HI, HB⟩ := hrel
    by_cases hlt : lo < hi
    · have hltz : (lo : Int) < (hi : Int) := by omega
      obtain ⟨m, hm⟩ : ∃ m, (lo + hi) / 2 = m := ⟨_, rfl⟩
      have hmz : ((lo : Int) + (hi : Int)) / 2 = (m : Int) := by omega
      have hmn : m < n := by omega
      have hmnz : (m : Int) < (n : Int) := by omega
      obtain ⟨y, hy⟩ : ∃ y, ys[m]? = some y := ⟨_, List.getElem?_eq_getElem (by rw [← HN.out]; omega)⟩
      obtain ⟨⟨da, dn, dc⟩, hyd⟩ : ∃ d, y.2 = d := ⟨_, rfl⟩
      obtain ⟨e, hye⟩ : ∃ e, y.1 = e := ⟨_, rfl⟩
      have HX : Hid (os[m]? = some e.op) := by show _ = _; rw [← HOS.out, ← hye]; exact opsY_at hy
      have HBW := Lib.hid (HBT.out.trans (HB.out.mono HBT.out.size))
      have hRM := HA.out.next HBW.out
      obtain ⟨b, off, rfl, hlt2⟩ := hRM.addr hy
      have HC : Hid (CellsAt wr b (off + m * 17) (cellsE e da dn dc)) := by
        have h1 := hRM.cells hy
        unfold EV.enc at h1
        rw [hye, hyd] at h1
        exact h1
      obtain ⟨z, hz⟩ : ∃ z, St.cmpS e.op.1.t e.op.1.r o.1.t o.1.r = z := ⟨_, rfl⟩
      have HZ : Hid (decide (z < 0) = ltP (stO e.op) (stO o)) := by show _ = _; rw [← hz]; exact st_lt _ _ _ _
      have HZ0 : Hid ((z == 0) = decide (stO e.op = stO o)) := by show _ = _; rw [← hz]; exact st_same _ _ _ _
      have C := Lib.hid (fun W => byStamps_any e ⟨da, dn, dc⟩ o ⟨oa, on, oc⟩ W)
      rw [hz] at C
      have x1 : St.RegrownTo wr 26 #[valE e da dn dc, valO o oa on oc] (.int .i64 z) := regrown_at fun W' hb => C.out W'
      have hq1 := loadQ_ent HC.out
      have hq2 := loadQ_op (HO.out.next HB.out).cells
      have HM := Lib.hid hm
      clear hy hyd hye hRM hlt2 hz C hm
      go_wp2_with fail
      refine wp_region_quiet_below (by assumption) (by kernel_rfl) ?_
      repeat (first
                   | (go_big_quiet_want; refine quiet_loadS _ 54 rfl b (off + m * 17) rfl _ hq1 ?_; simp only [Act.put, List.setIfInBounds_toArray, List.set_cons_succ, List.set_cons_zero]; go_big_quiet_on)
                   | (go_big_quiet_want; refine quiet_loadS _ 39 rfl w.heap.size 0 rfl _ hq2 ?_; simp only [Act.put, List.setIfInBounds_toArray, List.set_cons_succ, List.set_cons_zero]; go_big_quiet_on)
                   | (go_big_quiet_step ((go_at_call 26; with_reducible exact x1 _ _))))
      refine wpQuiet_nil ?_
      intro _ hw'
      obtain ⟨⟨dq, osq⟩, hw''⟩ := hw'
      subst hw''
      have HB1 := Lib.hid (HB.out.trans ((below_regrown _ dq osq).mono HB.out.size))
      generalize Go.Sort.grow (redrawn wr dq) osq = w1 at *
      clear hq1 hq2 x1
      cases hd : decide (z < 0)
      · have HI2 : Hid (Betw os o lo m) := ⟨HI.out.1, fun k y2 hk hy2 => by
          have h0 := HZ.out
          rw [hd] at h0
          rcases Nat.lt_or_ge m k with h | h
          · rw [Bool.eq_false_iff]
            intro h1
            have h2 := ltP_trans (asc_at HS.out h HX.out hy2) h1
            rw [← h0] at h2
            cases h2
          · obtain rfl : k = m := by omega
            rw [HX.out] at hy2
            injection hy2 with hy2
            rw [← hy2, ← h0]⟩
        go_wp2_with fail
        go_roundg (m - lo)
        case measure => omega
        case rel => exact ⟨lo, m, rfl, rfl, by have := HM.out; omega, by omega, by omega, HI2, HB1⟩
      · have HI2 : Hid (Betw os o (m + 1) hi) := ⟨fun k y2 hk hy2 => by
          have h0 := HZ.out
          rw [hd] at h0
          rcases Nat.lt_or_ge k m with h | h
          · exact ltP_trans (asc_at HS.out h hy2 HX.out) h0.symm
          · obtain rfl : k = m := by omega
            rw [HX.out] at hy2
            injection hy2 with hy2
            rw [← hy2, ← h0], fun k y2 hk hy2 => HI.out.2 k y2 hk hy2⟩
        go_wp2_with fail
        go_roundg (hi - (m + 1))
        case measure => omega
        case rel => exact ⟨m + 1, hi, by go_num, rfl, by omega, by omega, by omega, HI2, HB1⟩
    · obtain rfl : hi = lo := by omega
      have hltz : ¬ (hi : Int) < (hi : Int) := by omega
      have HP : Hid (PosS os o hi) := HI.out.pos (by have := HNO.out; omega)
      have HBE := Lib.hid HBT.out.size
      by_cases hin2 : hi < n
      · have hinz : (hi : Int) < (n : Int) := by omega
        obtain ⟨y, hy⟩ : ∃ y, ys[hi]? = some y := ⟨_, List.getElem?_eq_getElem (by rw [← HN.out]; omega)⟩
        obtain ⟨⟨da, dn, dc⟩, hyd⟩ : ∃ d, y.2 = d := ⟨_, rfl⟩
        obtain ⟨e, hye⟩ : ∃ e, y.1 = e := ⟨_, rfl⟩
        have HX : Hid (os[hi]? = some e.op) := by show _ = _; rw [← HOS.out, ← hye]; exact opsY_at hy
        have HBW := Lib.hid (HBT.out.trans (HB.out.mono HBT.out.size))
        have hRM := HA.out.next HBW.out
        obtain ⟨b, off, rfl, hlt2⟩ := hRM.addr hy
        have HC : Hid (CellsAt wr b (off + hi * 17) (cellsE e da dn dc)) := by
          have h1 := hRM.cells hy
          unfold EV.enc at h1
          rw [hye, hyd] at h1
          exact h1
        obtain ⟨z, hz⟩ : ∃ z, St.cmpS e.op.1.t e.op.1.r o.1.t o.1.r = z := ⟨_, rfl⟩
        have HZ : Hid (decide (z < 0) = ltP (stO e.op) (stO o)) := by show _ = _; rw [← hz]; exact st_lt _ _ _ _
        have HZ0 : Hid ((z == 0) = decide (stO e.op = stO o)) := by show _ = _; rw [← hz]; exact st_same _ _ _ _
        have C := Lib.hid (fun W => byStamps_any e ⟨da, dn, dc⟩ o ⟨oa, on, oc⟩ W)
        rw [hz] at C
        have x1 : St.RegrownTo wr 26 #[valE e da dn dc, valO o oa on oc] (.int .i64 z) := regrown_at fun W' hb => C.out W'
        have hq1 := loadQ_ent HC.out
        have hq2 := loadQ_op (HO.out.next HB.out).cells
        obtain ⟨e0, he0⟩ : ∃ e0, (z == 0) = e0 := ⟨_, rfl⟩
        have HH : Hid (hereS os o = e0) := by
          have h1 := HZ0.out
          rw [he0] at h1
          show _ = _
          rw [h1]
          exact here_at HS.out HI.out HX.out
        clear hy hyd hye hRM hlt2 hz C
        go_wp2_with fail
        refine wp_region_quiet_below (by assumption) (by kernel_rfl) ?_
        repeat (first
                     | (go_big_quiet_want; refine quiet_loadS _ 54 rfl b (off + hi * 17) rfl _ hq1 ?_; simp only [Act.put, List.setIfInBounds_toArray, List.set_cons_succ, List.set_cons_zero]; go_big_quiet_on)
                     | (go_big_quiet_want; refine quiet_loadS _ 39 rfl w.heap.size 0 rfl _ hq2 ?_; simp only [Act.put, List.setIfInBounds_toArray, List.set_cons_succ, List.set_cons_zero]; go_big_quiet_on)
                     | (go_big_quiet_step ((go_at_call 26; with_reducible exact x1 _ _))))
        refine wpQuiet_nil ?_
        intro _ hw'
        obtain ⟨⟨dq, osq⟩, hw''⟩ := hw'
        subst hw''
        have HB1 := Lib.hid (HB.out.trans ((below_regrown _ dq osq).mono HB.out.size))
        generalize Go.Sort.grow (redrawn wr dq) osq = w1 at *
        clear hq1 hq2 x1
        go_wp2
        go_ret2
        exact ⟨hi, by rw [HH.out]; rfl, HP.out, HBT.out.trans (HB1.out.mono HBT.out.size)⟩
      · have hinz : ¬ (hi : Int) < (n : Int) := by omega
        have hinz' : decide ((hi : Int) < (n : Int)) = false := decide_eq_false hinz
        have HH : Hid (hereS os o = false) := here_end HI.out (by have := HNO.out; omega)
        go_wp2_with fail
        go_quiet (fail)
        go_wp2
        go_ret2
        exact ⟨hi, by rw [HH.out]; rfl, HP.out, HBT.out.trans ((below_drewN HB.out _).mono HBT.out.size)⟩
end Go.Proofs.YtjlbpmmckgjajaaDoor

/- A scope in which the run jumps back to two labels. -/
namespace Go.Proofs.YtjlbpmmckgjajaaDoor
open Go Go.RowKit Go.Lib
set_option linter.unusedVariables false

/-- by a goto: what holds at its label -/
def jump2 (J : Nat → Act → World → Prop) (Q : Exit → Act → World → Prop) : Exit → Act → World → Prop
  | .goto l, a, w => J l a w
  | e, a, w => Q e a w
theorem wp_scope_jumps2 {P : Program} {a : Act} {w : World} {Q : Exit → Act → World → Prop} {c : Code} (rest : Nat → Code) (J : Nat → Act → World → Prop) (μ : Nat → Act → World → Nat) (hf : ∀ l a w, J l a w → findLabel c l = some (rest l))
    (first : c.wp P (jump2 J Q) a w)
    (pass : ∀ l a w, J l a w → (rest l).wp P (jump2 (fun l' a' w' => J l' a' w' ∧ μ l' a' w' < μ l a w) Q) a w) : (Code.scope c).wp P Q a w := by
  intro b k cs
  have hg : ∀ l a w, J l a w → gotoIn l (.inScope c :: k) = some (.code (rest l) :: .inScope c :: k) := fun l a w h => by simp [gotoIn, hf l a w h]
  have key : ∀ n l a w, μ l a w = n → J l a w → ∃ e a' w', Q e a' w' ∧ Arrives P (lone (b.at a (.code (rest l) :: .inScope c :: k)) cs w) b k cs e a' w' := by
    intro n
    induction n using Nat.strongRecOn with
    | _ n ih =>
      intro l a w hn hJ
      obtain ⟨e, a1, w1, hq, harr⟩ := pass l a w hJ b (.inScope c :: k) cs
      cases e with
      | normal => exact ⟨.normal, a1, w1, hq, Steps.trans harr (.one step_inScope)⟩
      | exit id => exact ⟨.exit id, a1, w1, hq, fun k' hk => harr k' (by simp [exitTo, hk])⟩
      | goto l' =>
        obtain ⟨hJ', hlt⟩ := hq
        obtain ⟨e2, a2, w2, hq2, harr2⟩ := ih _ (by omega) l' a1 w1 rfl hJ'
        exact ⟨e2, a2, w2, hq2, .of_steps (harr _ (hg l' a1 w1 hJ')) harr2⟩
      | ret => exact ⟨_, a1, w1, hq, harr⟩
      | panic ch => exact ⟨_, a1, w1, hq, harr⟩
      | outgrown => exact ⟨_, a1, w1, hq, harr⟩
  obtain ⟨e, a1, w1, hq, harr⟩ := first b (.inScope c :: k) cs
  cases e with
  | normal => exact ⟨.normal, a1, w1, hq, .head step_scope (Steps.trans harr (.one step_inScope))⟩
  | exit id => exact ⟨.exit id, a1, w1, hq, fun k' hk => .head step_scope (harr k' (by simp [exitTo, hk]))⟩
  | goto l' =>
    have hJ' : J l' a1 w1 := hq
    obtain ⟨e2, a2, w2, hq2, harr2⟩ := key _ l' a1 w1 rfl hJ'
    exact ⟨e2, a2, w2, hq2, .of_steps (.head step_scope (harr _ (hg l' a1 w1 hJ'))) harr2⟩
  | ret => exact ⟨_, a1, w1, hq, .of_steps (.one step_scope) harr⟩
  | panic ch => exact ⟨_, a1, w1, hq, .of_steps (.one step_scope) harr⟩
  | outgrown => exact ⟨_, a1, w1, hq, .of_steps (.one step_scope) harr⟩
theorem wp_scope_two {P : Program} {a : Act} {w : World} {Q : Exit → Act → World → Prop} {c : Code} (J : Nat → Act → World → Prop) (μ : Nat → Act → World → Nat) (hf : ∀ l a w, J l a w → (findLabel c l).isSome = true)
    (first : c.wp P (jump2 J Q) a w)
    (pass : ∀ l a w, J l a w → ((findLabel c l).getD .skip).wp P (jump2 (fun l' a' w' => J l' a' w' ∧ μ l' a' w' < μ l a w) Q) a w) : (Code.scope c).wp P Q a w :=
  wp_scope_jumps2 (fun l => (findLabel c l).getD .skip) J μ (fun l a w h => by
    have h1 := hf l a w h
    cases h2 : findLabel c l with
    | none => rw [h2] at h1; cases h1
    | some r => rfl) first pass
end Go.Proofs.YtjlbpmmckgjajaaDoor
