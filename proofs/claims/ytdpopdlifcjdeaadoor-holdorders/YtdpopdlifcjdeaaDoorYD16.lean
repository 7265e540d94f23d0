/- Joined: D16. -/
import Derived.Test.YtdpopdlifcjdeaaDoorYD12

/- Hold: where one stands among the held ones: mathematics, and the search. -/
namespace Go.Proofs.YtdpopdlifcjdeaaDoor
open Go.RowKit Go.Lib
set_option linter.unusedVariables false

theorem cmpO_lt {x y : OpD} : cmpO x y < 0 ↔ x.1.t < y.1.t ∨ (x.1.t = y.1.t ∧ x.1.r < y.1.r) := by
  unfold cmpO St.cmpS St.cmpI
  split
  · split
    · constructor
      · intro _; right; exact ⟨by assumption, by assumption⟩
      · intro _; decide
    · split <;> constructor <;> intro h <;> omega
  · split
    · constructor
      · intro _; left; assumption
      · intro _; decide
    · split <;> constructor <;> intro h <;> omega
theorem cmpO_eq {x y : OpD} : cmpO x y = 0 ↔ x.1.t = y.1.t ∧ x.1.r = y.1.r := by
  unfold cmpO St.cmpS St.cmpI
  split
  · split
    · constructor <;> intro h <;> omega
    · split <;> constructor <;> intro h <;> omega
  · split
    · constructor <;> intro h <;> omega
    · split <;> constructor <;> intro h <;> omega
theorem cmpO_trans {x y z : OpD} (h1 : cmpO x y < 0) (h2 : cmpO y z < 0) : cmpO x z < 0 := by
  rw [cmpO_lt] at *
  omega
/-- each stands ahead of all behind it -/
def Srt (hs : List OpD) : Prop := ∀ (i j : Nat) (x y : OpD), i < j → hs[i]? = some x → hs[j]? = some y → cmpO x y < 0
theorem held_next {v : List Int} {hs : List OpD} (h : heldB v hs = true) {i : Nat} {x y : OpD} (hx : hs[i]? = some x) (hy : hs[i + 1]? = some y) : cmpO x y < 0 := by
  have h1 := (held_iff.1 h).2.2 (i + 1) (List.getElem?_eq_some_iff.1 hy).1
  rw [heldAt_is hy, prevB_succ hx] at h1
  simp only [Bool.and_eq_true, decide_eq_true_eq] at h1
  exact h1.2
theorem held_srt {v : List Int} {hs : List OpD} (h : heldB v hs = true) : Srt hs := by
  intro i j x y hij hx hy
  obtain ⟨d, rfl⟩ : ∃ d, j = i + 1 + d := ⟨j - (i + 1), by omega⟩
  induction d generalizing y with
  | zero => exact held_next h hx hy
  | succ d ih =>
    obtain ⟨z, hz⟩ : ∃ z, hs[i + 1 + d]? = some z := ⟨_, List.getElem?_eq_getElem (by have := (List.getElem?_eq_some_iff.1 hy).1; omega)⟩
    exact cmpO_trans (ih z (by omega) hz) (held_next h hz hy)
/-- how many stand ahead of it -/
def PosIs (hs : List OpD) (o : OpD) (p : Nat) : Prop := p ≤ hs.length ∧ (∀ k x, k < p → hs[k]? = some x → cmpO x o < 0) ∧ (∀ k x, p ≤ k → hs[k]? = some x → ¬ cmpO x o < 0)
theorem pos_uniq {hs : List OpD} {o : OpD} {p q : Nat} (h1 : PosIs hs o p) (h2 : PosIs hs o q) : p = q := by
  rcases Nat.lt_trichotomy p q with h | h | h
  · obtain ⟨x, hx⟩ : ∃ x, hs[p]? = some x := ⟨_, List.getElem?_eq_getElem (by have := h2.1; omega)⟩
    exact absurd (h2.2.1 p x h hx) (h1.2.2 p x (Nat.le_refl _) hx)
  · exact h
  · obtain ⟨x, hx⟩ : ∃ x, hs[q]? = some x := ⟨_, List.getElem?_eq_getElem (by have := h1.1; omega)⟩
    exact absurd (h1.2.1 q x h hx) (h2.2.2 q x (Nat.le_refl _) hx)
def stampB (hs : List OpD) (o : OpD) : Bool := hs.any fun y => decide (y.1.t = o.1.t ∧ y.1.r = o.1.r)
def hereB (hs : List OpD) (o : OpD) (p : Nat) : Bool := match hs[p]? with | some y => cmpO y o == 0 | none => false
theorem here_stamp {hs : List OpD} {o : OpD} {p : Nat} (hs0 : Srt hs) (hp : PosIs hs o p) : hereB hs o p = stampB hs o := by
  rw [Bool.eq_iff_iff]
  unfold hereB stampB
  rw [List.any_eq_true]
  constructor
  · intro h
    split at h
    · rename_i y hy
      rw [beq_iff_eq, cmpO_eq] at h
      exact ⟨y, List.mem_of_getElem? hy, by rw [decide_eq_true_eq]; exact h⟩
    · cases h
  · rintro ⟨y, hy, h⟩
    rw [decide_eq_true_eq] at h
    obtain ⟨k, hk⟩ := List.getElem?_of_mem hy
    have hyo : cmpO y o = 0 := cmpO_eq.2 h
    have hkp : p ≤ k := by
      rcases Nat.lt_or_ge k p with hlt | hge
      · have := hp.2.1 k y hlt hk; omega
      · exact hge
    rcases Nat.lt_or_ge p k with hlt | hge
    · obtain ⟨z, hz⟩ : ∃ z, hs[p]? = some z := ⟨_, List.getElem?_eq_getElem (by have := (List.getElem?_eq_some_iff.1 hk).1; omega)⟩
      have h1 := hs0 p k z y hlt hz hk
      have h2 := hp.2.2 p z (Nat.le_refl _) hz
      exfalso
      apply h2
      rw [cmpO_lt] at h1 ⊢
      omega
    · obtain rfl : k = p := by omega
      rw [hk]
      simp [hyo]

def CmpPost (z : Int) (w : World) (e : Ending) (w' : World) : Prop := e = .returned (.int .i64 z) ∧ Below w.heap.size w w'
set_option maxHeartbeats 1000000 in
theorem byStamps_any (x : OpD) (da : Option Addr) (dn dc : Nat) (y : OpD) (da' : Option Addr) (dn' dc' : Nat) (w : World) : Calls Tryd.prog 44 #[valO x da dn dc, valO y da' dn' dc'] w (CmpPost (cmpO x y) w) := by
  have HB := Lib.hid (St.below2 w (objO x da dn dc) (objO y da' dn' dc'))
  have C := Lib.hid (fun W => St.cmp_any x.1.t x.1.r y.1.t y.1.r W)
  go_enter Tryd.func44, Tryd.ntmps44
  go_wp2_with fail
  refine (C.out _).mono ?_
  rintro e w1 ⟨rfl, hb⟩
  have HB1 := Lib.hid (HB.out.trans (hb.mono HB.out.size))
  clear hb
  go_wp2
  go_ret
  exact ⟨rfl, HB1.out⟩

def SearchPost (hs : List OpD) (o : OpD) (w : World) (e : Ending) (w' : World) : Prop := ∃ p : Nat, e = .returned (.tuple #[.int .i64 (p : Int), .bool (hereB hs o p)]) ∧ PosIs hs o p ∧ Below w.heap.size w w'
set_option maxHeartbeats 8000000 in
set_option maxRecDepth 100000 in
theorem search_any (ha : Option Addr) (hs : List OpD) (n c : Nat) (o : OpD) (oa : Option Addr) (on oc : Nat) (w : World) (hr : RowO w ha hs) (hn : n = hs.length) (hl : n ≤ 16) (hsr : Srt hs) :
    Calls Tryd.prog 43 #[.slice ha n c, valO o oa on oc, .func (.func 44) #[] #[]] w (SearchPost hs o w) := by
  have mixed : Tryd.prog.follows .mixedOrders = true := by kernel_rfl
  have HA := Lib.hid hr
  have HN := Lib.hid hn
  have HS := Lib.hid hsr
  have HBT := Lib.hid (box_bel w (objO o oa on oc))
  have HO := Lib.hid (OpX.new w o oa on oc)
  clear hr hn hsr
  go_enter Tryd.func43, Tryd.ntmps43
  go_wp2
  go_loopg [9, 10, 11] 16 (fun kx s9 s10 _ wr => ∃ lo hi : Nat, s9 = .int .i64 (lo : Int) ∧ s10 = .int .i64 (hi : Int) ∧ lo ≤ hi ∧ hi ≤ n ∧ hi - lo ≤ kx ∧ Hid ((∀ k x, k < lo → hs[k]? = some x → cmpO x o < 0) ∧ (∀ k x, hi ≤ k → hs[k]? = some x → ¬ cmpO x o < 0)) ∧ Hid (Below (w.alloc (objO o oa on oc)).heap.size (w.alloc (objO o oa on oc)) wr))
  case atStart => exact ⟨0, n, rfl, rfl, Nat.zero_le _, Nat.le_refl _, by omega, ⟨fun k x hk => absurd hk (Nat.not_lt_zero _), fun k x hk hx => by have := (List.getElem?_eq_some_iff.1 hx).1; have := HN.out; omega⟩, Below.refl _ _⟩
  case round =>
    obtain ⟨lo, hi, rfl, rfl, hlh, hin, hg, HI, HB⟩ := hrel
    by_cases hlt : lo < hi
    · have hltz : (lo : Int) < (hi : Int) := by omega
      obtain ⟨m, hm⟩ : ∃ m, (lo + hi) / 2 = m := ⟨_, rfl⟩
      have hmz : ((lo : Int) + (hi : Int)) / 2 = (m : Int) := by omega
      have hmn : m < n := by omega
      have hmnz : (m : Int) < (n : Int) := by omega
      obtain ⟨x, hx⟩ : ∃ x, hs[m]? = some x := ⟨_, List.getElem?_eq_getElem (by rw [← HN.out]; exact hmn)⟩
      have HX := Lib.hid hx
      have HBW := Lib.hid (HBT.out.trans (HB.out.mono HBT.out.size))
      obtain ⟨b, off, rfl, da, dc, hat, hrow, hdm⟩ := (HA.out.below HBW.out) m x hx
      obtain ⟨z, hz⟩ : ∃ z, cmpO x o = z := ⟨_, rfl⟩
      have HZ := Lib.hid hz
      have C := Lib.hid (fun W => byStamps_any x da x.1.ds.length dc o oa on oc W)
      rw [hz] at C
      have x1 : St.RegrownTo wr 44 #[valO x da x.1.ds.length dc, valO o oa on oc] (.int .i64 z) := regrown_at fun W' hb => C.out W'
      obtain ⟨g0, g1, g2, g3, g4, g5, g6, g7, g8, g9, g10, g11⟩ := hat.regrown
      obtain ⟨f0, f1, f2, f3, f4, f5, f6, f7, f8, f9, f10, f11⟩ := (HO.out.next HB.out).regrown
      have HM := Lib.hid hm
      clear hx hat hrow hdm hz C hm
      generalize x.1.ds.length = dn at *
      go_wp2_with fail
      refine wp_region_quiet_below (by assumption) (by kernel_rfl) ?_
      repeat (go_big_quiet_step ((first | (go_at_call 44; with_reducible exact x1 _ _))))
      refine wpQuiet_nil ?_
      intro _ hw'
      obtain ⟨⟨dq, osq⟩, hw''⟩ := hw'
      subst hw''
      have HB1 := Lib.hid (HB.out.trans ((below_regrown _ dq osq).mono HB.out.size))
      generalize Go.Sort.grow (redrawn wr dq) osq = w1 at *
      clear g0 g1 g2 g3 g4 g5 g6 g7 g8 g9 g10 g11 f0 f1 f2 f3 f4 f5 f6 f7 f8 f9 f10 f11 x1
      cases hd : decide (z < 0)
      · have hz0 : ¬ z < 0 := of_decide_eq_false hd
        have HI2 : Hid ((∀ k x, k < lo → hs[k]? = some x → cmpO x o < 0) ∧ (∀ k x, m ≤ k → hs[k]? = some x → ¬ cmpO x o < 0)) := ⟨HI.out.1, fun k y hk hy hyo => by
          rcases Nat.lt_or_ge m k with h | h
          · exact hz0 (by rw [← HZ.out]; exact cmpO_trans (HS.out m k x y h HX.out hy) hyo)
          · obtain rfl : k = m := by omega
            rw [HX.out] at hy
            injection hy with hy
            rw [← hy, HZ.out] at hyo
            exact hz0 hyo⟩
        clear hz0
        go_wp2_with fail
        go_roundg (m - lo)
        case measure => omega
        case rel => exact ⟨lo, m, rfl, rfl, by have := HM.out; omega, by omega, by omega, HI2.out, HB1.out⟩
      · have hz0 : z < 0 := of_decide_eq_true hd
        have HI2 : Hid ((∀ k x, k < m + 1 → hs[k]? = some x → cmpO x o < 0) ∧ (∀ k x, hi ≤ k → hs[k]? = some x → ¬ cmpO x o < 0)) := ⟨fun k y hk hy => by
          rcases Nat.lt_or_ge k m with h | h
          · exact cmpO_trans (HS.out k m y x h hy HX.out) (by rw [HZ.out]; exact hz0)
          · obtain rfl : k = m := by omega
            rw [HX.out] at hy
            injection hy with hy
            rw [← hy, HZ.out]
            exact hz0, fun k y hk hy => by have := HI.out.2 k y hk hy; omega⟩
        clear hz0
        go_wp2_with fail
        go_roundg (hi - (m + 1))
        case measure => omega
        case rel => exact ⟨m + 1, hi, by go_num, rfl, by omega, by omega, by omega, HI2.out, HB1.out⟩
    · obtain rfl : hi = lo := by omega
      have hltz : ¬ (hi : Int) < (hi : Int) := by omega
      have HP : Hid (PosIs hs o hi) := ⟨by have := HN.out; omega, HI.out.1, fun k y hk hy => by have := HI.out.2 k y hk hy; omega⟩
      have HBE := Lib.hid HBT.out.size
      by_cases hin2 : hi < n
      · have hinz : (hi : Int) < (n : Int) := by omega
        obtain ⟨x, hx⟩ : ∃ x, hs[hi]? = some x := ⟨_, List.getElem?_eq_getElem (by rw [← HN.out]; exact hin2)⟩
        have HBW := Lib.hid (HBT.out.trans (HB.out.mono HBT.out.size))
        obtain ⟨b, off, rfl, da, dc, hat, hrow, hdm⟩ := (HA.out.below HBW.out) hi x hx
        obtain ⟨z, hz⟩ : ∃ z, cmpO x o = z := ⟨_, rfl⟩
        have HH : Hid (hereB hs o hi = (z == 0)) := by show _ = _; unfold hereB; rw [hx, ← hz]
        have C := Lib.hid (fun W => byStamps_any x da x.1.ds.length dc o oa on oc W)
        rw [hz] at C
        have x1 : St.RegrownTo wr 44 #[valO x da x.1.ds.length dc, valO o oa on oc] (.int .i64 z) := regrown_at fun W' hb => C.out W'
        obtain ⟨g0, g1, g2, g3, g4, g5, g6, g7, g8, g9, g10, g11⟩ := hat.regrown
        obtain ⟨f0, f1, f2, f3, f4, f5, f6, f7, f8, f9, f10, f11⟩ := (HO.out.next HB.out).regrown
        obtain ⟨e0, he0⟩ : ∃ e0, (z == 0) = e0 := ⟨_, rfl⟩
        rw [he0] at HH
        clear hx hat hrow hdm hz C
        generalize x.1.ds.length = dn at *
        go_wp2_with fail
        refine wp_region_quiet_below (by assumption) (by kernel_rfl) ?_
        repeat (go_big_quiet_step ((first | (go_at_call 44; with_reducible exact x1 _ _))))
        refine wpQuiet_nil ?_
        intro _ hw'
        obtain ⟨⟨dq, osq⟩, hw''⟩ := hw'
        subst hw''
        have HB1 := Lib.hid (HB.out.trans ((below_regrown _ dq osq).mono HB.out.size))
        generalize Go.Sort.grow (redrawn wr dq) osq = w1 at *
        clear g0 g1 g2 g3 g4 g5 g6 g7 g8 g9 g10 g11 f0 f1 f2 f3 f4 f5 f6 f7 f8 f9 f10 f11 x1
        go_wp2
        go_ret2
        exact ⟨hi, by rw [HH.out]; rfl, HP.out, HBT.out.trans (HB1.out.mono HBT.out.size)⟩
      · have hinz : ¬ (hi : Int) < (n : Int) := by omega
        have hinz' : decide ((hi : Int) < (n : Int)) = false := decide_eq_false hinz
        have HH : Hid (hereB hs o hi = false) := by show _ = _; unfold hereB; rw [List.getElem?_eq_none (by have := HN.out; omega)]
        go_wp2_with fail
        go_quiet (fail)
        go_wp2
        go_ret2
        exact ⟨hi, by rw [HH.out]; rfl, HP.out, HBT.out.trans ((below_drewN HB.out _).mono HBT.out.size)⟩
end Go.Proofs.YtdpopdlifcjdeaaDoor
