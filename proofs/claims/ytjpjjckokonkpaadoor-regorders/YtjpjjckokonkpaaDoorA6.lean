/- Registers: Merge, Set, Get. -/
import Derived.Test.YtjpjjckokonkpaaDoorA5
namespace Go.Proofs.YtjpjjckokonkpaaDoor
open Go.RowKit Go.Lib
set_option linter.unusedVariables false

def MergeYes (w : World) (zs : List RgD) (e : Ending) (w' : World) : Prop := ∃ v, e = .returned (.tuple #[v, .int .i64 0]) ∧ OwnG w' w.heap.size v zs ∧ Below w.heap.size w w'
def MergeNo (w : World) (e : Ending) (w' : World) : Prop := e = .returned (.tuple #[.slice none 0 0, .int .i64 1]) ∧ Below w.heap.size w w'
set_option maxHeartbeats 1000000 in
theorem merge_yes (a : Option Addr) (X : List RgD) (n c : Nat) (b : Option Addr) (Y : List RgD) (m d : Nat) (w : World) (ht : Pr.Tab w) (hx : RowG w a X) (hy : RowG w b Y) (hn : n = X.length) (hm : m = Y.length) (hc : n ≤ c) (hd : m ≤ d) (hl : (X.length + Y.length) * 32 ≤ 140737488355328) (h1 : regsB X = true) (h2 : regsB Y = true) :
    Calls Tryd.prog 20 #[.slice a n c, .slice b m d] w (MergeYes w (mergeG X Y)) := by
  have C1 := Lib.hid (fun W (hb : Below w.heap.size w W) => rcheck_any a X n c W (ht.below hb ht.lt) (hx.below hb (Nat.le_refl _)) hn (by omega))
  have C2 := Lib.hid (fun W (hb : Below w.heap.size w W) => rcheck_any b Y m d W (ht.below hb ht.lt) (hy.below hb (Nat.le_refl _)) hm (by omega))
  have C3 := Lib.hid (fun W (hb : Below w.heap.size w W) => merged_any a X n c b Y m d W (hx.below hb (Nat.le_refl _)) (hy.below hb (Nat.le_refl _)) hn hm hc hd hl)
  rw [h1] at C1
  rw [h2] at C2
  clear ht hx hy hn hm hc hd hl h1 h2
  go_enter Tryd.func20, Tryd.ntmps20
  go_wp2_with fail
  refine (C1.out _ (Below.refl _ _)).mono ?_
  rintro e w1 ⟨rfl, hb⟩
  have HB1 := Lib.hid hb
  clear hb
  simp only [St.errB]
  go_wp2_with fail
  refine (C2.out _ HB1.out).mono ?_
  rintro e w2 ⟨rfl, hb⟩
  have HB2 := Lib.hid (HB1.out.trans (hb.mono HB1.out.size))
  clear hb
  simp only [St.errB]
  go_wp2_with fail
  refine (C3.out _ HB2.out).mono ?_
  rintro e w3 ⟨v, rfl, ho, hb⟩
  have HB3 := Lib.hid (HB2.out.trans (hb.mono HB2.out.size))
  have HO := Lib.hid (ho.mono HB2.out.size)
  clear hb ho
  go_wp2
  go_ret2
  exact ⟨_, rfl, HO.out, HB3.out⟩
set_option maxHeartbeats 1000000 in
theorem merge_no (a : Option Addr) (X : List RgD) (n c : Nat) (b : Option Addr) (Y : List RgD) (m d : Nat) (w : World) (ht : Pr.Tab w) (hx : RowG w a X) (hy : RowG w b Y) (hn : n = X.length) (hm : m = Y.length) (hl : (X.length + Y.length) * 32 ≤ 140737488355328) (h : (regsB X && regsB Y) = false) :
    Calls Tryd.prog 20 #[.slice a n c, .slice b m d] w (MergeNo w) := by
  have C1 := Lib.hid (fun W (hb : Below w.heap.size w W) => rcheck_any a X n c W (ht.below hb ht.lt) (hx.below hb (Nat.le_refl _)) hn (by omega))
  have C2 := Lib.hid (fun W (hb : Below w.heap.size w W) => rcheck_any b Y m d W (ht.below hb ht.lt) (hy.below hb (Nat.le_refl _)) hm (by omega))
  cases h1 : regsB X
  · rw [h1] at C1
    clear ht hx hy hn hm hl h h1 C2
    go_enter Tryd.func20, Tryd.ntmps20
    go_wp2_with fail
    refine (C1.out _ (Below.refl _ _)).mono ?_
    rintro e w1 ⟨rfl, hb⟩
    have HB1 := Lib.hid hb
    clear hb
    simp only [St.errB]
    go_wp2
    go_ret2
    exact ⟨rfl, HB1.out⟩
  · rw [h1, Bool.true_and] at h
    rw [h1] at C1
    rw [h] at C2
    clear ht hx hy hn hm hl h h1
    go_enter Tryd.func20, Tryd.ntmps20
    go_wp2_with fail
    refine (C1.out _ (Below.refl _ _)).mono ?_
    rintro e w1 ⟨rfl, hb⟩
    have HB1 := Lib.hid hb
    clear hb
    simp only [St.errB]
    go_wp2_with fail
    refine (C2.out _ HB1.out).mono ?_
    rintro e w2 ⟨rfl, hb⟩
    have HB2 := Lib.hid (HB1.out.trans (hb.mono HB1.out.size))
    clear hb
    simp only [St.errB]
    go_wp2
    go_ret2
    exact ⟨rfl, HB2.out⟩
theorem regs_one (x : RgD) : regsB [x] = regB x := by
  cases h : regB x
  · exact regs_no (k := 0) (by simp) (okG_bad rfl h)
  · exact regs_of (asc_one x) (by intro y hy; simp only [List.mem_singleton] at hy; rw [hy]; exact h)
theorem reg_build (p v t r : Int) (w : World) : (Instr.build 51 #[(0, .int .i64 p), (1, .int .i64 v), (2, .agg #[.int .i64 t, .int .i64 r])]).run Tryd.prog w = .ok (valG ⟨p, v, t, r⟩) w := run_build w 51 _ _ (by kernel_rfl)
set_option maxHeartbeats 1000000 in
theorem set_yes (a : Option Addr) (X : List RgD) (n c : Nat) (x : RgD) (w : World) (ht : Pr.Tab w) (hx : RowG w a X) (hn : n = X.length) (hc : n ≤ c) (hl : (X.length + 1) * 32 ≤ 140737488355328) (h : (regsB X && regB x) = true) :
    Calls Tryd.prog 15 #[.slice a n c, .int .i64 x.p, .int .i64 x.v, .agg #[.int .i64 x.t, .int .i64 x.r]] w (MergeYes w (mergeG X [x])) := by
  have b1 := bel1 w (.cells #[.int .i64 x.t, .int .i64 x.r] 29)
  have b2 := bel1 (w.alloc (.cells #[.int .i64 x.t, .int .i64 x.r] 29)) (objG x)
  have HB := Lib.hid (b1.trans (b2.mono b1.size))
  have hone := oneG_row (w.alloc (.cells #[.int .i64 x.t, .int .i64 x.r] 29)) x
  have C := Lib.hid (merge_yes a X n c _ [x] 1 1 _ (ht.below HB.out ht.lt) (hx.below HB.out (Nat.le_refl _)) hone hn rfl hc (Nat.le_refl _) (by simpa using hl) (by rw [Bool.and_eq_true] at h; exact h.1) (by rw [Bool.and_eq_true] at h; rw [regs_one]; exact h.2))
  rw [World.size_alloc] at C
  have hbd := reg_build x.p x.v x.t x.r
  clear ht hx hn hc hl h b1 b2 hone
  go_enter Tryd.func15, Tryd.ntmps15
  go_wp2_with fail
  refine (C.out).mono ?_
  rintro e w1 ⟨v, rfl, ho, hb⟩
  have HB1 := Lib.hid (HB.out.trans (hb.mono HB.out.size))
  have HO := Lib.hid (ho.mono HB.out.size)
  clear hb ho
  go_wp2
  go_ret2
  exact ⟨_, rfl, HO.out, HB1.out⟩
set_option maxHeartbeats 1000000 in
theorem set_no (a : Option Addr) (X : List RgD) (n c : Nat) (x : RgD) (w : World) (ht : Pr.Tab w) (hx : RowG w a X) (hn : n = X.length) (hl : (X.length + 1) * 32 ≤ 140737488355328) (h : (regsB X && regB x) = false) :
    Calls Tryd.prog 15 #[.slice a n c, .int .i64 x.p, .int .i64 x.v, .agg #[.int .i64 x.t, .int .i64 x.r]] w (MergeNo w) := by
  have b1 := bel1 w (.cells #[.int .i64 x.t, .int .i64 x.r] 29)
  have b2 := bel1 (w.alloc (.cells #[.int .i64 x.t, .int .i64 x.r] 29)) (objG x)
  have HB := Lib.hid (b1.trans (b2.mono b1.size))
  have hone := oneG_row (w.alloc (.cells #[.int .i64 x.t, .int .i64 x.r] 29)) x
  have C := Lib.hid (merge_no a X n c _ [x] 1 1 _ (ht.below HB.out ht.lt) (hx.below HB.out (Nat.le_refl _)) hone hn rfl (by simpa using hl) (by rw [regs_one]; exact h))
  rw [World.size_alloc] at C
  have hbd := reg_build x.p x.v x.t x.r
  clear ht hx hn hl h b1 b2 hone
  go_enter Tryd.func15, Tryd.ntmps15
  go_wp2_with fail
  refine (C.out).mono ?_
  rintro e w1 ⟨rfl, hb⟩
  have HB1 := Lib.hid (HB.out.trans (hb.mono HB.out.size))
  clear hb
  go_wp2
  go_ret2
  exact ⟨rfl, HB1.out⟩
/-- where a property would stand -/
def PosG (xs : List RgD) (q : Int) (p : Nat) : Prop := p ≤ xs.length ∧ (∀ k x, k < p → xs[k]? = some x → x.p < q) ∧ (∀ k x, p ≤ k → xs[k]? = some x → ¬ x.p < q)
def hereG (xs : List RgD) (q : Int) (p : Nat) : Bool := match xs[p]? with | some y => y.p == q | none => false
theorem cmpI_lt {a b : Int} : St.cmpI a b < 0 ↔ a < b := by unfold St.cmpI; split <;> (try split) <;> constructor <;> intro h <;> omega
theorem cmpI_eq {a b : Int} : (St.cmpI a b == 0) = (a == b) := by
  unfold St.cmpI
  by_cases h1 : a < b
  · rw [if_pos h1]; have : a ≠ b := by omega
    simp [this]
  · rw [if_neg h1]
    by_cases h2 : b < a
    · rw [if_pos h2]; have : a ≠ b := by omega
      simp [this]
    · rw [if_neg h2]; have : a = b := by omega
      simp [this]
theorem here_get {xs : List RgD} {q : Int} {p : Nat} (ha : Asc xs) (hp : PosG xs q p) : getG xs q = if hereG xs q p then xs[p]? else none := by
  unfold hereG
  cases hx : xs[p]? with
  | none =>
    rw [if_neg (by simp)]
    unfold getG
    rw [List.find?_eq_none]
    intro y hy
    obtain ⟨k, hk⟩ := List.getElem?_of_mem hy
    have hkl := (List.getElem?_eq_some_iff.1 hk).1
    have hpl := List.getElem?_eq_none_iff.1 hx
    have := hp.2.1 k y (by omega) hk
    simp; omega
  | some x =>
    by_cases hq : x.p = q
    · rw [if_pos (by simpa using hq)]
      unfold getG
      have hlt := (List.getElem?_eq_some_iff.1 hx).1
      rw [List.find?_eq_some_iff_getElem]
      refine ⟨by simpa using hq, p, hlt, (List.getElem?_eq_some_iff.1 hx).2, fun j hj => ?_⟩
      have := hp.2.1 j _ hj (List.getElem?_eq_getElem (by omega))
      simp; omega
    · rw [if_neg (by simpa using hq)]
      unfold getG
      rw [List.find?_eq_none]
      intro y hy
      obtain ⟨k, hk⟩ := List.getElem?_of_mem hy
      have hne : ¬ y.p = q := by
        intro e
        rcases Nat.lt_trichotomy k p with h | h | h
        · have := hp.2.1 k y h hk; omega
        · subst h; rw [hx] at hk; injection hk with hk; subst hk; exact hq e
        · obtain ⟨h1, e1⟩ := List.getElem?_eq_some_iff.1 hx
          obtain ⟨h2, e2⟩ := List.getElem?_eq_some_iff.1 hk
          have h3 := List.pairwise_iff_getElem.1 ha p k h1 h2 h
          rw [e1, e2] at h3
          have h4 := hp.2.2 p x (Nat.le_refl _) hx
          omega
      simpa using hne
def SearchPost (xs : List RgD) (q : Int) (w : World) (e : Ending) (w' : World) : Prop := ∃ p : Nat, e = .returned (.tuple #[.int .i64 (p : Int), .bool (hereG xs q p)]) ∧ PosG xs q p ∧ Below w.heap.size w w'
set_option maxHeartbeats 8000000 in
set_option maxRecDepth 100000 in
theorem search_any (a : Option Addr) (xs : List RgD) (n c : Nat) (q : Int) (w : World) (hr : RowG w a xs) (hn : n = xs.length) (hl : n ≤ 4398046511104) (hsr : Asc xs) :
    Calls Tryd.prog 27 #[.slice a n c, .int .i64 q, .func (.func 28) #[] #[]] w (SearchPost xs q w) := by
  have mixed : Tryd.prog.follows .mixedOrders = true := by kernel_rfl
  have HA := Lib.hid hr
  have HN := Lib.hid hn
  have HS : Hid (∀ (i j : Nat) (x y : RgD), i < j → xs[i]? = some x → xs[j]? = some y → x.p < y.p) := fun i j x y hij hx hy => by
    obtain ⟨h1, rfl⟩ := List.getElem?_eq_some_iff.1 hx
    obtain ⟨h2, rfl⟩ := List.getElem?_eq_some_iff.1 hy
    exact List.pairwise_iff_getElem.1 hsr i j h1 h2 hij
  clear hr hn hsr
  go_enter Tryd.func27, Tryd.ntmps27
  go_wp2
  go_loopg [9, 10, 11] n (fun kx s9 s10 _ wr => ∃ lo hi : Nat, s9 = .int .i64 (lo : Int) ∧ s10 = .int .i64 (hi : Int) ∧ lo ≤ hi ∧ hi ≤ n ∧ hi - lo ≤ kx ∧ Hid ((∀ k x, k < lo → xs[k]? = some x → x.p < q) ∧ (∀ k x, hi ≤ k → xs[k]? = some x → ¬ x.p < q)) ∧ Hid (Below w.heap.size w wr))
  case atStart => exact ⟨0, n, rfl, rfl, Nat.zero_le _, Nat.le_refl _, by omega, ⟨fun k x hk => absurd hk (Nat.not_lt_zero _), fun k x hk hx => by have := (List.getElem?_eq_some_iff.1 hx).1; have := HN.out; omega⟩, Below.refl _ _⟩
  case round =>
    obtain ⟨lo, hi, rfl, rfl, hlh, hin, hg, HI, HB⟩ := hrel
    by_cases hlt : lo < hi
    · have hltz : (lo : Int) < (hi : Int) := by omega
      obtain ⟨m, hm⟩ : ∃ m, (lo + hi) / 2 = m := ⟨_, rfl⟩
      have hmz : ((lo : Int) + (hi : Int)) / 2 = (m : Int) := by omega
      have hmn : m < n := by omega
      have hmnz : (m : Int) < (n : Int) := by omega
      obtain ⟨x, hx⟩ : ∃ x, xs[m]? = some x := ⟨_, List.getElem?_eq_getElem (by rw [← HN.out]; exact hmn)⟩
      have HX := Lib.hid hx
      obtain ⟨b, off, rfl, hat⟩ := (HA.out.below HB.out (Nat.le_refl _)) m x hx
      obtain ⟨z, hz⟩ : ∃ z, St.cmpI x.p q = z := ⟨_, rfl⟩
      have HZ := Lib.hid hz
      have C := Lib.hid (fun W => byProp_any x q W)
      rw [hz] at C
      obtain ⟨c0, c1, c2, c3⟩ := hat
      have HM := Lib.hid hm
      clear hx hz hm
      go_wp2_with fail
      refine (C.out _).mono ?_
      rintro e w1 ⟨rfl, hb⟩
      have HB1 := Lib.hid (HB.out.trans (hb.mono HB.out.size))
      clear hb c0 c1 c2 c3 C
      cases hd : decide (z < 0)
      · have hz0 : ¬ z < 0 := of_decide_eq_false hd
        have HI2 : Hid ((∀ k x, k < lo → xs[k]? = some x → x.p < q) ∧ (∀ k x, m ≤ k → xs[k]? = some x → ¬ x.p < q)) := ⟨HI.out.1, fun k y hk hy hyo => by
          have hxq : ¬ x.p < q := fun h => hz0 (by rw [← HZ.out]; exact cmpI_lt.2 h)
          rcases Nat.lt_or_ge m k with h | h
          · have := HS.out m k x y h HX.out hy; omega
          · obtain rfl : k = m := by omega
            rw [HX.out] at hy
            injection hy with hy
            subst hy
            exact hxq hyo⟩
        clear hz0
        go_wp2_with fail
        go_roundg (m - lo)
        case measure => omega
        case rel => exact ⟨lo, m, rfl, rfl, by have := HM.out; omega, by omega, by omega, HI2.out, HB1.out⟩
      · have hz0 : z < 0 := of_decide_eq_true hd
        have HI2 : Hid ((∀ k x, k < m + 1 → xs[k]? = some x → x.p < q) ∧ (∀ k x, hi ≤ k → xs[k]? = some x → ¬ x.p < q)) := ⟨fun k y hk hy => by
          have hxq : x.p < q := cmpI_lt.1 (by rw [HZ.out]; exact hz0)
          rcases Nat.lt_or_ge k m with h | h
          · have := HS.out k m y x h hy HX.out; omega
          · obtain rfl : k = m := by omega
            rw [HX.out] at hy
            injection hy with hy
            subst hy
            exact hxq, fun k y hk hy => by have := HI.out.2 k y hk hy; omega⟩
        clear hz0
        go_wp2_with fail
        go_roundg (hi - (m + 1))
        case measure => omega
        case rel => exact ⟨m + 1, hi, by go_num, rfl, by omega, by omega, by omega, HI2.out, HB1.out⟩
    · obtain rfl : hi = lo := by omega
      have hltz : ¬ (hi : Int) < (hi : Int) := by omega
      have HP : Hid (PosG xs q hi) := ⟨by have := HN.out; omega, HI.out.1, fun k y hk hy => by have := HI.out.2 k y hk hy; omega⟩
      by_cases hin2 : hi < n
      · have hinz : (hi : Int) < (n : Int) := by omega
        obtain ⟨x, hx⟩ : ∃ x, xs[hi]? = some x := ⟨_, List.getElem?_eq_getElem (by rw [← HN.out]; exact hin2)⟩
        obtain ⟨b, off, rfl, hat⟩ := (HA.out.below HB.out (Nat.le_refl _)) hi x hx
        obtain ⟨z, hz⟩ : ∃ z, St.cmpI x.p q = z := ⟨_, rfl⟩
        have HH : Hid (hereG xs q hi = (z == 0)) := by show _ = _; unfold hereG; rw [hx, ← hz, cmpI_eq]
        have C := Lib.hid (fun W => byProp_any x q W)
        rw [hz] at C
        obtain ⟨c0, c1, c2, c3⟩ := hat
        obtain ⟨e0, he0⟩ : ∃ e0, (z == 0) = e0 := ⟨_, rfl⟩
        rw [he0] at HH
        clear hx hz
        go_wp2_with fail
        refine (C.out _).mono ?_
        rintro e w1 ⟨rfl, hb⟩
        have HB1 := Lib.hid (HB.out.trans (hb.mono HB.out.size))
        clear hb c0 c1 c2 c3 C
        go_wp2
        go_ret2
        exact ⟨hi, by rw [HH.out]; rfl, HP.out, HB1.out⟩
      · obtain rfl : hi = n := by omega
        have HH : Hid (hereG xs q hi = false) := by show _ = _; unfold hereG; rw [List.getElem?_eq_none (by have := HN.out; omega)]
        go_wp2
        go_ret2
        exact ⟨hi, by rw [HH.out]; rfl, HP.out, HB.out⟩
end Go.Proofs.YtjpjjckokonkpaaDoor
