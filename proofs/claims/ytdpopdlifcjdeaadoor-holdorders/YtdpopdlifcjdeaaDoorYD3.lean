/- Joined: D3. -/
import Derived.Test.YtdpopdlifcjdeaaDoorYD2
import Derived.Lib.QuietBelow
import Derived.Shelf.Abstract

/- Hold: same; the closures; the first one that ..; known. -/
namespace Go.Proofs.YtdpopdlifcjdeaaDoor
open Go.RowKit Go.Lib
set_option linter.unusedVariables false

set_option maxHeartbeats 1000000 in
theorem refSame_any (x : OpD) (da : Option Addr) (dn dc : Nat) (y : OpD) (da' : Option Addr) (dn' dc' : Nat) (w : World) :
    Calls Tryd.prog 37 #[valO x da dn dc, valO y da' dn' dc'] w (BoolPost w (sameB x y)) := by
  have HB := Lib.hid (St.below2 w (objO x da dn dc) (objO y da' dn' dc'))
  obtain ⟨b1, h1⟩ : ∃ b, (x.1.r == y.1.r) = b := ⟨_, rfl⟩
  obtain ⟨b2, h2⟩ : ∃ b, (x.2 == y.2) = b := ⟨_, rfl⟩
  rw [show sameB x y = (b1 && b2) by rw [← h1, ← h2]; rfl]
  cases b1
  · go_enter Tryd.func37, Tryd.ntmps37
    go_wp2
    go_ret
    exact ⟨rfl, HB.out⟩
  · go_enter Tryd.func37, Tryd.ntmps37
    go_wp2
    go_ret
    exact ⟨by rw [Bool.true_and]; rfl, HB.out⟩

set_option maxHeartbeats 1000000 in
theorem known1_any (x : OpD) (da : Option Addr) (dn dc : Nat) (g : Nat) (y : OpD) (da' : Option Addr) (dn' dc' : Nat) (w : World) (hy : OpX w g 0 y da' dn' dc') :
    Calls Tryd.prog 55 #[valO x da dn dc, .pointer (some ⟨g, 0, none⟩)] w (BoolPost w (sameB x y)) := by
  have HB := Lib.hid (box_bel w (objO x da dn dc))
  obtain ⟨b1, h1⟩ : ∃ b, (x.1.r == y.1.r) = b := ⟨_, rfl⟩
  obtain ⟨b2, h2⟩ : ∃ b, (x.2 == y.2) = b := ⟨_, rfl⟩
  rw [show sameB x y = (b1 && b2) by rw [← h1, ← h2]; rfl]
  obtain ⟨c0, c1, c2, c3, c4, c5, c6, c7, c8, c9, c10, c11⟩ := hy.next (box_bel w (objO x da dn dc))
  have hne : g ≠ w.heap.size := Nat.ne_of_lt hy.lt
  clear hy
  cases b1
  · go_enter Tryd.func55, Tryd.ntmps55
    go_wp2
    go_ret
    exact ⟨rfl, HB.out⟩
  · go_enter Tryd.func55, Tryd.ntmps55
    go_wp2
    go_ret
    exact ⟨by rw [Bool.true_and]; rfl, HB.out⟩

set_option maxHeartbeats 1000000 in
theorem free1_any (va : Option Addr) (v : List Int) (vn vc : Nat) (x : OpD) (da : Option Addr) (dn dc : Nat) (g : Nat) (w : World) (ht : Pr.Tab w) (hg : w.cell? ⟨g, 0, none⟩ = some (.slice va vn vc)) (hv : RowK .i64 w va v) (hvn : vn = v.length) (hr : RowK .i64 w da x.1.ds) (hn : dn = x.1.ds.length) (hf : fitsB v x = true) :
    Calls Tryd.prog 64 #[valO x da dn dc, .pointer (some ⟨g, 0, none⟩)] w (BoolPost w (readyB v x)) := by
  have HB := Lib.hid (box_bel w (objO x da dn dc))
  have C := Lib.hid (ready_yes va v vn vc x da dn dc _ (ht.alloc (objO x da dn dc)) (hv.alloc (objO x da dn dc)) hvn (hr.alloc (objO x da dn dc)) hn hf)
  have hlt := World.block_lt_of_cell? _ _ hg
  have hg2 := (HB.out.cell (p := ⟨g, 0, none⟩) hlt).trans hg
  have hne : g ≠ w.heap.size := Nat.ne_of_lt hlt
  obtain ⟨c0, c1, c2, c3, c4, c5, c6, c7, c8, c9, c10, c11⟩ := OpX.new w x da dn dc
  generalize readyB v x = rb at *
  clear ht hg hv hvn hr hn hf hlt
  go_enter Tryd.func64, Tryd.ntmps64
  go_wp2_with fail
  refine (C.out).mono ?_
  rintro e w1 ⟨rfl, hb1⟩
  have HB1 := Lib.hid (HB.out.trans (hb1.mono HB.out.size))
  clear hb1 C c0 c1 c2 c3 c4 c5 c6 c7 c8 c9 c10 c11
  go_wp2
  go_ret
  exact ⟨rfl, HB1.out⟩

/-- where the first one is that meets p -/
def IdxIs (hs : List OpD) (p : OpD → Bool) (z : Int) : Prop := (z = -1 ∧ hs.find? p = none) ∨ ∃ (k : Nat) (x : OpD), z = k ∧ hs[k]? = some x ∧ hs.find? p = some x
def IdxPost (w : World) (hs : List OpD) (p : OpD → Bool) (e : Ending) (w' : World) : Prop := ∃ z, e = .returned (.int .i64 z) ∧ IdxIs hs p z ∧ Below w.heap.size w w'
theorem drop_at {hs : List OpD} {k : Nat} {x : OpD} (h : hs[k]? = some x) : hs.drop k = x :: hs.drop (k + 1) := by
  obtain ⟨hk, rfl⟩ := List.getElem?_eq_some_iff.1 h
  exact List.drop_eq_getElem_cons hk

set_option maxHeartbeats 2000000 in
theorem idx_any (g : Nat) (lb : Value) (p : OpD → Bool) (eg : ∀ args w, (callFunc g args).run Tryd.prog w = .ok (.enter g args) w) (ha : Option Addr) (hs : List OpD) (n c : Nat) (w : World) (hr : RowO w ha hs) (hn : n = hs.length) (hl : hs.length * 120 ≤ 140737488355328)
    (hp : ∀ W x da dc, x ∈ hs → Below w.heap.size w W → RowK .i64 W da x.1.ds → x.1.ds.length ≤ 17592186044416 → Calls Tryd.prog g #[valO x da x.1.ds.length dc, lb] W (BoolPost W (p x))) :
    Calls Tryd.prog 63 #[.slice ha n c, .func (.func g) #[] #[lb]] w (IdxPost w hs p) := by
  have HA := Lib.hid hr
  have HN := Lib.hid hn
  have HP := Lib.hid hp
  have hnl : n * 120 ≤ 140737488355328 := by omega
  clear hr hn hl hp
  go_enter Tryd.func63, Tryd.ntmps63
  go_wp2
  go_loopg [5, 8] n (fun gg _ s8 wr => ∃ k : Nat, s8 = .int .i64 k ∧ k ≤ n ∧ n - k ≤ gg ∧ Hid (hs.find? p = (hs.drop k).find? p) ∧ Hid (Below w.heap.size w wr))
  case atStart => exact ⟨0, rfl, Nat.zero_le _, by omega, by show _ = _; rw [List.drop_zero], Below.refl _ _⟩
  case round =>
    obtain ⟨k, rfl, hk, hg, HF, HI⟩ := hrel
    by_cases hin : k < n
    · have hinz : (k : Int) < (n : Int) := by omega
      obtain ⟨x, hx⟩ : ∃ x, hs[k]? = some x := ⟨_, List.getElem?_eq_getElem (by rw [← HN.out]; exact hin)⟩
      obtain ⟨b, off, rfl, da, dc, hat, hrow, hdm⟩ := (HA.out.below HI.out) k x hx
      have hF := HF.out
      rw [drop_at hx, List.find?_cons] at hF
      have HC := Lib.hid (HP.out wr x da dc (List.mem_of_getElem? hx) HI.out hrow hdm)
      have HX := Lib.hid hx
      obtain ⟨c0, c1, c2, c3, c4, c5, c6, c7, c8, c9, c10, c11⟩ := hat
      generalize hdn : x.1.ds.length = dn at c3 HC
      cases hpx : p x
      · rw [hpx] at hF HC
        have HF2 := Lib.hid hF
        clear hx hrow hdm hF hpx hdn
        go_wp2_with (go_at_fn g; refine (HC.out).mono ?_; rintro e w1 ⟨rfl, hb1⟩)
        have HB1 := Lib.hid (HI.out.trans (hb1.mono HI.out.size))
        clear hb1 c0 c1 c2 c3 c4 c5 c6 c7 c8 c9 c10 c11
        go_roundg (n - (k + 1))
        case measure => omega
        case rel => exact ⟨k + 1, by go_num, by omega, by omega, HF2.out, HB1.out⟩
      · rw [hpx] at hF HC
        have HF2 := Lib.hid hF
        clear hx hrow hdm hF hpx hdn
        go_wp2_with (go_at_fn g; refine (HC.out).mono ?_; rintro e w1 ⟨rfl, hb1⟩)
        have HB1 := Lib.hid (HI.out.trans (hb1.mono HI.out.size))
        clear hb1 c0 c1 c2 c3 c4 c5 c6 c7 c8 c9 c10 c11
        go_ret
        exact ⟨_, rfl, .inr ⟨k, x, rfl, HX.out, HF2.out⟩, HB1.out⟩
    · have hinz : ¬ (k : Int) < (n : Int) := by omega
      have HF2 : Hid (hs.find? p = none) := by
        have h := HF.out
        rw [List.drop_eq_nil_of_le (by have := HN.out; omega)] at h
        exact h
      go_wp2
      go_ret
      exact ⟨_, rfl, .inl ⟨rfl, HF2.out⟩, HI.out⟩

theorem any_find (hs : List OpD) (p : OpD → Bool) (z : Int) (h : IdxIs hs p z) : hs.any p = decide (0 ≤ z) := by
  rcases h with ⟨rfl, h⟩ | ⟨k, x, rfl, -, h⟩
  · rw [List.find?_eq_none] at h
    rw [show decide ((0 : Int) ≤ -1) = false by decide, List.any_eq_false]
    exact h
  · rw [show decide ((0 : Int) ≤ (k : Int)) = true from decide_eq_true (by omega), List.any_eq_true]
    exact ⟨x, List.mem_of_find?_eq_some h, List.find?_some h⟩
set_option maxHeartbeats 1000000 in
theorem contains_any (g : Nat) (lb : Value) (p : OpD → Bool) (eg : ∀ args w, (callFunc g args).run Tryd.prog w = .ok (.enter g args) w) (ha : Option Addr) (hs : List OpD) (n c : Nat) (w : World) (hr : RowO w ha hs) (hn : n = hs.length) (hl : hs.length * 120 ≤ 140737488355328)
    (hp : ∀ W x da dc, x ∈ hs → Below w.heap.size w W → RowK .i64 W da x.1.ds → x.1.ds.length ≤ 17592186044416 → Calls Tryd.prog g #[valO x da x.1.ds.length dc, lb] W (BoolPost W (p x))) :
    Calls Tryd.prog 54 #[.slice ha n c, .func (.func g) #[] #[lb]] w (BoolPost w (hs.any p)) := by
  have C := Lib.hid (idx_any g lb p eg ha hs n c w hr hn hl hp)
  clear hr hn hl hp
  go_enter Tryd.func54, Tryd.ntmps54
  go_wp2_with fail
  refine (C.out).mono ?_
  rintro e w1 ⟨z, rfl, hz, hb1⟩
  have HZ := Lib.hid hz
  have HB1 := Lib.hid hb1
  clear hb1 hz C
  go_wp2
  go_ret
  exact ⟨by rw [any_find hs p z HZ.out]; rfl, HB1.out⟩

end Go.Proofs.YtdpopdlifcjdeaaDoor
