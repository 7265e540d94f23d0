/- Joined: D12. -/
import Derived.Test.YtdpopdlifcjdeaaDoorYD11

/- Hold: Take. -/
namespace Go.Proofs.YtdpopdlifcjdeaaDoor
open Go.RowKit Go.Lib
set_option linter.unusedVariables false

/-- what Take tells: all of it its own; what is held stands above what was taken -/
def TkO (w w' : World) (wv lv tv : Value) (a : List Int) (b d : List OpD) : Prop := ∃ (B : Nat) (dl1 dl2 : List Value), OwnK .i64 3 w' w.heap.size wv a ∧ OwnO w' B lv b dl1 ∧ DepsO w' B b dl1 ∧ OwnO w' w.heap.size tv d dl2 ∧ DepsO w' w.heap.size d dl2 ∧
  (∀ x ∈ dl2, x.ownBlock = none ∨ x.ownBlock ≠ wv.ownBlock) ∧ (∀ g, wv.ownBlock = some g → g < B) ∧ (∀ g, tv.ownBlock = some g → g < B) ∧ (∀ x ∈ dl2, ∀ g, x.ownBlock = some g → g < B) ∧ w.heap.size ≤ B ∧ Below w.heap.size w w'
def HTake (a : List Int) (b d : List OpD) (w : World) (e : Ending) (w' : World) : Prop := ∃ wv lv tv, e = .returned (.tuple #[wv, lv, tv, .int .i64 0]) ∧ TkO w w' wv lv tv a b d
def TakeErr (z : Int) (w : World) (e : Ending) (w' : World) : Prop := e = .returned (.tuple #[.slice none 0 0, .slice none 0 0, .slice none 0 0, .int .i64 z]) ∧ Below w.heap.size w w'
theorem held_new {v : List Int} {hs : List OpD} (h : heldB v hs = true) : aboveL v hs = hs := by
  unfold aboveL
  rw [List.filter_eq_self]
  intro x hx
  obtain ⟨k, hk⟩ := List.getElem?_of_mem hx
  have h1 := (held_iff.1 h).2.2 k (List.getElem?_eq_some_iff.1 hk).1
  rw [heldAt_is hk] at h1
  simp only [Bool.and_eq_true, Bool.not_eq_true', knownB, Bool.or_eq_false_iff, decide_eq_false_iff_not] at h1
  unfold newB
  rw [decide_eq_true_eq]
  omega
theorem held_sizes {v : List Int} {hs : List OpD} (h : heldB v hs = true) : ∀ x ∈ hs, x.ok = true ∧ x.1.ds.length = v.length := fun x hx => (fits_iff.1 (held_fits h hx)).2
theorem deps_lt {w : World} {base : Nat} {os : List OpD} {dl : List Value} (h : DepsO w base os dl) (hl : dl.length = os.length) {x : Value} (hx : x ∈ dl) {g : Nat} (hg : x.ownBlock = some g) : g < w.heap.size := by
  obtain ⟨i, hi⟩ := List.getElem?_of_mem hx
  have hi' := (List.getElem?_eq_some_iff.1 hi).1
  obtain ⟨y, hy⟩ : ∃ y, os[i]? = some y := ⟨_, List.getElem?_eq_getElem (by omega)⟩
  exact ((h.own i y x hy hi).1.lt hg).2
set_option maxHeartbeats 4000000 in
set_option maxRecDepth 100000 in
theorem take_err1 (va : Option Addr) (v : List Int) (vn vc : Nat) (ha : Option Addr) (hs : List OpD) (n c : Nat) (o : OpD) (oa : Option Addr) (oc : Nat) (w : World) (ht : Pr.Tab w) (hv : RowK .i64 w va v) (hvn : vn = v.length) (hvl : v.length ≤ 140737488355328) (hr : RowO w ha hs) (hn : n = hs.length) (hl : hs.length * 120 ≤ 140737488355328) (hnc : n ≤ c) (hro : RowK .i64 w oa o.1.ds) (hol : o.1.ds.length ≤ 17592186044416) (hh : heldB v hs = false) :
    Calls Tryd.prog 18 #[.slice va vn vc, .slice ha n c, valO o oa o.1.ds.length oc] w (TakeErr 1 w) := by
  have mixed : Tryd.prog.follows .mixedOrders = true := by kernel_rfl
  have HB0 := Lib.hid (box_bel w (objO o oa o.1.ds.length oc))
  have HA0 := Lib.hid (OpX.new w o oa o.1.ds.length oc)
  have HV := Lib.hid (fun W (hb : Below w.heap.size w W) => hv.below hb (Nat.le_refl _))
  have HT := Lib.hid (fun W (hb : Below w.heap.size w W) => ht.below hb ht.lt)
  have HR := Lib.hid (fun W (hb : Below w.heap.size w W) => hr.below hb)
  have HRO := Lib.hid (fun W (hb : Below w.heap.size w W) => hro.below hb (Nat.le_refl _))
  have C1 := Lib.hid (hcheck_any va v vn vc ha hs n c (w.alloc (objO o oa o.1.ds.length oc)) (HT.out _ HB0.out) (HV.out _ HB0.out) hvn hvl (HR.out _ HB0.out) hn hl hnc)
  rw [hh] at C1
  clear hv ht hr hro hvl hl hol hvn hn hh
  go_enter Tryd.func18, Tryd.ntmps18
  go_wp2_with fail
  refine (C1.out).mono ?_
  rintro e w1 ⟨rfl, hb⟩
  have HA1 := Lib.hid (HA0.out.next hb)
  have HB1 := Lib.hid (HB0.out.trans (hb.mono HB0.out.size))
  clear hb
  obtain ⟨c0, c1, c2, c3, c4, c5, c6, c7, c8, c9, c10, c11⟩ := HA1.out
  go_wp2
  refine bodyPost_ret (Pr.results_tmp4 rfl _ _ _) rfl ?_
  exact ⟨rfl, HB1.out⟩
set_option maxHeartbeats 4000000 in
set_option maxRecDepth 100000 in
theorem take_err2 (va : Option Addr) (v : List Int) (vn vc : Nat) (ha : Option Addr) (hs : List OpD) (n c : Nat) (o : OpD) (oa : Option Addr) (oc : Nat) (w : World) (ht : Pr.Tab w) (hv : RowK .i64 w va v) (hvn : vn = v.length) (hvl : v.length ≤ 140737488355328) (hr : RowO w ha hs) (hn : n = hs.length) (hl : hs.length * 120 ≤ 140737488355328) (hnc : n ≤ c) (hro : RowK .i64 w oa o.1.ds) (hol : o.1.ds.length ≤ 17592186044416) (hh : heldB v hs = true) (hf : fitsB v o = false) :
    Calls Tryd.prog 18 #[.slice va vn vc, .slice ha n c, valO o oa o.1.ds.length oc] w (TakeErr 1 w) := by
  have mixed : Tryd.prog.follows .mixedOrders = true := by kernel_rfl
  have HB0 := Lib.hid (box_bel w (objO o oa o.1.ds.length oc))
  have HA0 := Lib.hid (OpX.new w o oa o.1.ds.length oc)
  have HV := Lib.hid (fun W (hb : Below w.heap.size w W) => hv.below hb (Nat.le_refl _))
  have HT := Lib.hid (fun W (hb : Below w.heap.size w W) => ht.below hb ht.lt)
  have HR := Lib.hid (fun W (hb : Below w.heap.size w W) => hr.below hb)
  have HRO := Lib.hid (fun W (hb : Below w.heap.size w W) => hro.below hb (Nat.le_refl _))
  have C1 := Lib.hid (hcheck_any va v vn vc ha hs n c (w.alloc (objO o oa o.1.ds.length oc)) (HT.out _ HB0.out) (HV.out _ HB0.out) hvn hvl (HR.out _ HB0.out) hn hl hnc)
  rw [hh] at C1
  have C2 := Lib.hid (fun W (hb : Below w.heap.size w W) => ready_no va v vn vc o oa o.1.ds.length oc W (HT.out W hb) (HV.out W hb) hvn hvl (HRO.out W hb) rfl (by omega) hf)
  clear hv ht hr hro hvl hl hol hvn hn hh hf
  go_enter Tryd.func18, Tryd.ntmps18
  go_wp2_with fail
  refine (C1.out).mono ?_
  rintro e w1 ⟨rfl, hb⟩
  have HA1 := Lib.hid (HA0.out.next hb)
  have HB1 := Lib.hid (HB0.out.trans (hb.mono HB0.out.size))
  clear hb
  obtain ⟨c0, c1, c2, c3, c4, c5, c6, c7, c8, c9, c10, c11⟩ := HA1.out
  go_wp2_with fail
  refine (C2.out _ HB1.out).mono ?_
  rintro e w2 ⟨rfl, hb⟩
  have HA2 := Lib.hid (HA1.out.next hb)
  have HB2 := Lib.hid (HB1.out.trans (hb.mono HB1.out.size))
  clear hb c0 c1 c2 c3 c4 c5 c6 c7 c8 c9 c10 c11
  obtain ⟨c0, c1, c2, c3, c4, c5, c6, c7, c8, c9, c10, c11⟩ := HA2.out
  go_wp2
  refine bodyPost_ret (Pr.results_tmp4 rfl _ _ _) rfl ?_
  exact ⟨rfl, HB2.out⟩
set_option maxHeartbeats 4000000 in
set_option maxRecDepth 100000 in
theorem take_known (va : Option Addr) (v : List Int) (vn vc : Nat) (ha : Option Addr) (hs : List OpD) (n c : Nat) (o : OpD) (oa : Option Addr) (oc : Nat) (w : World) (ht : Pr.Tab w) (hv : RowK .i64 w va v) (hvn : vn = v.length) (hvl : v.length ≤ 140737488355328) (hr : RowO w ha hs) (hn : n = hs.length) (hl : hs.length * 120 ≤ 140737488355328) (hnc : n ≤ c) (hro : RowK .i64 w oa o.1.ds) (hol : o.1.ds.length ≤ 17592186044416) (hh : heldB v hs = true) (hf : fitsB v o = true) (hk : knownB v hs o = true) :
    Calls Tryd.prog 18 #[.slice va vn vc, .slice ha n c, valO o oa o.1.ds.length oc] w (HTake v hs [] w) := by
  have mixed : Tryd.prog.follows .mixedOrders = true := by kernel_rfl
  have HB0 := Lib.hid (box_bel w (objO o oa o.1.ds.length oc))
  have HA0 := Lib.hid (OpX.new w o oa o.1.ds.length oc)
  have HV := Lib.hid (fun W (hb : Below w.heap.size w W) => hv.below hb (Nat.le_refl _))
  have HT := Lib.hid (fun W (hb : Below w.heap.size w W) => ht.below hb ht.lt)
  have HR := Lib.hid (fun W (hb : Below w.heap.size w W) => hr.below hb)
  have HRO := Lib.hid (fun W (hb : Below w.heap.size w W) => hro.below hb (Nat.le_refl _))
  have C1 := Lib.hid (hcheck_any va v vn vc ha hs n c (w.alloc (objO o oa o.1.ds.length oc)) (HT.out _ HB0.out) (HV.out _ HB0.out) hvn hvl (HR.out _ HB0.out) hn hl hnc)
  rw [hh] at C1
  have C2 := Lib.hid (fun W (hb : Below w.heap.size w W) => ready_yes va v vn vc o oa o.1.ds.length oc W (HT.out W hb) (HV.out W hb) hvn (HRO.out W hb) rfl hf)
  have C3 := Lib.hid (fun W (hb : Below w.heap.size w W) => known_any va v vn vc ha hs n c o oa o.1.ds.length oc W (HV.out W hb) hvn (HR.out W hb) hn hl hf)
  have hvl1 := Hv.vecB_len (fits_iff.1 hf).1
  rw [hk] at C3
  have C4 := Lib.hid (fun W (hb : Below w.heap.size w W) => clone_any va v vn vc W (HV.out W hb) hvn hvl1.1 (by omega))
  have C5 := Lib.hid (fun W (hb : Below w.heap.size w W) => above_any va v vn vc ha hs n c W (HV.out W hb) hvn (HR.out W hb) hn hl (held_sizes hh))
  rw [held_new hh] at C5
  clear hv ht hr hro hvl hl hol hvn hn hh hf hvl1 hk
  generalize readyB v o = rb at *
  go_enter Tryd.func18, Tryd.ntmps18
  go_wp2_with fail
  refine (C1.out).mono ?_
  rintro e w1 ⟨rfl, hb⟩
  have HA1 := Lib.hid (HA0.out.next hb)
  have HB1 := Lib.hid (HB0.out.trans (hb.mono HB0.out.size))
  clear hb
  obtain ⟨c0, c1, c2, c3, c4, c5, c6, c7, c8, c9, c10, c11⟩ := HA1.out
  go_wp2_with fail
  refine (C2.out _ HB1.out).mono ?_
  rintro e w2 ⟨rfl, hb⟩
  have HA2 := Lib.hid (HA1.out.next hb)
  have HB2 := Lib.hid (HB1.out.trans (hb.mono HB1.out.size))
  clear hb c0 c1 c2 c3 c4 c5 c6 c7 c8 c9 c10 c11
  obtain ⟨c0, c1, c2, c3, c4, c5, c6, c7, c8, c9, c10, c11⟩ := HA2.out
  go_wp2_with fail
  refine (C3.out _ HB2.out).mono ?_
  rintro e w3 ⟨rfl, hb⟩
  have HA3 := Lib.hid (HA2.out.next hb)
  have HB3 := Lib.hid (HB2.out.trans (hb.mono HB2.out.size))
  clear hb c0 c1 c2 c3 c4 c5 c6 c7 c8 c9 c10 c11
  obtain ⟨c0, c1, c2, c3, c4, c5, c6, c7, c8, c9, c10, c11⟩ := HA3.out
  go_wp2_with fail
  refine (C4.out _ HB3.out).mono ?_
  rintro e w4 ⟨wv, rfl, ho4, hb4⟩
  have HB4 := Lib.hid (HB3.out.trans (hb4.mono HB3.out.size))
  have HO4 := Lib.hid ho4
  clear ho4 hb4 c0 c1 c2 c3 c4 c5 c6 c7 c8 c9 c10 c11
  go_wp2_with fail
  refine (C5.out _ HB4.out).mono ?_
  rintro e w5 ⟨lv, dl, rfl, ho5, hd5, hb5⟩
  have HB5 := Lib.hid (HB4.out.trans (hb5.mono HB4.out.size))
  have HO5 := Lib.hid ho5
  have HD5 := Lib.hid hd5
  have HW5 := Lib.hid (HO4.out.below hb5)
  clear ho5 hd5 hb5
  go_wp2
  refine bodyPost_ret (Pr.results_tmp4 rfl _ _ _) rfl ?_
  refine ⟨wv, lv, _, rfl, w4.heap.size, dl, [], HW5.out.mono HB3.out.size, HO5.out, HD5.out, OwnO.nil _ _, DepsO.nil _ _, fun x hx => by simp at hx, fun g hg => (HO4.out.lt hg).2, fun g hg => by simp [Value.ownBlock] at hg, fun x hx => by simp at hx, HB4.out.size, HB5.out⟩
theorem freeG_len (hs : List OpD) : ∀ (f : Nat) (v : List Int) (tk : List OpD), (freeG hs f v tk).1.length = v.length
  | 0, v, tk => rfl
  | f + 1, v, tk => by
    rw [freeG]
    split
    · rfl
    · rw [freeG_len hs f]; exact setV_len _ _
theorem ownK_row {w : World} {base gw m cw : Nat} {zs : List Int} (h : OwnK .i64 3 w base (.slice (some ⟨gw, 0, none⟩) m cw) zs) : RowK .i64 w (some ⟨gw, 0, none⟩) zs := by
  obtain ⟨a, cap, e, hr, _⟩ := h.form
  injection e with e1
  rw [e1]
  exact hr
set_option maxHeartbeats 4000000 in
set_option maxRecDepth 100000 in
theorem take_ready (va : Option Addr) (v : List Int) (vn vc : Nat) (ha : Option Addr) (hs : List OpD) (n c : Nat) (o : OpD) (oa : Option Addr) (oc : Nat) (w : World) (ht : Pr.Tab w) (hv : RowK .i64 w va v) (hvn : vn = v.length) (hvl : v.length ≤ 140737488355328) (hr : RowO w ha hs) (hn : n = hs.length) (hl : hs.length * 120 ≤ 140737488355328) (hnc : n ≤ c) (hro : RowK .i64 w oa o.1.ds) (hol : o.1.ds.length ≤ 17592186044416) (hh : heldB v hs = true) (hf : fitsB v o = true) (hk : knownB v hs o = false) (hrd : readyB v o = true) :
    Calls Tryd.prog 18 #[.slice va vn vc, .slice ha n c, valO o oa o.1.ds.length oc] w (HTake (freeG hs hs.length (setV v o) [o]).1 (aboveL (freeG hs hs.length (setV v o) [o]).1 hs) (freeG hs hs.length (setV v o) [o]).2 w) := by
  have mixed : Tryd.prog.follows .mixedOrders = true := by kernel_rfl
  have HB0 := Lib.hid (box_bel w (objO o oa o.1.ds.length oc))
  have HA0 := Lib.hid (OpX.new w o oa o.1.ds.length oc)
  have HV := Lib.hid (fun W (hb : Below w.heap.size w W) => hv.below hb (Nat.le_refl _))
  have HT := Lib.hid (fun W (hb : Below w.heap.size w W) => ht.below hb ht.lt)
  have HR := Lib.hid (fun W (hb : Below w.heap.size w W) => hr.below hb)
  have HRO := Lib.hid (fun W (hb : Below w.heap.size w W) => hro.below hb (Nat.le_refl _))
  have C1 := Lib.hid (hcheck_any va v vn vc ha hs n c (w.alloc (objO o oa o.1.ds.length oc)) (HT.out _ HB0.out) (HV.out _ HB0.out) hvn hvl (HR.out _ HB0.out) hn hl hnc)
  rw [hh] at C1
  have C2 := Lib.hid (fun W (hb : Below w.heap.size w W) => ready_yes va v vn vc o oa o.1.ds.length oc W (HT.out W hb) (HV.out W hb) hvn (HRO.out W hb) rfl hf)
  have C3 := Lib.hid (fun W (hb : Below w.heap.size w W) => known_any va v vn vc ha hs n c o oa o.1.ds.length oc W (HV.out W hb) hvn (HR.out W hb) hn hl hf)
  rw [hk] at C3
  rw [hrd] at C2
  have h16 := (held_iff.1 hh).2.1
  obtain ⟨fin, hfin⟩ : ∃ fin, freeG hs hs.length (setV v o) [o] = fin := ⟨_, rfl⟩
  have hfl : fin.1.length = v.length := by rw [← hfin]; exact (freeG_len _ _ _ _).trans (setV_len _ _)
  have C4 := Lib.hid (fun W (hb : Below w.heap.size w W) => free_any va v vn vc ha hs n c o oa oc W (HT.out W hb) (HV.out W hb) hvn (HR.out W hb) hn (by omega) (HRO.out W hb) hf (fun y hy => held_fits hh hy))
  rw [hfin] at C4 ⊢
  have C5 := Lib.hid (fun W (hb : Below w.heap.size w W) gw m cw (hm : m = fin.1.length) (ho : RowK .i64 W (some ⟨gw, 0, none⟩) fin.1) => above_any (some ⟨gw, 0, none⟩) fin.1 m cw ha hs n c W ho hm (HR.out W hb) hn hl (fun x hx => by have := held_sizes hh x hx; exact ⟨this.1, by rw [hfl]; exact this.2⟩))
  clear hv ht hr hro hvl hl hol hvn hn hh hf hk hrd hfin h16
  go_enter Tryd.func18, Tryd.ntmps18
  go_wp2_with fail
  refine (C1.out).mono ?_
  rintro e w1 ⟨rfl, hb⟩
  have HA1 := Lib.hid (HA0.out.next hb)
  have HB1 := Lib.hid (HB0.out.trans (hb.mono HB0.out.size))
  clear hb
  obtain ⟨c0, c1, c2, c3, c4, c5, c6, c7, c8, c9, c10, c11⟩ := HA1.out
  go_wp2_with fail
  refine (C2.out _ HB1.out).mono ?_
  rintro e w2 ⟨rfl, hb⟩
  have HA2 := Lib.hid (HA1.out.next hb)
  have HB2 := Lib.hid (HB1.out.trans (hb.mono HB1.out.size))
  clear hb c0 c1 c2 c3 c4 c5 c6 c7 c8 c9 c10 c11
  obtain ⟨c0, c1, c2, c3, c4, c5, c6, c7, c8, c9, c10, c11⟩ := HA2.out
  go_wp2_with fail
  refine (C3.out _ HB2.out).mono ?_
  rintro e w3 ⟨rfl, hb⟩
  have HA3 := Lib.hid (HA2.out.next hb)
  have HB3 := Lib.hid (HB2.out.trans (hb.mono HB2.out.size))
  clear hb c0 c1 c2 c3 c4 c5 c6 c7 c8 c9 c10 c11
  obtain ⟨c0, c1, c2, c3, c4, c5, c6, c7, c8, c9, c10, c11⟩ := HA3.out
  go_wp2_with fail
  refine (C4.out _ HB3.out).mono ?_
  rintro e w4 ⟨gw, cw, m, tv, dl2, rfl, hm, ho4, ht4, hd4, hap, hb4⟩
  have HB4 := Lib.hid (HB3.out.trans (hb4.mono HB3.out.size))
  have HO4 := Lib.hid ho4
  have HT4 := Lib.hid ht4
  have HD4 := Lib.hid hd4
  have HAP := Lib.hid hap
  have HM := Lib.hid hm
  have HRW := Lib.hid (ownK_row ho4)
  clear ho4 hb4 ht4 hd4 hap hm c0 c1 c2 c3 c4 c5 c6 c7 c8 c9 c10 c11
  go_wp2_with fail
  refine (C5.out _ HB4.out gw m cw HM.out HRW.out).mono ?_
  rintro e w5 ⟨lv, dl, rfl, ho5, hd5, hb5⟩
  have HB5 := Lib.hid (HB4.out.trans (hb5.mono HB4.out.size))
  have HO5 := Lib.hid ho5
  have HD5 := Lib.hid hd5
  have HW5 := Lib.hid (HO4.out.below hb5)
  have HT5 := Lib.hid (HT4.out.below hb5)
  have HE5 := Lib.hid (HD4.out.below hb5)
  clear ho5 hd5 hb5
  go_wp2
  refine bodyPost_ret (Pr.results_tmp4 rfl _ _ _) rfl ?_
  refine ⟨_, lv, tv, rfl, w4.heap.size, dl, dl2, HW5.out.mono HB3.out.size, HO5.out, HD5.out, HT5.out.mono HB3.out.size, HE5.out.mono HB3.out.size, HAP.out, fun g hg => (HO4.out.lt hg).2, fun g hg => (HT4.out.lt hg).2, fun x hx g hg => deps_lt HD4.out HT4.out.len hx hg, HB4.out.size, HB5.out⟩
end Go.Proofs.YtdpopdlifcjdeaaDoor
