/- Joined: D12 D13 D14. -/
import Derived.Test.YtdpopdlifcjdeaaDoorZJ
import Derived.Test.YtdpopdlifcjdeaaDoorZG
import Derived.Deep.Strs

/- Hold: Take. -/
namespace Go.Proofs.YtdpopdlifcjdeaaDoor
open Go.RowKit Go.Lib
set_option linter.unusedVariables false

/-- what Take tells: all of it its own; what is held stands above what was taken -/
def TkO (w w' : World) (wv lv tv : Value) (a : List Int) (b d : List OpD) : Prop := ∃ (B : Nat) (dl1 dl2 : List Value), OwnK .i64 3 w' w.heap.size wv a ∧ OwnO w' B lv b dl1 ∧ DepsO w' B b dl1 ∧ OwnO w' w.heap.size tv d dl2 ∧ DepsO w' w.heap.size d dl2 ∧
  (∀ x ∈ dl2, x.ownBlock = none ∨ x.ownBlock ≠ wv.ownBlock) ∧ (∀ g, wv.ownBlock = some g → g < B) ∧ (∀ g, tv.ownBlock = some g → g < B) ∧ (∀ x ∈ dl2, ∀ g, x.ownBlock = some g → g < B) ∧ w.heap.size ≤ B ∧ Below w.heap.size w w'
def HTake (a : List Int) (b d : List OpD) (w : World) (e : Ending) (w' : World) : Prop := ∃ wv lv tv, e = .returned (.tuple #[wv, lv, tv, .int .i64 0]) ∧ TkO w w' wv lv tv a b d
def TakeErr (z : Int) (w : World) (e : Ending) (w' : World) : Prop := e = .returned (.tuple #[.slice none 0 0, .slice none 0 0, .slice none 0 0, .int .i64 z]) ∧ Below w.heap.size w w'
theorem held_new {v : List Int} {hs : List OpD} (h : heldB v hs = true) : aboveL v hs = hs := by
  unfold aboveL
  rw [List.filter_eq_self]
  intro x hx
  obtain ⟨k, hk⟩ := List.getElem?_of_mem hx
  have h1 := (held_iff.1 h).2.2 k (List.getElem?_eq_some_iff.1 hk).1
  rw [heldAt_is hk] at h1
  simp only [Bool.and_eq_true, Bool.not_eq_true', knownB, Bool.or_eq_false_iff, decide_eq_false_iff_not] at h1
  unfold newB
  rw [decide_eq_true_eq]
  omega
theorem held_sizes {v : List Int} {hs : List OpD} (h : heldB v hs = true) : ∀ x ∈ hs, x.ok = true ∧ x.1.ds.length = v.length := fun x hx => (fits_iff.1 (held_fits h hx)).2
theorem deps_lt {w : World} {base : Nat} {os : List OpD} {dl : List Value} (h : DepsO w base os dl) (hl : dl.length = os.length) {x : Value} (hx : x ∈ dl) {g : Nat} (hg : x.ownBlock = some g) : g < w.heap.size := by
  obtain ⟨i, hi⟩ := List.getElem?_of_mem hx
  have hi' := (List.getElem?_eq_some_iff.1 hi).1
  obtain ⟨y, hy⟩ : ∃ y, os[i]? = some y := ⟨_, List.getElem?_eq_getElem (by omega)⟩
  exact ((h.own i y x hy hi).1.lt hg).2
set_option maxHeartbeats 4000000 in
set_option maxRecDepth 100000 in
theorem take_err1 (va : Option Addr) (v : List Int) (vn vc : Nat) (ha : Option Addr) (hs : List OpD) (n c : Nat) (o : OpD) (oa : Option Addr) (oc : Nat) (w : World) (ht : Pr.Tab w) (hv : RowK .i64 w va v) (hvn : vn = v.length) (hvl : v.length ≤ 140737488355328) (hr : RowO w ha hs) (hn : n = hs.length) (hl : hs.length * 120 ≤ 140737488355328) (hnc : n ≤ c) (hro : RowK .i64 w oa o.1.ds) (hol : o.1.ds.length ≤ 17592186044416) (hh : heldB v hs = false) :
    Calls Tryd.prog 18 #[.slice va vn vc, .slice ha n c, valO o oa o.1.ds.length oc] w (TakeErr 1 w) := by
  have mixed : Tryd.prog.follows .mixedOrders = true := by kernel_rfl
  have HB0 := Lib.hid (box_bel w (objO o oa o.1.ds.length oc))
  have HA0 := Lib.hid (OpX.new w o oa o.1.ds.length oc)
  have HV := Lib.hid (fun W (hb : Below w.heap.size w W) => hv.below hb (Nat.le_refl _))
  have HT := Lib.hid (fun W (hb : Below w.heap.size w W) => ht.below hb ht.lt)
  have HR := Lib.hid (fun W (hb : Below w.heap.size w W) => hr.below hb)
  have HRO := Lib.hid (fun W (hb : Below w.heap.size w W) => hro.below hb (Nat.le_refl _))
  have C1 := Lib.hid (hcheck_any va v vn vc ha hs n c (w.alloc (objO o oa o.1.ds.length oc)) (HT.out _ HB0.out) (HV.out _ HB0.out) hvn hvl (HR.out _ HB0.out) hn hl hnc)
  rw [hh] at C1
  clear hv ht hr hro hvl hl hol hvn hn hh
  go_enter Tryd.func18, Tryd.ntmps18
  go_wp2_with fail
  refine (C1.out).mono ?_
  rintro e w1 ⟨rfl, hb⟩
  have HA1 := Lib.hid (HA0.out.next hb)
  have HB1 := Lib.hid (HB0.out.trans (hb.mono HB0.out.size))
  clear hb
  obtain ⟨c0, c1, c2, c3, c4, c5, c6, c7, c8, c9, c10, c11⟩ := HA1.out
  go_wp2
  refine bodyPost_ret (Pr.results_tmp4 rfl _ _ _) rfl ?_
  exact ⟨rfl, HB1.out⟩
set_option maxHeartbeats 4000000 in
set_option maxRecDepth 100000 in
theorem take_err2 (va : Option Addr) (v : List Int) (vn vc : Nat) (ha : Option Addr) (hs : List OpD) (n c : Nat) (o : OpD) (oa : Option Addr) (oc : Nat) (w : World) (ht : Pr.Tab w) (hv : RowK .i64 w va v) (hvn : vn = v.length) (hvl : v.length ≤ 140737488355328) (hr : RowO w ha hs) (hn : n = hs.length) (hl : hs.length * 120 ≤ 140737488355328) (hnc : n ≤ c) (hro : RowK .i64 w oa o.1.ds) (hol : o.1.ds.length ≤ 17592186044416) (hh : heldB v hs = true) (hf : fitsB v o = false) :
    Calls Tryd.prog 18 #[.slice va vn vc, .slice ha n c, valO o oa o.1.ds.length oc] w (TakeErr 1 w) := by
  have mixed : Tryd.prog.follows .mixedOrders = true := by kernel_rfl
  have HB0 := Lib.hid (box_bel w (objO o oa o.1.ds.length oc))
  have HA0 := Lib.hid (OpX.new w o oa o.1.ds.length oc)
  have HV := Lib.hid (fun W (hb : Below w.heap.size w W) => hv.below hb (Nat.le_refl _))
  have HT := Lib.hid (fun W (hb : Below w.heap.size w W) => ht.below hb ht.lt)
  have HR := Lib.hid (fun W (hb : Below w.heap.size w W) => hr.below hb)
  have HRO := Lib.hid (fun W (hb : Below w.heap.size w W) => hro.below hb (Nat.le_refl _))
  have C1 := Lib.hid (hcheck_any va v vn vc ha hs n c (w.alloc (objO o oa o.1.ds.length oc)) (HT.out _ HB0.out) (HV.out _ HB0.out) hvn hvl (HR.out _ HB0.out) hn hl hnc)
  rw [hh] at C1
  have C2 := Lib.hid (fun W (hb : Below w.heap.size w W) => ready_no va v vn vc o oa o.1.ds.length oc W (HT.out W hb) (HV.out W hb) hvn hvl (HRO.out W hb) rfl (by omega) hf)
  clear hv ht hr hro hvl hl hol hvn hn hh hf
  go_enter Tryd.func18, Tryd.ntmps18
  go_wp2_with fail
  refine (C1.out).mono ?_
  rintro e w1 ⟨rfl, hb⟩
  have HA1 := Lib.hid (HA0.out.next hb)
  have HB1 := Lib.hid (HB0.out.trans (hb.mono HB0.out.size))
  clear hb
  obtain ⟨c0, c1, c2, c3, c4, c5, c6, c7, c8, c9, c10, c11⟩ := HA1.out
  go_wp2_with fail
  refine (C2.out _ HB1.out).mono ?_
  rintro e w2 ⟨rfl, hb⟩
  have HA2 := Lib.hid (HA1.out.next hb)
  have HB2 := Lib.hid (HB1.out.trans (hb.mono HB1.out.size))
  clear hb c0 c1 c2 c3 c4 c5 c6 c7 c8 c9 c10 c11
  obtain ⟨c0, c1, c2, c3, c4, c5, c6, c7, c8, c9, c10, c11⟩ := HA2.out
  go_wp2
  refine bodyPost_ret (Pr.results_tmp4 rfl _ _ _) rfl ?_
  exact ⟨rfl, HB2.out⟩
set_option maxHeartbeats 4000000 in
set_option maxRecDepth 100000 in
theorem take_known (va : Option Addr) (v : List Int) (vn vc : Nat) (ha : Option Addr) (hs : List OpD) (n c : Nat) (o : OpD) (oa : Option Addr) (oc : Nat) (w : World) (ht : Pr.Tab w) (hv : RowK .i64 w va v) (hvn : vn = v.length) (hvl : v.length ≤ 140737488355328) (hr : RowO w ha hs) (hn : n = hs.length) (hl : hs.length * 120 ≤ 140737488355328) (hnc : n ≤ c) (hro : RowK .i64 w oa o.1.ds) (hol : o.1.ds.length ≤ 17592186044416) (hh : heldB v hs = true) (hf : fitsB v o = true) (hk : knownB v hs o = true) :
    Calls Tryd.prog 18 #[.slice va vn vc, .slice ha n c, valO o oa o.1.ds.length oc] w (HTake v hs [] w) := by
  have mixed : Tryd.prog.follows .mixedOrders = true := by kernel_rfl
  have HB0 := Lib.hid (box_bel w (objO o oa o.1.ds.length oc))
  have HA0 := Lib.hid (OpX.new w o oa o.1.ds.length oc)
  have HV := Lib.hid (fun W (hb : Below w.heap.size w W) => hv.below hb (Nat.le_refl _))
  have HT := Lib.hid (fun W (hb : Below w.heap.size w W) => ht.below hb ht.lt)
  have HR := Lib.hid (fun W (hb : Below w.heap.size w W) => hr.below hb)
  have HRO := Lib.hid (fun W (hb : Below w.heap.size w W) => hro.below hb (Nat.le_refl _))
  have C1 := Lib.hid (hcheck_any va v vn vc ha hs n c (w.alloc (objO o oa o.1.ds.length oc)) (HT.out _ HB0.out) (HV.out _ HB0.out) hvn hvl (HR.out _ HB0.out) hn hl hnc)
  rw [hh] at C1
  have C2 := Lib.hid (fun W (hb : Below w.heap.size w W) => ready_yes va v vn vc o oa o.1.ds.length oc W (HT.out W hb) (HV.out W hb) hvn (HRO.out W hb) rfl hf)
  have C3 := Lib.hid (fun W (hb : Below w.heap.size w W) => known_any va v vn vc ha hs n c o oa o.1.ds.length oc W (HV.out W hb) hvn (HR.out W hb) hn hl hf)
  have hvl1 := Hv.vecB_len (fits_iff.1 hf).1
  rw [hk] at C3
  have C4 := Lib.hid (fun W (hb : Below w.heap.size w W) => clone_any va v vn vc W (HV.out W hb) hvn hvl1.1 (by omega))
  have C5 := Lib.hid (fun W (hb : Below w.heap.size w W) => above_any va v vn vc ha hs n c W (HV.out W hb) hvn (HR.out W hb) hn hl (held_sizes hh))
  rw [held_new hh] at C5
  clear hv ht hr hro hvl hl hol hvn hn hh hf hvl1 hk
  generalize readyB v o = rb at *
  go_enter Tryd.func18, Tryd.ntmps18
  go_wp2_with fail
  refine (C1.out).mono ?_
  rintro e w1 ⟨rfl, hb⟩
  have HA1 := Lib.hid (HA0.out.next hb)
  have HB1 := Lib.hid (HB0.out.trans (hb.mono HB0.out.size))
  clear hb
  obtain ⟨c0, c1, c2, c3, c4, c5, c6, c7, c8, c9, c10, c11⟩ := HA1.out
  go_wp2_with fail
  refine (C2.out _ HB1.out).mono ?_
  rintro e w2 ⟨rfl, hb⟩
  have HA2 := Lib.hid (HA1.out.next hb)
  have HB2 := Lib.hid (HB1.out.trans (hb.mono HB1.out.size))
  clear hb c0 c1 c2 c3 c4 c5 c6 c7 c8 c9 c10 c11
  obtain ⟨c0, c1, c2, c3, c4, c5, c6, c7, c8, c9, c10, c11⟩ := HA2.out
  go_wp2_with fail
  refine (C3.out _ HB2.out).mono ?_
  rintro e w3 ⟨rfl, hb⟩
  have HA3 := Lib.hid (HA2.out.next hb)
  have HB3 := Lib.hid (HB2.out.trans (hb.mono HB2.out.size))
  clear hb c0 c1 c2 c3 c4 c5 c6 c7 c8 c9 c10 c11
  obtain ⟨c0, c1, c2, c3, c4, c5, c6, c7, c8, c9, c10, c11⟩ := HA3.out
  go_wp2_with fail
  refine (C4.out _ HB3.out).mono ?_
  rintro e w4 ⟨wv, rfl, ho4, hb4⟩
  have HB4 := Lib.hid (HB3.out.trans (hb4.mono HB3.out.size))
  have HO4 := Lib.hid ho4
  clear ho4 hb4 c0 c1 c2 c3 c4 c5 c6 c7 c8 c9 c10 c11
  go_wp2_with fail
  refine (C5.out _ HB4.out).mono ?_
  rintro e w5 ⟨lv, dl, rfl, ho5, hd5, hb5⟩
  have HB5 := Lib.hid (HB4.out.trans (hb5.mono HB4.out.size))
  have HO5 := Lib.hid ho5
  have HD5 := Lib.hid hd5
  have HW5 := Lib.hid (HO4.out.below hb5)
  clear ho5 hd5 hb5
  go_wp2
  refine bodyPost_ret (Pr.results_tmp4 rfl _ _ _) rfl ?_
  refine ⟨wv, lv, _, rfl, w4.heap.size, dl, [], HW5.out.mono HB3.out.size, HO5.out, HD5.out, OwnO.nil _ _, DepsO.nil _ _, fun x hx => by simp at hx, fun g hg => (HO4.out.lt hg).2, fun g hg => by simp [Value.ownBlock] at hg, fun x hx => by simp at hx, HB4.out.size, HB5.out⟩
theorem freeG_len (hs : List OpD) : ∀ (f : Nat) (v : List Int) (tk : List OpD), (freeG hs f v tk).1.length = v.length
  | 0, v, tk => rfl
  | f + 1, v, tk => by
    rw [freeG]
    split
    · rfl
    · rw [freeG_len hs f]; exact setV_len _ _
theorem ownK_row {w : World} {base gw m cw : Nat} {zs : List Int} (h : OwnK .i64 3 w base (.slice (some ⟨gw, 0, none⟩) m cw) zs) : RowK .i64 w (some ⟨gw, 0, none⟩) zs := by
  obtain ⟨a, cap, e, hr, _⟩ := h.form
  injection e with e1
  rw [e1]
  exact hr
set_option maxHeartbeats 4000000 in
set_option maxRecDepth 100000 in
theorem take_ready (va : Option Addr) (v : List Int) (vn vc : Nat) (ha : Option Addr) (hs : List OpD) (n c : Nat) (o : OpD) (oa : Option Addr) (oc : Nat) (w : World) (ht : Pr.Tab w) (hv : RowK .i64 w va v) (hvn : vn = v.length) (hvl : v.length ≤ 140737488355328) (hr : RowO w ha hs) (hn : n = hs.length) (hl : hs.length * 120 ≤ 140737488355328) (hnc : n ≤ c) (hro : RowK .i64 w oa o.1.ds) (hol : o.1.ds.length ≤ 17592186044416) (hh : heldB v hs = true) (hf : fitsB v o = true) (hk : knownB v hs o = false) (hrd : readyB v o = true) :
    Calls Tryd.prog 18 #[.slice va vn vc, .slice ha n c, valO o oa o.1.ds.length oc] w (HTake (freeG hs hs.length (setV v o) [o]).1 (aboveL (freeG hs hs.length (setV v o) [o]).1 hs) (freeG hs hs.length (setV v o) [o]).2 w) := by
  have mixed : Tryd.prog.follows .mixedOrders = true := by kernel_rfl
  have HB0 := Lib.hid (box_bel w (objO o oa o.1.ds.length oc))
  have HA0 := Lib.hid (OpX.new w o oa o.1.ds.length oc)
  have HV := Lib.hid (fun W (hb : Below w.heap.size w W) => hv.below hb (Nat.le_refl _))
  have HT := Lib.hid (fun W (hb : Below w.heap.size w W) => ht.below hb ht.lt)
  have HR := Lib.hid (fun W (hb : Below w.heap.size w W) => hr.below hb)
  have HRO := Lib.hid (fun W (hb : Below w.heap.size w W) => hro.below hb (Nat.le_refl _))
  have C1 := Lib.hid (hcheck_any va v vn vc ha hs n c (w.alloc (objO o oa o.1.ds.length oc)) (HT.out _ HB0.out) (HV.out _ HB0.out) hvn hvl (HR.out _ HB0.out) hn hl hnc)
  rw [hh] at C1
  have C2 := Lib.hid (fun W (hb : Below w.heap.size w W) => ready_yes va v vn vc o oa o.1.ds.length oc W (HT.out W hb) (HV.out W hb) hvn (HRO.out W hb) rfl hf)
  have C3 := Lib.hid (fun W (hb : Below w.heap.size w W) => known_any va v vn vc ha hs n c o oa o.1.ds.length oc W (HV.out W hb) hvn (HR.out W hb) hn hl hf)
  rw [hk] at C3
  rw [hrd] at C2
  have h16 := (held_iff.1 hh).2.1
  obtain ⟨fin, hfin⟩ : ∃ fin, freeG hs hs.length (setV v o) [o] = fin := ⟨_, rfl⟩
  have hfl : fin.1.length = v.length := by rw [← hfin]; exact (freeG_len _ _ _ _).trans (setV_len _ _)
  have C4 := Lib.hid (fun W (hb : Below w.heap.size w W) => free_any va v vn vc ha hs n c o oa oc W (HT.out W hb) (HV.out W hb) hvn (HR.out W hb) hn (by omega) (HRO.out W hb) hf (fun y hy => held_fits hh hy))
  rw [hfin] at C4 ⊢
  have C5 := Lib.hid (fun W (hb : Below w.heap.size w W) gw m cw (hm : m = fin.1.length) (ho : RowK .i64 W (some ⟨gw, 0, none⟩) fin.1) => above_any (some ⟨gw, 0, none⟩) fin.1 m cw ha hs n c W ho hm (HR.out W hb) hn hl (fun x hx => by have := held_sizes hh x hx; exact ⟨this.1, by rw [hfl]; exact this.2⟩))
  clear hv ht hr hro hvl hl hol hvn hn hh hf hk hrd hfin h16
  go_enter Tryd.func18, Tryd.ntmps18
  go_wp2_with fail
  refine (C1.out).mono ?_
  rintro e w1 ⟨rfl, hb⟩
  have HA1 := Lib.hid (HA0.out.next hb)
  have HB1 := Lib.hid (HB0.out.trans (hb.mono HB0.out.size))
  clear hb
  obtain ⟨c0, c1, c2, c3, c4, c5, c6, c7, c8, c9, c10, c11⟩ := HA1.out
  go_wp2_with fail
  refine (C2.out _ HB1.out).mono ?_
  rintro e w2 ⟨rfl, hb⟩
  have HA2 := Lib.hid (HA1.out.next hb)
  have HB2 := Lib.hid (HB1.out.trans (hb.mono HB1.out.size))
  clear hb c0 c1 c2 c3 c4 c5 c6 c7 c8 c9 c10 c11
  obtain ⟨c0, c1, c2, c3, c4, c5, c6, c7, c8, c9, c10, c11⟩ := HA2.out
  go_wp2_with fail
  refine (C3.out _ HB2.out).mono ?_
  rintro e w3 ⟨rfl, hb⟩
  have HA3 := Lib.hid (HA2.out.next hb)
  have HB3 := Lib.hid (HB2.out.trans (hb.mono HB2.out.size))
  clear hb c0 c1 c2 c3 c4 c5 c6 c7 c8 c9 c10 c11
  obtain ⟨c0, c1, c2, c3, c4, c5, c6, c7, c8, c9, c10, c11⟩ := HA3.out
  go_wp2_with fail
  refine (C4.out _ HB3.out).mono ?_
  rintro e w4 ⟨gw, cw, m, tv, dl2, rfl, hm, ho4, ht4, hd4, hap, hb4⟩
  have HB4 := Lib.hid (HB3.out.trans (hb4.mono HB3.out.size))
  have HO4 := Lib.hid ho4
  have HT4 := Lib.hid ht4
  have HD4 := Lib.hid hd4
  have HAP := Lib.hid hap
  have HM := Lib.hid hm
  have HRW := Lib.hid (ownK_row ho4)
  clear ho4 hb4 ht4 hd4 hap hm c0 c1 c2 c3 c4 c5 c6 c7 c8 c9 c10 c11
  go_wp2_with fail
  refine (C5.out _ HB4.out gw m cw HM.out HRW.out).mono ?_
  rintro e w5 ⟨lv, dl, rfl, ho5, hd5, hb5⟩
  have HB5 := Lib.hid (HB4.out.trans (hb5.mono HB4.out.size))
  have HO5 := Lib.hid ho5
  have HD5 := Lib.hid hd5
  have HW5 := Lib.hid (HO4.out.below hb5)
  have HT5 := Lib.hid (HT4.out.below hb5)
  have HE5 := Lib.hid (HD4.out.below hb5)
  clear ho5 hd5 hb5
  go_wp2
  refine bodyPost_ret (Pr.results_tmp4 rfl _ _ _) rfl ?_
  refine ⟨_, lv, tv, rfl, w4.heap.size, dl, dl2, HW5.out.mono HB3.out.size, HO5.out, HD5.out, HT5.out.mono HB3.out.size, HE5.out.mono HB3.out.size, HAP.out, fun g hg => (HO4.out.lt hg).2, fun g hg => (HT4.out.lt hg).2, fun x hx g hg => deps_lt HD4.out HT4.out.len hx hg, HB4.out.size, HB5.out⟩
end Go.Proofs.YtdpopdlifcjdeaaDoor

/- Hold: the laws' small functions; scripts opened. -/
namespace Go.Proofs.YtdpopdlifcjdeaaDoor
open Go.ChangeShapes Go.WideShapes Go.ChangeAt Go.RowKit Go.Deep Go.Lib
set_option linter.unusedVariables false

theorem num14_any (z : Int) (w : World) : Calls Tryd.prog 11 #[.int .i64 z] w fun e w' => e = .returned (.int .i64 z) ∧ w = w' := by
  go_enter Tryd.func11, Tryd.ntmps11
  go_wp2
  go_ret
  exact ⟨rfl, rfl⟩

theorem x0_vec : heldB [0] [] = true := by decide
theorem x0_fits : fitsB [0] x0D = true := by unfold fitsB; rw [x0_ok]; decide
theorem x0_known : knownB [0] [] x0D = false := by decide
theorem x0_ready : readyB [0] x0D = true := by decide
theorem x0_free : freeG [] ([] : List OpD).length (setV [0] x0D) [x0D] = ([1], [x0D]) := rfl
set_option maxHeartbeats 2000000 in
set_option maxRecDepth 100000 in
theorem wakes14_any (w : World) (ht : Pr.Tab w) : Calls Tryd.prog 25 #[] w (BoolPost w true) := by
  have HN := Lib.hid (fun W => num14_any 0 W)
  have HB0 := Lib.hid (box_bel w (.cells #[.int .i64 0] 3))
  have HR0 := Lib.hid (one_row .i64 3 w 0)
  have CO := Lib.hid (mkO_any (w.alloc (.cells #[.int .i64 0] 3)))
  have CT : Hid (∀ W a, Below w.heap.size w W → RowK .i64 W (some ⟨w.heap.size, 0, none⟩) [0] → RowK .i64 W a [0] → Calls Tryd.prog 18 #[.slice (some ⟨w.heap.size, 0, none⟩) 1 1, .slice none 0 0, .agg #[.int .i64 1, .int .i64 0, .int .i64 1, .slice a 1 1, .int .i64 1, .int .i64 1, .int .i64 0, .int .i64 0, .int .i64 0, .string ⟨#[107]⟩, .int .i64 0, .int .i64 0]] W (HTake [1] [] [x0D] W)) := fun W a hb h1 h2 => by
    have h := take_ready (some ⟨w.heap.size, 0, none⟩) [0] 1 1 none [] 0 0 x0D a 1 W (ht.below hb ht.lt) h1 rfl (by decide) (RowO.nil _ _) rfl (by decide) (by decide) h2 (by decide) x0_vec x0_fits x0_known x0_ready
    rw [x0_free] at h
    exact h
  clear ht
  go_enter Tryd.func25, Tryd.ntmps25
  go_wp2_with fail
  refine (CO.out).mono ?_
  rintro e w1 ⟨a1, rfl, hr1, hb1⟩
  have HB1 := Lib.hid (HB0.out.trans (hb1.mono HB0.out.size))
  have HR1 := Lib.hid (HR0.out.below hb1 (Nat.le_refl _))
  have HA1 := Lib.hid hr1
  clear hr1 hb1
  go_wp2_with fail
  refine (CT.out w1 a1 HB1.out HR1.out HA1.out).mono ?_
  rintro e w2 ⟨wv, lv, tv, rfl, B, dl1, dl2, h1, h2, h3, h4, h5, h6, h7, h8, h9, h10, h11⟩
  obtain ⟨a, c, rfl, hrw, hc⟩ := h1.form
  obtain ⟨la, ln, lc, rfl, hln, hlc, -⟩ := h2.form
  obtain ⟨ta, tn, tc, rfl, htn, htc, -⟩ := h4.form
  obtain rfl : ln = 0 := hln
  obtain rfl : tn = 1 := htn
  have HW2 := Lib.hid hrw
  have HB2 := Lib.hid (HB1.out.trans (h11.mono HB1.out.size))
  have CE := Lib.hid (fun (h : RowK .i64 (w2.alloc (.cells #[.int .i64 1] 3)) a [1]) => eqI_yes a (some ⟨w2.heap.size, 0, none⟩) [1] 1 1 c 1 (w2.alloc (.cells #[.int .i64 1] 3)) h (one_row .i64 3 w2 1) rfl rfl (by decide))
  have CE2 := Lib.hid (CE.out (HW2.out.alloc _))
  clear h1 h2 h3 h4 h5 h6 h7 h8 h9 h10 h11 hrw hlc htc CE
  have hl1 : ([1] : List Int).length = 1 := rfl
  go_wp2_with fail
  refine (HN.out _).mono ?_
  rintro e w3 ⟨rfl, rfl⟩
  go_wp2_with fail
  refine (CE2.out).mono ?_
  rintro e w4 ⟨rfl, m, rfl⟩
  have HB4 := Lib.hid (below_drewN (HB2.out.alloc HB2.out.size (.cells #[.int .i64 1] 3)) m)
  go_wp2
  go_ret
  exact ⟨rfl, HB4.out⟩
end Go.Proofs.YtdpopdlifcjdeaaDoor

/- Hold: heavy; scripts opened. -/
namespace Go.Proofs.YtdpopdlifcjdeaaDoor
open Go.ChangeShapes Go.WideShapes Go.ChangeAt Go.RowKit Go.Deep Go.Lib
set_option linter.unusedVariables false

/-- what a script's rows are -/
structure ScR (w : World) (va : Option Addr) (v : List Int) (vn vc : Nat) (ha : Option Addr) (hs : List OpD) (hn hc : Nat) (la : Option Addr) (ls : List OpD) (ln lc : Nat) : Prop where
  rv : RowK .i64 w va v
  vl : vn = v.length
  vm : v.length ≤ 17592186044416
  vk : vn ≤ vc
  rh : RowO w ha hs
  hl : hn = hs.length
  hm : hs.length * 120 ≤ 140737488355328
  hk : hn ≤ hc
  rl : RowO w la ls
  ll : ln = ls.length
  lm : ls.length * 120 ≤ 140737488355328
  lk : ln ≤ lc
theorem ScR.below {w w' : World} {va : Option Addr} {v : List Int} {vn vc : Nat} {ha : Option Addr} {hs : List OpD} {hn hc : Nat} {la : Option Addr} {ls : List OpD} {ln lc : Nat} (h : ScR w va v vn vc ha hs hn hc la ls ln lc) (hb : Below w.heap.size w w') : ScR w' va v vn vc ha hs hn hc la ls ln lc :=
  ⟨h.rv.below hb (Nat.le_refl _), h.vl, h.vm, h.vk, h.rh.below hb, h.hl, h.hm, h.hk, h.rl.below hb, h.ll, h.lm, h.lk⟩
/-- a script's three cells -/
abbrev scO (va : Option Addr) (vn vc : Nat) (ha : Option Addr) (hn hc : Nat) (la : Option Addr) (ln lc : Nat) : Obj := .cells #[.slice va vn vc, .slice ha hn hc, .slice la ln lc] 25
structure ScAt (w : World) (b : Nat) (va : Option Addr) (vn vc : Nat) (ha : Option Addr) (hn hc : Nat) (la : Option Addr) (ln lc : Nat) : Prop where
  c0 : w.cell? ⟨b, 0, none⟩ = some (.slice va vn vc)
  c1 : w.cell? ⟨b, 1, none⟩ = some (.slice ha hn hc)
  c2 : w.cell? ⟨b, 2, none⟩ = some (.slice la ln lc)
theorem ScAt.lt {w : World} {b : Nat} {va : Option Addr} {vn vc : Nat} {ha : Option Addr} {hn hc : Nat} {la : Option Addr} {ln lc : Nat} (h : ScAt w b va vn vc ha hn hc la ln lc) : b < w.heap.size := World.block_lt_of_cell? _ _ h.c0
theorem ScAt.below {w w' : World} {b B : Nat} {va : Option Addr} {vn vc : Nat} {ha : Option Addr} {hn hc : Nat} {la : Option Addr} {ln lc : Nat} (h : ScAt w b va vn vc ha hn hc la ln lc) (hb : Below B w w') (hB : b < B) : ScAt w' b va vn vc ha hn hc la ln lc :=
  ⟨(hb.cell (p := ⟨b, 0, none⟩) hB).trans h.c0, (hb.cell (p := ⟨b, 1, none⟩) hB).trans h.c1, (hb.cell (p := ⟨b, 2, none⟩) hB).trans h.c2⟩
theorem ScAt.next {w w' : World} {b : Nat} {va : Option Addr} {vn vc : Nat} {ha : Option Addr} {hn hc : Nat} {la : Option Addr} {ln lc : Nat} (h : ScAt w b va vn vc ha hn hc la ln lc) (hb : Below w.heap.size w w') : ScAt w' b va vn vc ha hn hc la ln lc := h.below hb h.lt
theorem ScAt.new (w : World) (va : Option Addr) (vn vc : Nat) (ha : Option Addr) (hn hc : Nat) (la : Option Addr) (ln lc : Nat) : ScAt (w.alloc (scO va vn vc ha hn hc la ln lc)) w.heap.size va vn vc ha hn hc la ln lc := ⟨by simp, by simp, by simp⟩

def SomeBool (w : World) (e : Ending) (w' : World) : Prop := ∃ b : Bool, e = .returned (.bool b) ∧ Below w.heap.size w w'
set_option maxHeartbeats 2000000 in
theorem heavy14_any (va : Option Addr) (v : List Int) (vn vc : Nat) (ha : Option Addr) (hs : List OpD) (hn hc : Nat) (la : Option Addr) (ls : List OpD) (ln lc : Nat) (w : World) (h : ScR w va v vn vc ha hs hn hc la ls ln lc) :
    Calls Tryd.prog 8 #[.agg #[.slice va vn vc, .slice ha hn hc, .slice la ln lc]] w (SomeBool w) := by
  have mixed : Tryd.prog.follows .mixedOrders = true := by kernel_rfl
  have HB := Lib.hid (box_bel w (scO va vn vc ha hn hc la ln lc))
  obtain ⟨c0, c1, c2⟩ := ScAt.new w va vn vc ha hn hc la ln lc
  have g0 := cell_regrown c0
  have g1 := cell_regrown c1
  have g2 := cell_regrown c2
  obtain ⟨y, hy⟩ : ∃ y, wtO hs = y := ⟨_, rfl⟩
  obtain ⟨z, hz⟩ : ∃ z, wtO ls = z := ⟨_, rfl⟩
  have hR := h.below (box_bel w (scO va vn vc ha hn hc la ln lc))
  have x1 : St.RegrownTo (w.alloc (scO va vn vc ha hn hc la ln lc)) 31 #[.slice ha hn hc] (.int .i64 y) := regrown_at fun W' hb => opsWeight_is ha hs hn hc W' (hR.rh.below hb) hR.hl hR.hm y hy
  have x2 : St.RegrownTo (w.alloc (scO va vn vc ha hn hc la ln lc)) 31 #[.slice la ln lc] (.int .i64 z) := regrown_at fun W' hb => opsWeight_is la ls ln lc W' (hR.rl.below hb) hR.ll hR.lm z hz
  clear c0 c1 c2 hy hz hR h
  obtain ⟨d, hd⟩ : ∃ d, decide (5000 < wrap64 (wrap64 ((vn : Int) + y) + z)) = d := ⟨_, rfl⟩
  go_enter Tryd.func8, Tryd.ntmps8
  go_wp2_with fail
  refine wp_region_quiet_below (by assumption) (by kernel_rfl) ?_
  generalize w.alloc (scO va vn vc ha hn hc la ln lc) = W at *
  generalize hg : w.heap.size = g at x1 x2 g0 g1 g2 ⊢
  clear hg
  repeat (go_big_quiet_step ((first | (go_at_call 31; with_reducible exact x1 _ _) | (go_at_call 31; with_reducible exact x2 _ _))))
  refine wpQuiet_nil ?_
  intro _ hw'
  obtain ⟨⟨dq, osq⟩, hw''⟩ := hw'
  subst hw''
  go_wp2
  go_ret
  exact ⟨_, rfl, HB.out.trans ((below_regrown _ dq osq).mono HB.out.size)⟩

set_option maxHeartbeats 1000000 in
theorem script_open {H : Type} {enc : TypeId × Value → H} {w : World} {cs : Array Value} {d : DataW H} {p : List MemPlace} (hcs : cs.size = Tryd.prog.cellsOf 25) (h : DataW.Trod enc Tryd.prog w 0 (fun _ => true) true 25 (.agg cs) d p)
    (hs : ∀ n ∈ d.weights Tryd.prog 25, n ≤ reachBytes) : ∃ va v vn vc ha hs hn hc la ls ln lc, cs = #[.slice va vn vc, .slice ha hn hc, .slice la ln lc] ∧ ScR w va v vn vc ha hs hn hc la ls ln lc := by
  obtain ⟨fuel, hf⟩ := h
  have hC : Tryd.prog.cellsOf 25 = 3 := by kernel_rfl
  rw [hC] at hcs
  obtain ⟨l⟩ := cs
  match l, hcs with
  | [d0, d1, d2], _ =>
    have hf2 : DataW.trod enc Tryd.prog w 0 (fun _ => true) true fuel 25 [d0, d1, d2] = some (d, p) := by simpa [Value.cells] using hf
    obtain ⟨ys, n', _, hD, _, hyl, hf'⟩ := DataW.trod_struct Tryd.underlying25 hf2
    have f0 : DataW.trod enc Tryd.prog w 0 (fun _ => true) true n' 22 (([d0, d1, d2].drop 0).take (Tryd.prog.cellsOf 22)) = ys[0]? := hf' 0 _ rfl
    have f1 : DataW.trod enc Tryd.prog w 0 (fun _ => true) true n' 23 (([d0, d1, d2].drop 1).take (Tryd.prog.cellsOf 23)) = ys[1]? := hf' 1 _ rfl
    have f2 : DataW.trod enc Tryd.prog w 0 (fun _ => true) true n' 23 (([d0, d1, d2].drop 2).take (Tryd.prog.cellsOf 23)) = ys[2]? := hf' 2 _ rfl
    rw [show Tryd.prog.cellsOf 22 = 1 from by kernel_rfl] at f0
    rw [show Tryd.prog.cellsOf 23 = 1 from by kernel_rfl] at f1 f2
    have hy0 : ys[0]? = some (ys[0]'(by simp at hyl; omega)) := List.getElem?_eq_getElem _
    rw [hy0] at f0
    have hy1 : ys[1]? = some (ys[1]'(by simp at hyl; omega)) := List.getElem?_eq_getElem _
    rw [hy1] at f1
    have hy2 : ys[2]? = some (ys[2]'(by simp at hyl; omega)) := List.getElem?_eq_getElem _
    rw [hy2] at f2
    simp only [List.drop_zero, List.drop_succ_cons, List.take_succ_cons, List.take_zero] at f0 f1 f2
    have hxd : d = .agg (ys.map (·.1)) := by have := congrArg Prod.fst hD; exact this
    have hw : ∀ (j t : Nat) (y : DataW H), Tryd.prog.fieldsOf 25 = Tryd.prog.fieldsOf 25 → True := fun _ _ _ _ => trivial
    have hw0 : ∀ n ∈ (ys[0]'(by simp at hyl; omega)).1.weights Tryd.prog 22, n ≤ reachBytes := by
      intro n hn
      apply hs
      rw [hxd]
      simp only [DataW.weights, Tryd.underlying25]
      exact DataW.weights_mem_each (j := 0) (t := 22) (d := (ys[0]'(by simp at hyl; omega)).1) rfl (by rw [List.getElem?_map, hy0]; rfl) n hn
    have hw1 : ∀ n ∈ (ys[1]'(by simp at hyl; omega)).1.weights Tryd.prog 23, n ≤ reachBytes := by
      intro n hn
      apply hs
      rw [hxd]
      simp only [DataW.weights, Tryd.underlying25]
      exact DataW.weights_mem_each (j := 1) (t := 23) (d := (ys[1]'(by simp at hyl; omega)).1) rfl (by rw [List.getElem?_map, hy1]; rfl) n hn
    have hw2 : ∀ n ∈ (ys[2]'(by simp at hyl; omega)).1.weights Tryd.prog 23, n ≤ reachBytes := by
      intro n hn
      apply hs
      rw [hxd]
      simp only [DataW.weights, Tryd.underlying25]
      exact DataW.weights_mem_each (j := 2) (t := 23) (d := (ys[2]'(by simp at hyl; omega)).1) rfl (by rw [List.getElem?_map, hy2]; rfl) n hn
    obtain ⟨va, v, vc, rfl, a1, a2, a3⟩ := rowI_open_sized f0 hw0
    obtain ⟨ha, hs, hc, rfl, b1, b2, b3⟩ := ops_open f1 hw1
    obtain ⟨la, ls, lc, rfl, e1, e2, e3⟩ := ops_open f2 hw2
    exact ⟨va, v, _, vc, ha, hs, _, hc, la, ls, _, lc, rfl, a1, rfl, a3, a2, b1, rfl, b3, b2, e1, rfl, e3, e2⟩
end Go.Proofs.YtdpopdlifcjdeaaDoor
