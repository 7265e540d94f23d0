/- Joined: D21. -/
import Derived.Test.YtdpopdlifcjdeaaDoorYD16
import Derived.Test.YtdpopdlifcjdeaaDoorYD20

/- Hold: Take, what is held; Insert at any place. -/
namespace Go.Proofs.YtdpopdlifcjdeaaDoor
open Go.RowKit Go.Lib
set_option linter.unusedVariables false

theorem ownK_one {w : World} {base : Nat} {v : Value} {zs : List Int} (h : OwnK .i64 3 w base v zs) : v.oneCell' = true := by
  obtain ⟨a, c, rfl, _⟩ := h.form
  rfl
theorem depsO_one {w : World} {base : Nat} {os : List OpD} {dl : List Value} (h : DepsO w base os dl) (hl : dl.length = os.length) : ∀ d ∈ dl, d.oneCell' = true := fun d hd => by
  obtain ⟨i, hi⟩ := List.getElem?_of_mem hd
  have hi' := (List.getElem?_eq_some_iff.1 hi).1
  obtain ⟨y, hy⟩ : ∃ y, os[i]? = some y := ⟨_, List.getElem?_eq_getElem (by omega)⟩
  exact ownK_one (h.own i y d hy hi).1
theorem DepsO.insert {w : World} {base : Nat} {os : List OpD} {dl : List Value} {x : OpD} {d : Value} (h : DepsO w base os dl) (hlen : dl.length = os.length) (hx : OwnK .i64 3 w base d x.1.ds) (hl : x.1.ds.length ≤ 17592186044416) (hnew : ∀ g, d.ownBlock = some g → ∀ e ∈ dl, e.ownBlock ≠ some g) (p : Nat) (hp : p ≤ os.length) : DepsO w base (os.take p ++ x :: os.drop p) (dl.take p ++ d :: dl.drop p) := by
  constructor
  · intro i y e hi he
    have h1 : (os.take p).length = p := by rw [List.length_take]; omega
    have h2 : (dl.take p).length = p := by rw [List.length_take]; omega
    rcases Nat.lt_trichotomy i p with hlt | rfl | hgt
    · rw [List.getElem?_append_left (by omega), List.getElem?_take, if_pos hlt] at hi he
      exact h.own i y e hi he
    · rw [List.getElem?_append_right (by omega), h1, Nat.sub_self, List.getElem?_cons_zero] at hi
      rw [List.getElem?_append_right (by omega), h2, Nat.sub_self, List.getElem?_cons_zero] at he
      injection hi with hi
      injection he with he
      subst hi
      subst he
      exact ⟨hx, hl⟩
    · rw [List.getElem?_append_right (by omega), h1, show i - p = (i - p - 1) + 1 by omega, List.getElem?_cons_succ, List.getElem?_drop] at hi
      rw [List.getElem?_append_right (by omega), h2, show i - p = (i - p - 1) + 1 by omega, List.getElem?_cons_succ, List.getElem?_drop] at he
      exact h.own _ y e hi he
  · have ha := h.apart
    rw [← List.take_append_drop p dl, List.pairwise_append] at ha
    rw [List.pairwise_append, List.pairwise_cons]
    refine ⟨ha.1, ⟨fun e he => ?_, ha.2.1⟩, fun a hA b hB => ?_⟩
    · cases hd : d.ownBlock with
      | none => exact .inl rfl
      | some g => exact .inr fun q => hnew g hd e (List.mem_of_mem_drop he) q.symm
    · rcases List.mem_cons.1 hB with rfl | hB
      · cases hd : a.ownBlock with
        | none => exact .inl rfl
        | some g => exact .inr fun q => hnew g q.symm a (List.mem_of_mem_take hA) hd
      · exact ha.2.2 a hA b hB
theorem insert_any (base : Nat) (sv : Value) (os : List OpD) (dl : List Value) (x : OpD) (da : Option Addr) (dn dc : Nat) (W0 : World) (ho : OwnO W0 base sv os dl) (hl : os.length ≤ 16) (hbase : base ≤ W0.heap.size) (hd1 : ∀ d ∈ dl, d.oneCell' = true) (p : Nat) (hp : p ≤ os.length) :
    Calls Tryd.prog 45 #[sv, .int .i64 (p : Int), .slice (some ⟨W0.heap.size, 0, none⟩) 1 1] (W0.alloc (objO x da dn dc)) (InsPost base sv os dl x (.slice da dn dc) p W0) := by
  obtain ⟨a, n, cap, rfl, hn, hnc, hf⟩ := ho.form
  by_cases hpn : p = n
  · subst hpn
    exact insert_end base a p cap os dl x da dn dc W0 ho hn hnc (by omega) hbase
  · rcases ho.own.2 with ⟨e, h0⟩ | ⟨g, cap', cur, e, h1, h2⟩
    · omega
    · injection e with e1 e2 e3
      subst e1
      by_cases hr : n + 1 ≤ cap
      · exact insert_room base g n cap p os dl x da dn dc W0 ho (by omega) hr (by omega) hd1
      · exact insert_grow base g n cap p os dl x da dn dc W0 ho (by omega) (by omega) (by omega) hbase hd1
set_option maxHeartbeats 8000000 in
set_option maxRecDepth 100000 in
theorem take_full (va : Option Addr) (v : List Int) (vn vc : Nat) (ha : Option Addr) (hs : List OpD) (n c : Nat) (o : OpD) (oa : Option Addr) (oc : Nat) (w : World) (ht : Pr.Tab w) (hv : RowK .i64 w va v) (hvn : vn = v.length) (hvl : v.length ≤ 140737488355328) (hr : RowO w ha hs) (hn : n = hs.length) (hl : hs.length * 120 ≤ 140737488355328) (hnc : n ≤ c) (hro : RowK .i64 w oa o.1.ds) (hol : o.1.ds.length ≤ 17592186044416) (hh : heldB v hs = true) (hf : fitsB v o = true) (hk : knownB v hs o = false) (hrd : readyB v o = false) (hfull : (decide (16 ≤ hs.length) || stampB hs o) = true) :
    Calls Tryd.prog 18 #[.slice va vn vc, .slice ha n c, valO o oa o.1.ds.length oc] w (TakeErr 5 w) := by
  have mixed : Tryd.prog.follows .mixedOrders = true := by kernel_rfl
  have HB0 := Lib.hid (box_bel w (objO o oa o.1.ds.length oc))
  have HA0 := Lib.hid (OpX.new w o oa o.1.ds.length oc)
  have HV := Lib.hid (fun W (hb : Below w.heap.size w W) => hv.below hb (Nat.le_refl _))
  have HT := Lib.hid (fun W (hb : Below w.heap.size w W) => ht.below hb ht.lt)
  have HR := Lib.hid (fun W (hb : Below w.heap.size w W) => hr.below hb)
  have HRO := Lib.hid (fun W (hb : Below w.heap.size w W) => hro.below hb (Nat.le_refl _))
  have C1 := Lib.hid (hcheck_any va v vn vc ha hs n c (w.alloc (objO o oa o.1.ds.length oc)) (HT.out _ HB0.out) (HV.out _ HB0.out) hvn hvl (HR.out _ HB0.out) hn hl hnc)
  rw [hh] at C1
  have C2 := Lib.hid (fun W (hb : Below w.heap.size w W) => ready_yes va v vn vc o oa o.1.ds.length oc W (HT.out W hb) (HV.out W hb) hvn (HRO.out W hb) rfl hf)
  have C3 := Lib.hid (fun W (hb : Below w.heap.size w W) => known_any va v vn vc ha hs n c o oa o.1.ds.length oc W (HV.out W hb) hvn (HR.out W hb) hn hl hf)
  rw [hk] at C3
  rw [hrd] at C2
  have h16 := (held_iff.1 hh).2.1
  have C4 := Lib.hid (fun W (hb : Below w.heap.size w W) => search_any ha hs n c o oa o.1.ds.length oc W (HR.out W hb) hn (by omega) (held_srt hh))
  have hsrt := held_srt hh
  have HST := Lib.hid (fun p (hp : PosIs hs o p) => here_stamp hsrt hp)
  obtain ⟨sb, hsb⟩ : ∃ sb, stampB hs o = sb := ⟨_, rfl⟩
  rw [hsb] at HST hfull
  have hnz : sb = true ∨ (sb = false ∧ ((n : Int) == 16) = true) := by
    cases sb
    · right
      rw [Bool.or_false, decide_eq_true_eq] at hfull
      exact ⟨rfl, by rw [beq_iff_eq]; omega⟩
    · left; rfl
  clear hv ht hr hro hvl hl hol hvn hn hh hf hk hrd h16 hsb hfull hsrt
  go_enter Tryd.func18, Tryd.ntmps18
  go_wp2_with fail
  refine (C1.out).mono ?_
  rintro e w1 ⟨rfl, hb⟩
  have HA1 := Lib.hid (HA0.out.next hb)
  have HB1 := Lib.hid (HB0.out.trans (hb.mono HB0.out.size))
  clear hb
  obtain ⟨c0, c1, c2, c3, c4, c5, c6, c7, c8, c9, c10, c11⟩ := HA1.out
  go_wp2_with fail
  refine (C2.out _ HB1.out).mono ?_
  rintro e w2 ⟨rfl, hb⟩
  have HA2 := Lib.hid (HA1.out.next hb)
  have HB2 := Lib.hid (HB1.out.trans (hb.mono HB1.out.size))
  clear hb c0 c1 c2 c3 c4 c5 c6 c7 c8 c9 c10 c11
  obtain ⟨c0, c1, c2, c3, c4, c5, c6, c7, c8, c9, c10, c11⟩ := HA2.out
  go_wp2_with fail
  refine (C3.out _ HB2.out).mono ?_
  rintro e w3 ⟨rfl, hb⟩
  have HA3 := Lib.hid (HA2.out.next hb)
  have HB3 := Lib.hid (HB2.out.trans (hb.mono HB2.out.size))
  clear hb c0 c1 c2 c3 c4 c5 c6 c7 c8 c9 c10 c11
  obtain ⟨c0, c1, c2, c3, c4, c5, c6, c7, c8, c9, c10, c11⟩ := HA3.out
  go_wp2_with fail
  refine (C4.out _ HB3.out).mono ?_
  rintro e w4 ⟨p, rfl, hp, hb4⟩
  have HP := Lib.hid hp
  have HB4 := Lib.hid (HB3.out.trans (hb4.mono HB3.out.size))
  have HA4 := Lib.hid (HA3.out.next hb4)
  clear hb4 hp c0 c1 c2 c3 c4 c5 c6 c7 c8 c9 c10 c11
  obtain ⟨c0, c1, c2, c3, c4, c5, c6, c7, c8, c9, c10, c11⟩ := HA4.out
  rw [HST.out p HP.out]
  rcases hnz with rfl | ⟨rfl, hnz⟩
  · go_wp2
    refine bodyPost_ret (Pr.results_tmp4 rfl _ _ _) rfl ?_
    exact ⟨rfl, HB4.out⟩
  · go_wp2
    refine bodyPost_ret (Pr.results_tmp4 rfl _ _ _) rfl ?_
    exact ⟨rfl, HB4.out⟩
theorem heldS_mk {w w4 W : World} {o : OpD} {oa : Option Addr} {on oc : Nat} (h : OpX w4 w.heap.size 0 o oa on oc) (hb : Below w4.heap.size w4 W) : W.cell? ⟨w.heap.size, 0, none⟩ = some (.int .i64 o.1.t) ∧ W.cell? ⟨w.heap.size, 0 + 1, none⟩ = some (.int .i64 o.1.r) ∧ W.cell? ⟨w.heap.size, 0 + 2, none⟩ = some (.int .i64 o.2) ∧ W.cell? ⟨w.heap.size, 0 + 3, none⟩ = some (.slice oa on oc) ∧ W.cell? ⟨w.heap.size, 0 + 4, none⟩ = some (.int .i64 o.1.k) ∧ W.cell? ⟨w.heap.size, 0 + 5, none⟩ = some (.int .i64 o.1.nt) ∧ W.cell? ⟨w.heap.size, 0 + 6, none⟩ = some (.int .i64 o.1.nr) ∧ W.cell? ⟨w.heap.size, 0 + 7, none⟩ = some (.int .i64 o.1.pt) ∧ W.cell? ⟨w.heap.size, 0 + 8, none⟩ = some (.int .i64 o.1.pr) ∧ W.cell? ⟨w.heap.size, 0 + 9, none⟩ = some (.string o.1.s) ∧ W.cell? ⟨w.heap.size, 0 + 10, none⟩ = some (.int .i64 o.1.p) ∧ W.cell? ⟨w.heap.size, 0 + 11, none⟩ = some (.int .i64 o.1.v) ∧ Hid (Below w4.heap.size w4 W) := by
  have a := h.next hb
  exact ⟨a.c0, a.c1, a.c2, a.c3, a.c4, a.c5, a.c6, a.c7, a.c8, a.c9, a.c10, a.c11, hb⟩
set_option maxHeartbeats 8000000 in
set_option maxRecDepth 100000 in
theorem take_held (va : Option Addr) (v : List Int) (vn vc : Nat) (ha : Option Addr) (hs : List OpD) (n c : Nat) (o : OpD) (oa : Option Addr) (oc : Nat) (w : World) (ht : Pr.Tab w) (hv : RowK .i64 w va v) (hvn : vn = v.length) (hvl : v.length ≤ 140737488355328) (hr : RowO w ha hs) (hn : n = hs.length) (hl : hs.length * 120 ≤ 140737488355328) (hnc : n ≤ c) (hro : RowK .i64 w oa o.1.ds) (hol : o.1.ds.length ≤ 17592186044416) (hh : heldB v hs = true) (hf : fitsB v o = true) (hk : knownB v hs o = false) (hrd : readyB v o = false) (hfull : (decide (16 ≤ hs.length) || stampB hs o) = false) (q : Nat) (hpos : PosIs hs o q) :
    Calls Tryd.prog 18 #[.slice va vn vc, .slice ha n c, valO o oa o.1.ds.length oc] w (HTake v (hs.take q ++ o :: hs.drop q) [] w) := by
  have mixed : Tryd.prog.follows .mixedOrders = true := by kernel_rfl
  have HB0 := Lib.hid (box_bel w (objO o oa o.1.ds.length oc))
  have HA0 := Lib.hid (OpX.new w o oa o.1.ds.length oc)
  have HV := Lib.hid (fun W (hb : Below w.heap.size w W) => hv.below hb (Nat.le_refl _))
  have HT := Lib.hid (fun W (hb : Below w.heap.size w W) => ht.below hb ht.lt)
  have HR := Lib.hid (fun W (hb : Below w.heap.size w W) => hr.below hb)
  have HRO := Lib.hid (fun W (hb : Below w.heap.size w W) => hro.below hb (Nat.le_refl _))
  have C1 := Lib.hid (hcheck_any va v vn vc ha hs n c (w.alloc (objO o oa o.1.ds.length oc)) (HT.out _ HB0.out) (HV.out _ HB0.out) hvn hvl (HR.out _ HB0.out) hn hl hnc)
  rw [hh] at C1
  have C2 := Lib.hid (fun W (hb : Below w.heap.size w W) => ready_yes va v vn vc o oa o.1.ds.length oc W (HT.out W hb) (HV.out W hb) hvn (HRO.out W hb) rfl hf)
  have C3 := Lib.hid (fun W (hb : Below w.heap.size w W) => known_any va v vn vc ha hs n c o oa o.1.ds.length oc W (HV.out W hb) hvn (HR.out W hb) hn hl hf)
  rw [hk] at C3
  rw [hrd] at C2
  have h16 := (held_iff.1 hh).2.1
  have C4 := Lib.hid (fun W (hb : Below w.heap.size w W) => search_any ha hs n c o oa o.1.ds.length oc W (HR.out W hb) hn (by omega) (held_srt hh))
  have hsrt := held_srt hh
  have hst0 : stampB hs o = false := by cases h1 : stampB hs o <;> simp [h1] at hfull ⊢
  have HST := Lib.hid (fun p (hp : PosIs hs o p) => here_stamp hsrt hp)
  rw [hst0] at HST
  have hnz : ((n : Int) == 16) = false := by
    rw [hst0, Bool.or_false, decide_eq_false_iff_not] at hfull
    exact beq_eq_false_iff_ne.2 (by omega)
  have HPQ := Lib.hid hpos
  have hvl1 := Hv.vecB_len (fits_iff.1 hf).1
  have hok := (fits_iff.1 hf).2.1
  have C5 := Lib.hid (fun W (hb : Below w.heap.size w W) => clone_any va v vn vc W (HV.out W hb) hvn hvl1.1 (by omega))
  have C6 := Lib.hid (fun W (hb : Below w.heap.size w W) => above_any va v vn vc ha hs n c W (HV.out W hb) hvn (HR.out W hb) hn hl (held_sizes hh))
  rw [held_new hh] at C6
  have C7 := Lib.hid (fun W (hb : Below w.heap.size w W) => copied_any o oa oc W (HRO.out W hb) hok)
  have H16 := Lib.hid h16
  have HOL := Lib.hid hol
  obtain ⟨on, hon⟩ : ∃ on, o.1.ds.length = on := ⟨_, rfl⟩
  have HON := Lib.hid hon
  rw [hon] at C2 C3 C4 HA0 HB0 C1 C7 ⊢
  clear hv ht hr hro hvl hl hol hvn hn hh hf hk hrd h16 hsrt hst0 hfull hvl1 hok hpos hon
  go_enter Tryd.func18, Tryd.ntmps18
  go_wp2_with fail
  refine (C1.out).mono ?_
  rintro e w1 ⟨rfl, hb⟩
  have HA1 := Lib.hid (HA0.out.next hb)
  have HB1 := Lib.hid (HB0.out.trans (hb.mono HB0.out.size))
  clear hb
  obtain ⟨c0, c1, c2, c3, c4, c5, c6, c7, c8, c9, c10, c11⟩ := HA1.out
  go_wp2_with fail
  refine (C2.out _ HB1.out).mono ?_
  rintro e w2 ⟨rfl, hb⟩
  have HA2 := Lib.hid (HA1.out.next hb)
  have HB2 := Lib.hid (HB1.out.trans (hb.mono HB1.out.size))
  clear hb c0 c1 c2 c3 c4 c5 c6 c7 c8 c9 c10 c11
  obtain ⟨c0, c1, c2, c3, c4, c5, c6, c7, c8, c9, c10, c11⟩ := HA2.out
  go_wp2_with fail
  refine (C3.out _ HB2.out).mono ?_
  rintro e w3 ⟨rfl, hb⟩
  have HA3 := Lib.hid (HA2.out.next hb)
  have HB3 := Lib.hid (HB2.out.trans (hb.mono HB2.out.size))
  clear hb c0 c1 c2 c3 c4 c5 c6 c7 c8 c9 c10 c11
  obtain ⟨c0, c1, c2, c3, c4, c5, c6, c7, c8, c9, c10, c11⟩ := HA3.out
  go_wp2_with fail
  refine (C4.out _ HB3.out).mono ?_
  rintro e w4 ⟨p, rfl, hp, hb4⟩
  have HP := Lib.hid hp
  have HB4 := Lib.hid (HB3.out.trans (hb4.mono HB3.out.size))
  have HA4 := Lib.hid (HA3.out.next hb4)
  clear hb4 hp c0 c1 c2 c3 c4 c5 c6 c7 c8 c9 c10 c11
  obtain ⟨c0, c1, c2, c3, c4, c5, c6, c7, c8, c9, c10, c11⟩ := HA4.out
  rw [HST.out p HP.out]
  obtain rfl : p = q := pos_uniq HP.out HPQ.out
  have HS := Lib.hid (fun W (hb : Below w4.heap.size w4 W) => (heldS_mk HA4.out hb : W.cell? ⟨w.heap.size, 0, none⟩ = some (.int .i64 o.1.t) ∧ W.cell? ⟨w.heap.size, 0 + 1, none⟩ = some (.int .i64 o.1.r) ∧ W.cell? ⟨w.heap.size, 0 + 2, none⟩ = some (.int .i64 o.2) ∧ W.cell? ⟨w.heap.size, 0 + 3, none⟩ = some (.slice oa on oc) ∧ W.cell? ⟨w.heap.size, 0 + 4, none⟩ = some (.int .i64 o.1.k) ∧ W.cell? ⟨w.heap.size, 0 + 5, none⟩ = some (.int .i64 o.1.nt) ∧ W.cell? ⟨w.heap.size, 0 + 6, none⟩ = some (.int .i64 o.1.nr) ∧ W.cell? ⟨w.heap.size, 0 + 7, none⟩ = some (.int .i64 o.1.pt) ∧ W.cell? ⟨w.heap.size, 0 + 8, none⟩ = some (.int .i64 o.1.pr) ∧ W.cell? ⟨w.heap.size, 0 + 9, none⟩ = some (.string o.1.s) ∧ W.cell? ⟨w.heap.size, 0 + 10, none⟩ = some (.int .i64 o.1.p) ∧ W.cell? ⟨w.heap.size, 0 + 11, none⟩ = some (.int .i64 o.1.v) ∧ Hid (Below w4.heap.size w4 W)))
  have HBT := Lib.hid (fun W (hb : Below w4.heap.size w4 W) => HB4.out.trans (hb.mono HB4.out.size))
  have hS0 := HS.out _ (Below.refl w4.heap.size w4).drew
  clear c0 c1 c2 c3 c4 c5 c6 c7 c8 c9 c10 c11
  go_wp2_with fail
  go_region_held3 (fun W => W.cell? ⟨w.heap.size, 0, none⟩ = some (.int .i64 o.1.t) ∧ W.cell? ⟨w.heap.size, 0 + 1, none⟩ = some (.int .i64 o.1.r) ∧ W.cell? ⟨w.heap.size, 0 + 2, none⟩ = some (.int .i64 o.2) ∧ W.cell? ⟨w.heap.size, 0 + 3, none⟩ = some (.slice oa on oc) ∧ W.cell? ⟨w.heap.size, 0 + 4, none⟩ = some (.int .i64 o.1.k) ∧ W.cell? ⟨w.heap.size, 0 + 5, none⟩ = some (.int .i64 o.1.nt) ∧ W.cell? ⟨w.heap.size, 0 + 6, none⟩ = some (.int .i64 o.1.nr) ∧ W.cell? ⟨w.heap.size, 0 + 7, none⟩ = some (.int .i64 o.1.pt) ∧ W.cell? ⟨w.heap.size, 0 + 8, none⟩ = some (.int .i64 o.1.pr) ∧ W.cell? ⟨w.heap.size, 0 + 9, none⟩ = some (.string o.1.s) ∧ W.cell? ⟨w.heap.size, 0 + 10, none⟩ = some (.int .i64 o.1.p) ∧ W.cell? ⟨w.heap.size, 0 + 11, none⟩ = some (.int .i64 o.1.v) ∧ Hid (Below w4.heap.size w4 W)) (with_reducible assumption) (first
    | (go_at_call 40
       (with_reducible refine (C5.out _ (HBT.out _ (Below.refl w4.heap.size w4).drew)).mono ?_)
       rintro e w5 ⟨wv, rfl, ho5, hb5⟩
       have HE5 := Lib.hid ((Below.refl w4.heap.size w4).drew.trans hb5)
       have HO5 := Lib.hid ho5
       have hS5 := HS.out w5 HE5.out
       clear ho5 hb5)
    | (go_at_call 41
       (with_reducible refine (C6.out _ (HBT.out _ HE5.out)).mono ?_)
       rintro e w6 ⟨lv, dl, rfl, ho6, hd6, hb6⟩
       have HE6 := Lib.hid (HE5.out.trans (hb6.mono HE5.out.size))
       have HO6 := Lib.hid (HO5.out.below hb6)
       have HL6 := Lib.hid ho6
       have HD6 := Lib.hid hd6
       have hS6 := HS.out w6 HE6.out
       have HZ6 : Hid (w5.heap.size ≤ w6.heap.size) := hb6.size
       clear ho6 hd6 hb6)
    | (go_at_call 46
       (with_reducible refine (C7.out _ (HBT.out _ HE6.out)).mono ?_)
       rintro e w7 ⟨oa7, oc7, rfl, ho7, hb7⟩
       have HE7 := Lib.hid (HE6.out.trans (hb7.mono HE6.out.size))
       have HO7 := Lib.hid (HO6.out.below hb7)
       have HL7 := Lib.hid (HL6.out.below hb7)
       have HD7 := Lib.hid (HD6.out.below hb7)
       have HX7 := Lib.hid ho7
       have hS7 := HS.out w7 HE7.out
       have hS8 := HS.out (w7.alloc (objO o oa7 o.1.ds.length oc7)) (HE7.out.alloc HE7.out.size _)
       have C8 := Lib.hid (insert_any w5.heap.size lv hs dl o oa7 o.1.ds.length oc7 w7 HL7.out H16.out (by have h1 := HZ6.out; have h2 := hb7.size; omega) (depsO_one HD7.out HL7.out.len) p HP.out.1)
       clear ho7 hb7)
    | (go_at_call 45
       (with_reducible refine (C8.out).mono ?_)
       rintro e w8 ⟨tv, rfl, ho8, hg8⟩
       have HE8 := Lib.hid (HE7.out.grown hg8 HE7.out.size (fun g hg => by have h1 := (HL7.out.lt hg).1; have h2 := HE5.out.size; omega))
       have HT8 := Lib.hid ho8
       have HG8 := Lib.hid hg8
       have hS9 := HS.out w8 HE8.out
       clear ho8 hg8))
  go_wp2
  refine bodyPost_ret (Pr.results_tmp4 rfl _ _ _) rfl ?_
  have ha1 := apart_types HO7.out HL7.out
  have ha2 := apart_types HX7.out HL7.out
  have hz6 := HZ6.out
  have hz4 := HB4.out.size
  have hb56 : w4.heap.size ≤ w5.heap.size := HE5.out.size
  refine ⟨wv, tv, _, rfl, w5.heap.size, dl.take p ++ _ :: dl.drop p, [], (HO7.out.grown HG8.out ha1).mono hz4, HT8.out, DepsO.insert (HD7.out.grown HL7.out HG8.out) HL7.out.len ((HX7.out.grown HG8.out ha2).mono hz6) HOL.out (fun g hg e he hge => ?_) p HP.out.1, OwnO.nil _ _, DepsO.nil _ _, fun x hx => by simp at hx, fun g hg => (HO5.out.lt hg).2, fun g hg => by simp [Value.ownBlock] at hg, fun x hx => by simp at hx, by omega, HBT.out w8 HE8.out⟩
  have h1 := (HX7.out.lt hg).1
  have h2 := deps_lt HD6.out HL6.out.len he hge
  omega
end Go.Proofs.YtdpopdlifcjdeaaDoor
