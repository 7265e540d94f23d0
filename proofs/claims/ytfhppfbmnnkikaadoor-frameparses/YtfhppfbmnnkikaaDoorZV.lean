/- Joined: G26 G27. -/
import Derived.Test.YtfhppfbmnnkikaaDoorZM
import Derived.Test.YtfhppfbmnnkikaaDoorZF
import Derived.Laws.OwnMore
import Derived.Test.YtfhppfbmnnkikaaDoorZW
import Derived.Test.YtfhppfbmnnkikaaDoorZY

/- A frame written over. -/
namespace Go.Proofs.YtfhppfbmnnkikaaDoor
open Go.RowKit Go.Lib
set_option linter.unusedVariables false


set_option maxHeartbeats 400000 in
theorem overOp_any (t r q : Int) (da : Option Addr) (ds : List Int) (dn dc : Nat) (kd nt nr pt pr : Int) (s : ByteArray) (p v : Int) (base : Nat) (w : World) (hv : OwnK .i64 3 w base (.slice da dn dc) ds) (hbase : base ≤ w.heap.size) (hl : ds.length ≤ 65536) : Calls Tryd.prog 82 #[.agg #[.int .i64 t, .int .i64 r, .int .i64 q, .slice da dn dc, .int .i64 kd, .int .i64 nt, .int .i64 nr, .int .i64 pt, .int .i64 pr, .string s, .int .i64 p, .int .i64 v]] w (OverPost w (.slice da dn dc)) := by
  have C := Lib.hid (over_any (.slice da dn dc) base ds (w.alloc (.cells #[.int .i64 t, .int .i64 r, .int .i64 q, .slice da dn dc, .int .i64 kd, .int .i64 nt, .int .i64 nr, .int .i64 pt, .int .i64 pr, .string s, .int .i64 p, .int .i64 v] 27)) (hv.alloc _) (by rw [World.size_alloc]; omega) hl)
  clear hv hbase hl
  go_enter Tryd.func82, Tryd.ntmps82
  go_wp2_with fail
  refine (C.out).mono ?_
  rintro e w1 ⟨rfl, hg⟩
  have HGR := Lib.hid ((World.grownBy_alloc w _ _).trans hg)
  clear hg
  go_wp2
  go_end0
  exact ⟨rfl, HGR.out⟩
theorem op_build9 (w : World) : (Instr.build 27 #[(1, .int .i64 (-9))]).run Tryd.prog w = .ok (.agg #[.int .i64 0, .int .i64 0, .int .i64 (-9), .slice none 0 0, .int .i64 0, .int .i64 0, .int .i64 0, .int .i64 0, .int .i64 0, .string ⟨#[]⟩, .int .i64 0, .int .i64 0]) w := run_build w 27 _ _ (by kernel_rfl)
/-- what is left to be written over -/
structure SpI (w W : World) (base gq n cap i : Nat) (os : List OpD) (dl : List Value) (L : List Value) : Prop where
  own : W.ownsRow base 27 12 (.slice (some ⟨gq, 0, none⟩) n cap) n L
  row : ∀ (j : Nat) (x : OpD) (d : Value) (c : Nat) (u : Value), i ≤ j → os[j]? = some x → dl[j]? = some d → (x.1.cells x.2 d)[c]? = some u → L[j * 12 + c]? = some u
  dep : ∀ (j : Nat) (x : OpD) (d : Value), i ≤ j → os[j]? = some x → dl[j]? = some d → OwnK .i64 3 W base d x.1.ds
  bel : Below base w W
  size : w.heap.size ≤ W.heap.size
set_option maxHeartbeats 4000000 in
set_option maxRecDepth 100000 in
theorem spoilOps_any (o : Value) (os : List OpD) (dl : List Value) (base : Nat) (w : World) (ho : OwnO w base o os dl) (hd : DepsO w base os dl) (hs : ∀ x ∈ os, x.1.ds.length ≤ 65536) (hl : os.length ≤ 8) (hbase : base ≤ w.heap.size) : Calls Tryd.prog 56 #[o] w (SpoilPost w base) := by
  rcases ho.own.2 with ⟨rfl, h0⟩ | ⟨gq, cap, cur, e, hg, hh, hnc, hcm, hcs, htk⟩
  · clear ho hd hs
    go_enter Tryd.func56, Tryd.ntmps56
    go_wp2
    refine wp_loop_rounds 1 ?_
    rw [rounds_succ]
    go_wp2
    go_end0
    exact ⟨rfl, Below.refl _ _⟩
  · subst e
    obtain ⟨n, hn⟩ : ∃ n, n = os.length := ⟨_, rfl⟩
    have HN := Lib.hid hn
    have HLEN := Lib.hid ho.len
    have HGQ := Lib.hid hg
    have HAP := Lib.hid hd.apart
    have HS := Lib.hid hs
    have hn8 : n ≤ 8 := by omega
    have HNQ : Hid (∀ (j : Nat) (x : OpD) (d : Value), os[j]? = some x → dl[j]? = some d → d.ownBlock = none ∨ d.ownBlock ≠ some gq) := fun j x d hx hd' => apart_types (hd.own j x d hx hd').1 ho
    have HI0 : Hid (SpI w w base gq n cap 0 os dl (cellsO os dl)) := ⟨by rw [hn]; exact ho.own, fun j x d c u _ hx hd' hu => cellsO_at j hx hd' c u hu, fun j x d _ hx hd' => (hd.own j x d hx hd').1, Below.refl _ _, Nat.le_refl _⟩
    have HBS := Lib.hid hbase
    rw [← hn]
    clear ho hd hs hl hh hnc hcm hcs htk hg hn hbase
    have hb9 := op_build9
    go_enter Tryd.func56, Tryd.ntmps56
    go_wp2
    go_loopg [2] n (fun g1 v wr => ∃ (i : Nat) (L : List Value), v = .int .i64 i ∧ i ≤ n ∧ n - i ≤ g1 ∧ Hid (SpI w wr base gq n cap i os dl L))
    case atStart => exact ⟨0, _, rfl, by omega, by omega, HI0⟩
    case round =>
      clear HI0
      obtain ⟨i, L, rfl, hi, hg1, HI⟩ := hrel
      by_cases hin : i < n
      · have hinz : (i : Int) < (n : Int) := by omega
        obtain ⟨x, hx⟩ : ∃ x, os[i]? = some x := ⟨_, List.getElem?_eq_getElem (by rw [← HN.out]; exact hin)⟩
        obtain ⟨d, hd⟩ : ∃ d, dl[i]? = some d := ⟨_, List.getElem?_eq_getElem (by rw [HLEN.out, ← HN.out]; exact hin)⟩
        have HX := Lib.hid hx
        have HD := Lib.hid hd
        have hown := HI.out.dep i x d (Nat.le_refl _) hx hd
        obtain ⟨da, dc, rfl, -⟩ := hown.form
        have hrow := fun c u hu => HI.out.row i x _ c u (Nat.le_refl _) hx hd hu
        have hsm := HS.out x (List.mem_of_getElem? hx)
        obtain ⟨⟨t, r, ds, kd, nt, nr, pt, pr, s, p, v⟩, q⟩ := x
        have hcl := fun c u (hc : c < 12) hu => (World.ownsRow.cellAt HI.out.own (i * 12 + c) (by omega)).trans (hrow c u hu)
        simp only at hown hsm
        have C := Lib.hid (overOp_any t r q da ds ds.length dc kd nt nr pt pr s p v base wr hown (Nat.le_trans HBS.out HI.out.size) hsm)
        have c0 : wr.cell? ⟨gq, i * 12, none⟩ = some (.int .i64 t) := hcl 0 _ (by omega) rfl
        have c1 : wr.cell? ⟨gq, i * 12 + 1, none⟩ = some (.int .i64 r) := hcl 1 _ (by omega) rfl
        have c2 : wr.cell? ⟨gq, i * 12 + 2, none⟩ = some (.int .i64 q) := hcl 2 _ (by omega) rfl
        have c3 : wr.cell? ⟨gq, i * 12 + 3, none⟩ = some (.slice da ds.length dc) := hcl 3 _ (by omega) rfl
        have c4 : wr.cell? ⟨gq, i * 12 + 4, none⟩ = some (.int .i64 kd) := hcl 4 _ (by omega) rfl
        have c5 : wr.cell? ⟨gq, i * 12 + 5, none⟩ = some (.int .i64 nt) := hcl 5 _ (by omega) rfl
        have c6 : wr.cell? ⟨gq, i * 12 + 6, none⟩ = some (.int .i64 nr) := hcl 6 _ (by omega) rfl
        have c7 : wr.cell? ⟨gq, i * 12 + 7, none⟩ = some (.int .i64 pt) := hcl 7 _ (by omega) rfl
        have c8 : wr.cell? ⟨gq, i * 12 + 8, none⟩ = some (.int .i64 pr) := hcl 8 _ (by omega) rfl
        have c9 : wr.cell? ⟨gq, i * 12 + 9, none⟩ = some (.string s) := hcl 9 _ (by omega) rfl
        have c10 : wr.cell? ⟨gq, i * 12 + 10, none⟩ = some (.int .i64 p) := hcl 10 _ (by omega) rfl
        have c11 : wr.cell? ⟨gq, i * 12 + 11, none⟩ = some (.int .i64 v) := hcl 11 _ (by omega) rfl
        have HDX : Hid (∀ (j : Nat) (y : OpD) (d' : Value), i + 1 ≤ j → os[j]? = some y → dl[j]? = some d' → d'.ownBlock = none ∨ d'.ownBlock ≠ (Value.slice da ds.length dc).ownBlock) := fun j y d' hj _ hd' => by
          have hl1 := (List.getElem?_eq_some_iff.1 HD.out).1
          have hl2 := (List.getElem?_eq_some_iff.1 hd').1
          have := List.pairwise_iff_getElem.1 HAP.out i j hl1 hl2 (by omega)
          rw [(List.getElem?_eq_some_iff.1 HD.out).2, (List.getElem?_eq_some_iff.1 hd').2] at this
          rcases this with h | h
          · cases hdb : d'.ownBlock with
            | none => exact .inl rfl
            | some k => rw [h]; right; simp
          · exact .inr (Ne.symm h)
        have HQN := Lib.hid (HNQ.out i _ _ HX.out HD.out)
        clear hx hd hown hrow hsm hcl
        generalize hdl : ds.length = dn at *
        go_wp2_with fail
        refine (C.out).mono ?_
        rintro e w1 ⟨rfl, hgr⟩
        have HO1 : Hid (w1.ownsRow base 27 12 (.slice (some ⟨gq, 0, none⟩) n cap) n L) := World.ownsRow.kept HI.out.own hgr (by right; intro e; rcases HQN.out with h | h; rw [h] at e; cases e; exact h e.symm)
        have HBL : Hid (Below base w w1) := by
          refine ⟨hgr.os.trans HI.out.bel.os, hgr.tape.trans HI.out.bel.tape, hgr.output.trans HI.out.bel.output, Nat.le_trans HI.out.bel.size hgr.size, fun k hk => (hgr.block k (by have h1 := HBS.out; have h2 := HI.out.size; omega) (fun e => ?_)).trans (HI.out.bel.block k hk)⟩
          have := ((HI.out.dep i _ _ (Nat.le_refl _) HX.out HD.out).lt e.symm).1
          omega
        have HGR := Lib.hid hgr
        have hfr := fun j => World.ownsRow.frozenAt HO1.out j
        have hce := fun j (hj : j < n * 12) => World.ownsRow.cellAt HO1.out j hj
        have hLl : L.length = n * 12 := HO1.out.1
        have hcx : ∀ j, j < n * 12 → ∃ u, w1.cell? ⟨gq, j, none⟩ = some u := fun j hj => ⟨_, (hce j hj).trans (List.getElem?_eq_getElem (by omega))⟩
        obtain ⟨z0, e0⟩ := hcx (i * 12) (by omega)
        have f0 := hfr (i * 12)
        obtain ⟨z1, e1⟩ := hcx (i * 12 + 1) (by omega)
        have f1 := hfr (i * 12 + 1)
        obtain ⟨z2, e2⟩ := hcx (i * 12 + 2) (by omega)
        have f2 := hfr (i * 12 + 2)
        obtain ⟨z3, e3⟩ := hcx (i * 12 + 3) (by omega)
        have f3 := hfr (i * 12 + 3)
        obtain ⟨z4, e4⟩ := hcx (i * 12 + 4) (by omega)
        have f4 := hfr (i * 12 + 4)
        obtain ⟨z5, e5⟩ := hcx (i * 12 + 5) (by omega)
        have f5 := hfr (i * 12 + 5)
        obtain ⟨z6, e6⟩ := hcx (i * 12 + 6) (by omega)
        have f6 := hfr (i * 12 + 6)
        obtain ⟨z7, e7⟩ := hcx (i * 12 + 7) (by omega)
        have f7 := hfr (i * 12 + 7)
        obtain ⟨z8, e8⟩ := hcx (i * 12 + 8) (by omega)
        have f8 := hfr (i * 12 + 8)
        obtain ⟨z9, e9⟩ := hcx (i * 12 + 9) (by omega)
        have f9 := hfr (i * 12 + 9)
        obtain ⟨z10, e10⟩ := hcx (i * 12 + 10) (by omega)
        have f10 := hfr (i * 12 + 10)
        obtain ⟨z11, e11⟩ := hcx (i * 12 + 11) (by omega)
        have f11 := hfr (i * 12 + 11)
        have HI2 : Hid (SpI w ((((((((((((w1.setCell ⟨gq, i * 12, none⟩ (.int .i64 0)).setCell ⟨gq, i * 12 + 1, none⟩ (.int .i64 0)).setCell ⟨gq, i * 12 + 2, none⟩ (.int .i64 (-9))).setCell ⟨gq, i * 12 + 3, none⟩ (.slice none 0 0)).setCell ⟨gq, i * 12 + 4, none⟩ (.int .i64 0)).setCell ⟨gq, i * 12 + 5, none⟩ (.int .i64 0)).setCell ⟨gq, i * 12 + 6, none⟩ (.int .i64 0)).setCell ⟨gq, i * 12 + 7, none⟩ (.int .i64 0)).setCell ⟨gq, i * 12 + 8, none⟩ (.int .i64 0)).setCell ⟨gq, i * 12 + 9, none⟩ (.string ⟨#[]⟩)).setCell ⟨gq, i * 12 + 10, none⟩ (.int .i64 0)).setCell ⟨gq, i * 12 + 11, none⟩ (.int .i64 0)) base gq n cap (i + 1) os dl ((((((((((((L.set (i * 12) (.int .i64 0)).set (i * 12 + 1) (.int .i64 0)).set (i * 12 + 2) (.int .i64 (-9))).set (i * 12 + 3) (.slice none 0 0)).set (i * 12 + 4) (.int .i64 0)).set (i * 12 + 5) (.int .i64 0)).set (i * 12 + 6) (.int .i64 0)).set (i * 12 + 7) (.int .i64 0)).set (i * 12 + 8) (.int .i64 0)).set (i * 12 + 9) (.string ⟨#[]⟩)).set (i * 12 + 10) (.int .i64 0)).set (i * 12 + 11) (.int .i64 0))) := by
          refine ⟨(World.ownsRow.stored (World.ownsRow.stored (World.ownsRow.stored (World.ownsRow.stored (World.ownsRow.stored (World.ownsRow.stored (World.ownsRow.stored (World.ownsRow.stored (World.ownsRow.stored (World.ownsRow.stored (World.ownsRow.stored (World.ownsRow.stored HO1.out (i * 12) (.int .i64 0)).1 (i * 12 + 1) (.int .i64 0)).1 (i * 12 + 2) (.int .i64 (-9))).1 (i * 12 + 3) (.slice none 0 0)).1 (i * 12 + 4) (.int .i64 0)).1 (i * 12 + 5) (.int .i64 0)).1 (i * 12 + 6) (.int .i64 0)).1 (i * 12 + 7) (.int .i64 0)).1 (i * 12 + 8) (.int .i64 0)).1 (i * 12 + 9) (.string ⟨#[]⟩)).1 (i * 12 + 10) (.int .i64 0)).1 (i * 12 + 11) (.int .i64 0)).1, fun j y d' c u hj hy hd' hu => ?_, fun j y d' hj hy hd' => ?_, ((((((((((((HBL.out.setCell (p := ⟨gq, i * 12, none⟩) HGQ.out (.int .i64 0)).setCell (p := ⟨gq, i * 12 + 1, none⟩) HGQ.out (.int .i64 0)).setCell (p := ⟨gq, i * 12 + 2, none⟩) HGQ.out (.int .i64 (-9))).setCell (p := ⟨gq, i * 12 + 3, none⟩) HGQ.out (.slice none 0 0)).setCell (p := ⟨gq, i * 12 + 4, none⟩) HGQ.out (.int .i64 0)).setCell (p := ⟨gq, i * 12 + 5, none⟩) HGQ.out (.int .i64 0)).setCell (p := ⟨gq, i * 12 + 6, none⟩) HGQ.out (.int .i64 0)).setCell (p := ⟨gq, i * 12 + 7, none⟩) HGQ.out (.int .i64 0)).setCell (p := ⟨gq, i * 12 + 8, none⟩) HGQ.out (.int .i64 0)).setCell (p := ⟨gq, i * 12 + 9, none⟩) HGQ.out (.string ⟨#[]⟩)).setCell (p := ⟨gq, i * 12 + 10, none⟩) HGQ.out (.int .i64 0)).setCell (p := ⟨gq, i * 12 + 11, none⟩) HGQ.out (.int .i64 0)), ?_⟩
          · have hc12 : c < 12 := by have := (List.getElem?_eq_some_iff.1 hu).1; rwa [cells12] at this
            have := HI.out.row j y d' c u (by omega) hy hd' hu
            rw [List.getElem?_set_ne (by omega), List.getElem?_set_ne (by omega), List.getElem?_set_ne (by omega), List.getElem?_set_ne (by omega), List.getElem?_set_ne (by omega), List.getElem?_set_ne (by omega), List.getElem?_set_ne (by omega), List.getElem?_set_ne (by omega), List.getElem?_set_ne (by omega), List.getElem?_set_ne (by omega), List.getElem?_set_ne (by omega), List.getElem?_set_ne (by omega)]
            exact this
          · have hnq := HNQ.out j y d' hy hd'
            exact ((((((((((((((HI.out.dep j y d' (by omega) hy hd').grown HGR.out (HDX.out j y d' hj hy hd')).grown (grown_setCell _ ⟨gq, i * 12, none⟩ (.int .i64 0)) hnq).grown (grown_setCell _ ⟨gq, i * 12 + 1, none⟩ (.int .i64 0)) hnq).grown (grown_setCell _ ⟨gq, i * 12 + 2, none⟩ (.int .i64 (-9))) hnq).grown (grown_setCell _ ⟨gq, i * 12 + 3, none⟩ (.slice none 0 0)) hnq).grown (grown_setCell _ ⟨gq, i * 12 + 4, none⟩ (.int .i64 0)) hnq).grown (grown_setCell _ ⟨gq, i * 12 + 5, none⟩ (.int .i64 0)) hnq).grown (grown_setCell _ ⟨gq, i * 12 + 6, none⟩ (.int .i64 0)) hnq).grown (grown_setCell _ ⟨gq, i * 12 + 7, none⟩ (.int .i64 0)) hnq).grown (grown_setCell _ ⟨gq, i * 12 + 8, none⟩ (.int .i64 0)) hnq).grown (grown_setCell _ ⟨gq, i * 12 + 9, none⟩ (.string ⟨#[]⟩)) hnq).grown (grown_setCell _ ⟨gq, i * 12 + 10, none⟩ (.int .i64 0)) hnq).grown (grown_setCell _ ⟨gq, i * 12 + 11, none⟩ (.int .i64 0)) hnq)
          · have h1 := HI.out.size
            have h2 := HGR.out.size
            simp only [World.size_setCell]
            omega
        clear hgr hfr hce hcx hLl C c0 c1 c2 c3 c4 c5 c6 c7 c8 c9 c10 c11
        go_wp2
        go_roundg (n - (i + 1))
        case measure => omega
        case rel => exact ⟨i + 1, _, by go_num, by omega, by omega, HI2⟩
      · have hinz : ¬ (i : Int) < (n : Int) := by omega
        go_wp2
        go_end0
        exact ⟨rfl, HI.out.bel⟩

theorem spoil_deps {w w' : World} {base : Nat} {F : FrD} {h o : Value} {dl : List Value} (k : FrO w base F h o dl) (hz : h = .slice none 0 0 ∨ F.os = []) (hg : w.grownBy w' h.ownBlock) : OwnO w' base o F.os dl ∧ DepsO w' base F.os dl := by
  constructor
  · refine k.ov.grown hg ?_
    rcases apart_types k.hv k.ov with e | e
    · rw [e]
      cases o.ownBlock with
      | none => exact .inl rfl
      | some g => right; simp
    · exact .inr (Ne.symm e)
  · rcases hz with rfl | e
    · refine ⟨fun i x d hi hd => ⟨(k.dv.own i x d hi hd).1.grown hg ?_, (k.dv.own i x d hi hd).2⟩, k.dv.apart⟩
      cases d.ownBlock with
      | none => exact .inl rfl
      | some g => right; simp [Value.ownBlock]
    · have hl := k.ov.len
      rw [e] at hl ⊢
      have : dl = [] := List.eq_nil_of_length_eq_zero hl
      rw [this]
      exact DepsO.nil _ _
set_option maxHeartbeats 1000000 in
set_option maxRecDepth 100000 in
theorem spoilF_any (F : FrD) (h o : Value) (dl : List Value) (base : Nat) (w : World) (k : FrO w base F h o dl) (hz : h = .slice none 0 0 ∨ F.os = []) (hs : ∀ x ∈ F.os, x.1.ds.length ≤ 65536) (hbase : base ≤ w.heap.size) : Calls Tryd.prog 27 #[.agg #[.int .i64 F.fr, .int .i64 F.tu, .int .i64 F.k, h, o]] w (SpoilPost w base) := by
  obtain ⟨ha, hn, hc, oa, on, oc, rfl, rfl, -⟩ := k.read
  have HL1 := Lib.hid (box_bel w (.cells #[.int .i64 F.fr, .int .i64 F.tu, .int .i64 F.k, .slice ha hn hc, .slice oa on oc] 40))
  have HA := Lib.hid (FrAt.new w F.fr F.tu F.k ha hn hc oa on oc)
  have HK := Lib.hid (k.below HL1.out)
  have HLB : Hid (∀ g, (Value.slice ha hn hc).ownBlock = some g → base ≤ g ∧ g < w.heap.size) := fun g hg => k.hv.lt hg
  have HZ := Lib.hid hz
  have HS := Lib.hid hs
  have HBS := Lib.hid hbase
  have C55 := Lib.hid (over_any (.slice ha hn hc) base F.hs (w.alloc (.cells #[.int .i64 F.fr, .int .i64 F.tu, .int .i64 F.k, .slice ha hn hc, .slice oa on oc] 40)) HK.out.hv (by rw [World.size_alloc]; omega) (by have := k.hl; omega))
  clear k hz hs hbase
  go_enter Tryd.func27, Tryd.ntmps27
  go_wp2_with fail
  refine (C55.out).mono ?_
  rintro e w1 ⟨rfl, hg1⟩
  have HD := Lib.hid (spoil_deps HK.out HZ.out hg1)
  have HB1 : Hid (Below base w w1) := by
    have hb := HL1.out.mono HBS.out
    refine ⟨hg1.os.trans hb.os, hg1.tape.trans hb.tape, hg1.output.trans hb.output, Nat.le_trans hb.size hg1.size, fun k hk => (hg1.block k (by have h1 := HBS.out; rw [World.size_alloc]; omega) (fun e => ?_)).trans (hb.block k hk)⟩
    have := (HLB.out k e.symm).1
    omega
  have c4 : w1.cell? ⟨w.heap.size, 0 + 4, none⟩ = some (.slice oa on oc) := hg1.cell HA.out.c4 (fun e => by have := (HLB.out _ e.symm).2; simp at this)
  have HSZ : Hid (base ≤ w1.heap.size) := by have h1 := hg1.size; have h2 := HBS.out; rw [World.size_alloc] at h1; show _ ≤ _; omega
  have C56 := Lib.hid (spoilOps_any (.slice oa on oc) F.os dl base w1 HD.out.1 HD.out.2 HS.out HK.out.ol HSZ.out)
  clear hg1
  go_wp2_with fail
  refine (C56.out).mono ?_
  rintro e w2 ⟨rfl, hb2⟩
  have HB2 := Lib.hid (HB1.out.trans hb2)
  clear hb2
  go_wp2
  go_end0
  exact ⟨rfl, HB2.out⟩
end Go.Proofs.YtfhppfbmnnkikaaDoor

/- The walk of FrameParses. -/
namespace Go.Proofs.YtfhppfbmnnkikaaDoor
open Go.RowKit Go.Lib
set_option linter.unusedVariables false


theorem isB_set {xs : List Int} (h : IsB xs) (j : Nat) {z : Int} (h0 : 0 ≤ z) (h1 : z < 256) : IsB (xs.set j z) := fun y hy => by
  rcases List.mem_or_eq_of_mem_set hy with h' | h'
  · exact h y h'
  · rw [h']; exact ⟨h0, h1⟩
theorem prs_small {bs : List Int} : (prsF bs).1.os = [] ∨ (prsF bs).1.ok = true := by
  unfold prsF
  split
  · exact .inl rfl
  · split
    · exact .inl rfl
    · split
      · exact .inl rfl
      · rename_i h
        simp only [not_or, Bool.not_eq_false] at h
        exact .inr h.2.2
theorem ok_small {F : FrD} (h : F.os = [] ∨ F.ok = true) : (∀ x ∈ F.os, x.1.ds.length ≤ 65536) ∧ (F.k = 1 → F.os = []) := by
  rcases h with h | h
  · rw [h]; exact ⟨fun x hx => by simp at hx, fun _ => rfl⟩
  · rcases fkB_parts (frB_parts h).2.2.2 with ⟨e, _, h2⟩ | ⟨e, h2, _⟩
    · rw [h2]; exact ⟨fun x hx => by simp at hx, fun _ => rfl⟩
    · refine ⟨fun x hx => ?_, fun h1 => absurd (e.symm.trans h1) (by decide)⟩
      have ho : x.1.ok x.2 = true := List.all_eq_true.1 (batB_parts h2).2.2 x hx
      have := Hv.vecB_len (cntB_parts (opB_parts ho).2.2.1).1
      omega
set_option maxHeartbeats 16000000 in
set_option maxRecDepth 100000 in
theorem frameParses_walk (a : Option Addr) (n cap : Nat) (w : World) (ht : Pr.Tab w) (h : AsksF w a n) :
    Calls Tryd.prog 5 #[.slice a n cap] w (BoolPost w true) := by
  have mixed : Tryd.prog.follows .mixedOrders = true := by kernel_rfl
  have HA := Lib.hid h
  have HT0 := Lib.hid ht
  have HNUM := Lib.hid (fun z W => num18_any z W)
  clear h ht
  go_enter Tryd.func5, Tryd.ntmps5
  go_wp2
  go_loopg [3] 8 (fun g1 v wr => ∃ i : Nat, v = .int .i64 i ∧ i ≤ 8 ∧ 8 - i ≤ g1 ∧ Hid (Below w.heap.size w wr))
  case atStart => exact ⟨0, rfl, by omega, by omega, Below.refl _ _⟩
  case round =>
    obtain ⟨i, rfl, hi12, hg1, HB⟩ := hrel
    have HT := Lib.hid (HT0.out.below HB.out HT0.out.lt)
    by_cases hin : i < n
    · have hinz : decide ((i : Int) < (n : Int)) = true := decide_eq_true (by omega)
      have hiny : (i : Int) < (n : Int) := by omega
      by_cases hi : i < 8
      · have hiz : decide ((i : Int) < 8) = true := decide_eq_true (by omega)
        have hiy : (i : Int) < 8 := by omega
        obtain ⟨b, off, fr, tu, k, ha, hs, hn, hc, oa, os, on, oc, ax, xs, nx, cx, rfl, hask, hrows, hx⟩ := HA.out i hin
        have HP0 : Hid (PF w w b (off + i * 6) fr tu k ha hs hn hc oa os on oc ax xs nx cx) := ⟨hask, hrows, hx, Below.refl _ _, HT0.out, hask.f_.lt⟩
        have HP : Hid (PF w wr b (off + i * 6) fr tu k ha hs hn hc oa os on oc ax xs nx cx) := HP0.out.next HB.out
        clear hask hrows hx
        have HV := Lib.hid (heavyF_any fr tu k ha hs hn hc oa os on oc ax nx cx wr HP.out.rows)
        obtain ⟨⟨c0, c1, c2, c3, c4⟩, c5⟩ := HP.out.ask
        go_wp2_with fail
        refine (HV.out).mono ?_
        rintro e w1 ⟨hv, rfl, hnx, hb1⟩
        have HP1 := Lib.hid (HP.out.next hb1)
        have HNX3 := Lib.hid hnx
        clear hb1 HV hnx c0 c1 c2 c3 c4 c5
        cases hv
        case true =>
          go_wp2
          go_ret
          exact ⟨rfl, HP1.out.bel⟩
        have hnx3 := HNX3.out rfl
        clear HNX3
        obtain ⟨⟨c0, c1, c2, c3, c4⟩, c5⟩ := HP1.out.ask
        go_wp2
        clear c0 c1 c2 c3 c4 c5
        go_loopg [4] 2 (fun g2 v wi => ∃ kk : Nat, v = .int .i64 kk ∧ kk ≤ 2 ∧ 2 - kk ≤ g2 ∧ Hid (PF w wi b (off + i * 6) fr tu k ha hs hn hc oa os on oc ax xs nx cx))
        case atStart => exact ⟨0, rfl, by omega, by omega, HP1⟩
        case round =>
          clear HP1 HP HB HT
          obtain ⟨kk, rfl, hk2, hg2, HP⟩ := hrel
          by_cases hkk : kk < 2
          · have hkz : decide ((kk : Int) < 2) = true := decide_eq_true (by omega)
            have hky : (kk : Int) < 2 := by omega
            obtain ⟨⟨c0, c1, c2, c3, c4⟩, c5⟩ := HP.out.ask
            have C23 := Lib.hid (copyB_any ax xs nx cx wr HP.out.xr.rx HP.out.xr.xl (by have := HP.out.xr.xl; omega))
            have HNX := Lib.hid HP.out.xr.xl
            go_wp2_with fail
            refine (C23.out).mono ?_
            rintro e w1 ⟨v5, rfl, ho5, hb5⟩
            clear C23 c0 c1 c2 c3 c4 c5
            by_cases hturn : kk = 1 ∧ 4 ≤ nx
            · -- MA
              obtain ⟨rfl, hn4⟩ := hturn
              have hn4z : decide ((4 : Int) ≤ (nx : Int)) = true := decide_eq_true (by omega)
              have hn4y : (4 : Int) ≤ (nx : Int) := by omega
              obtain ⟨g5, c5, rfl⟩ : ∃ g c, v5 = .slice (some ⟨g, 0, none⟩) nx c := by
                rcases ho5.2 with ⟨_, h0⟩ | ⟨g, cap, cs, e, _⟩
                · have := HNX.out; omega
                · exact ⟨g, cap, by rw [e, HNX.out]⟩
              have HO5 := Lib.hid ho5
              have HB5 := Lib.hid hb5
              have HC5 : Hid (xs.length ≤ c5) := by obtain ⟨a', n', c', e', _, _, hc'⟩ := ho5.form'; cases e'; exact hc'
              obtain ⟨q0, f0, hge, _⟩ := OwnK.cellAt HNX.out.symm ho5 0 (by omega)
              obtain ⟨q1, f1, _, _⟩ := OwnK.cellAt HNX.out.symm ho5 1 (by omega)
              obtain ⟨q2, f2, _, _⟩ := OwnK.cellAt HNX.out.symm ho5 2 (by omega)
              obtain ⟨q3, f3, _, _⟩ := OwnK.cellAt HNX.out.symm ho5 3 (by omega)
              have HGE := Lib.hid hge
              obtain ⟨a', n', c', e', hnn', hr', hc'⟩ := ho5.form'
              cases e'
              clear hnn'
              have HIX := Lib.hid HP.out.xr.isB
              have hsl : ∀ W, (Instr.slice 33 (.slice (some ⟨g5, 0, none⟩) nx c5) (some (.int .i64 4)) none none).run Tryd.prog W = .ok (.slice (partA (some ⟨g5, 0, none⟩) 4 c5) (nx - 4) (c5 - 4)) W := fun W => slice_l W (some ⟨g5, 0, none⟩) nx c5 4 4 rfl hn4
              have C24 := Lib.hid (refSum10_any (partA (some ⟨g5, 0, none⟩) 4 c5) (xs.drop 4) (nx - 4) (c5 - 4) w1 (by rw [List.length_drop, HNX.out]) (hr'.rest 4 c5 hc') (HIX.out.drop 4) (by rw [List.length_drop]; have := HNX.out; omega))
              unfold SumPost at C24
              obtain ⟨S, hS⟩ : ∃ S, crc (xs.drop 4) = S := ⟨_, rfl⟩
              rw [hS] at C24
              clear ho5 hb5 hge hr' hc' hS
              go_wp2_with fail
              refine (C24.out).mono ?_
              rintro e w' ⟨rfl, rfl⟩
              obtain ⟨ys, hys⟩ : ∃ l, (((xs.set 0 ((S : Int) / 16777216 % 256)).set 1 ((S : Int) / 65536 % 256)).set 2 ((S : Int) / 256 % 256)).set 3 ((S : Int) % 256) = l := ⟨_, rfl⟩
              have HISB : Hid (IsB ys) := by show IsB ys; rw [← hys]; exact isB_set (isB_set (isB_set (isB_set HIX.out 0 (by omega) (by omega)) 1 (by omega) (by omega)) 2 (by omega) (by omega)) 3 (by omega) (by omega)
              have HN5 : Hid (nx = ys.length) := by show nx = _; rw [← hys]; simp only [List.length_set]; exact HNX.out
              have HC5' : Hid (ys.length ≤ c5) := by have := HN5.out; have := HC5.out; have := HNX.out; show _ ≤ _; omega
              have HO1 : Hid (OwnK .u8 5 ((((w1.setCell ⟨g5, 0, none⟩ (.int .u8 ((S : Int) / 16777216 % 256))).setCell ⟨g5, 1, none⟩ (.int .u8 ((S : Int) / 65536 % 256))).setCell ⟨g5, 2, none⟩ (.int .u8 ((S : Int) / 256 % 256))).setCell ⟨g5, 3, none⟩ (.int .u8 ((S : Int) % 256))) wr.heap.size (.slice (some ⟨g5, 0, none⟩) nx c5) ys) := by
                rw [← hys]
                have s0 := OwnK.stored HNX.out.symm HO5.out 0 ((S : Int) / 16777216 % 256)
                have s1 := OwnK.stored (by rw [List.length_set]; exact HNX.out.symm) s0 1 ((S : Int) / 65536 % 256)
                have s2 := OwnK.stored (by rw [List.length_set, List.length_set]; exact HNX.out.symm) s1 2 ((S : Int) / 256 % 256)
                exact OwnK.stored (by rw [List.length_set, List.length_set, List.length_set]; exact HNX.out.symm) s2 3 ((S : Int) % 256)
              have HBW : Hid (Below wr.heap.size wr ((((w1.setCell ⟨g5, 0, none⟩ (.int .u8 ((S : Int) / 16777216 % 256))).setCell ⟨g5, 1, none⟩ (.int .u8 ((S : Int) / 65536 % 256))).setCell ⟨g5, 2, none⟩ (.int .u8 ((S : Int) / 256 % 256))).setCell ⟨g5, 3, none⟩ (.int .u8 ((S : Int) % 256)))) := (((HB5.out.setCell (p := ⟨g5, 0, none⟩) HGE.out _).setCell (p := ⟨g5, 1, none⟩) HGE.out _).setCell (p := ⟨g5, 2, none⟩) HGE.out _).setCell (p := ⟨g5, 3, none⟩) HGE.out _
              have HLN : Hid (ys.length ≤ 5000) := by have := HN5.out; show _ ≤ _; omega
              go_wp2_with fail
              generalize ((((w1.setCell ⟨g5, 0, none⟩ (.int .u8 ((S : Int) / 16777216 % 256))).setCell ⟨g5, 1, none⟩ (.int .u8 ((S : Int) / 65536 % 256))).setCell ⟨g5, 2, none⟩ (.int .u8 ((S : Int) / 256 % 256))).setCell ⟨g5, 3, none⟩ (.int .u8 ((S : Int) % 256))) = W1 at *
              obtain ⟨a', n', c', e', hnn', hr', hcc'⟩ := HO1.out.form'
              cases e'
              clear hnn' hcc'
              have HX5 := Lib.hid hr'
              clear q0 q1 q2 q3 f0 f1 f2 f3 hys hsl HO1 HO5 HB5 C24 hr' HC5
              obtain ⟨⟨G, x⟩, hG⟩ : ∃ Z, prsF ys = Z := ⟨_, rfl⟩
              have HSM := Lib.hid (ok_small (by have := prs_small (bs := ys); rw [hG] at this; exact this : G.os = [] ∨ G.ok = true))
              have HG := Lib.hid hG
              clear hG
              have C23 := Lib.hid (copyB_any (some ⟨g5, 0, none⟩) ys nx c5 W1 HX5.out HN5.out (by have := HLN.out; omega))
              go_wp2_with fail
              refine (C23.out).mono ?_
              rintro e w2 ⟨v7, rfl, ho7, hb7⟩
              obtain ⟨a7, n7, c7, rfl, hn7, hr7, hc7⟩ := ho7.form'
              have HBW2 := Lib.hid (HBW.out.trans (hb7.mono HBW.out.size))
              have HX2 := Lib.hid (HX5.out.below hb7 (Nat.le_refl _))
              have HI2 := Lib.hid hr7
              have HN7 := Lib.hid hn7
              have HP2 := Lib.hid (HP.out.next HBW2.out)
              have C25 := Lib.hid (parse_any a7 ys n7 c7 w2 HP2.out.tab hn7 hr7 HISB.out hc7 (by have := HLN.out; omega))
              rw [HG.out] at C25
              clear ho7 hb7 hn7 hr7 hc7 C23
              go_wp2_with fail
              refine (C25.out).mono ?_
              rintro e w3 ⟨h4, o4, dl4, rfl, hF4, hb4, hz4⟩
              obtain ⟨ha4, hn4, hc4, oa4, on4, oc4, rfl, rfl, hR4⟩ := hF4.read
              have HW3 := Lib.hid (box_bel w3 (.cells #[.int .i64 G.fr, .int .i64 G.tu, .int .i64 G.k, .slice ha4 hn4 hc4, .slice oa4 on4 oc4] 40))
              have HBW3 := Lib.hid ((HBW2.out.trans (hb4.mono HBW2.out.size)).trans (HW3.out.mono (Nat.le_trans HBW2.out.size hb4.size)))
              have HF3 := Lib.hid (hF4.below HW3.out)
              have HR3 := Lib.hid (hR4.below HW3.out)
              have HA3 := Lib.hid (FrAt.new w3 G.fr G.tu G.k ha4 hn4 hc4 oa4 on4 oc4)
              have HX3 := Lib.hid ((HX2.out.below hb4 (Nat.le_refl _)).alloc (.cells #[.int .i64 G.fr, .int .i64 G.tu, .int .i64 G.k, .slice ha4 hn4 hc4, .slice oa4 on4 oc4] 40))
              have HI3 := Lib.hid ((HI2.out.below hb4 (Nat.le_refl _)).alloc (.cells #[.int .i64 G.fr, .int .i64 G.tu, .int .i64 G.k, .slice ha4 hn4 hc4, .slice oa4 on4 oc4] 40))
              have HZ4 : Hid (Value.slice ha4 hn4 hc4 = .slice none 0 0 ∨ G.os = []) := hz4.imp id HSM.out.2
              have HSB : Hid (w2.heap.size ≤ (w3.alloc (.cells #[.int .i64 G.fr, .int .i64 G.tu, .int .i64 G.k, .slice ha4 hn4 hc4, .slice oa4 on4 oc4] 40)).heap.size) := Nat.le_trans hb4.size HW3.out.size
              clear hF4 hb4 hz4 hR4 C25
              simp only
              have HP3 := Lib.hid (HP.out.next HBW3.out)
              have C26 := Lib.hid (refParse_any (some ⟨g5, 0, none⟩) ys nx c5 (w3.alloc (.cells #[.int .i64 G.fr, .int .i64 G.tu, .int .i64 G.k, .slice ha4 hn4 hc4, .slice oa4 on4 oc4] 40)) HN5.out HX3.out HISB.out HC5'.out (by have := HLN.out; omega))
              rw [HG.out] at C26
              go_wp2_with fail
              generalize hg3 : w3.heap.size = g3 at *
              generalize w3.alloc (.cells #[.int .i64 G.fr, .int .i64 G.tu, .int .i64 G.k, .slice ha4 hn4 hc4, .slice oa4 on4 oc4] 40) = W3 at *
              clear hg3
              refine (C26.out).mono ?_
              rintro e w4 ⟨ha6, hn6, hc6, oa6, on6, oc6, rfl, hR6, hb6⟩
              have HW4 := Lib.hid (box_bel w4 (.cells #[.int .i64 G.fr, .int .i64 G.tu, .int .i64 G.k, .slice ha6 hn6 hc6, .slice oa6 on6 oc6] 40))
              have HB4 := Lib.hid (hb6.trans (HW4.out.mono hb6.size))
              have HBW4 := Lib.hid (HBW3.out.trans (HB4.out.mono HBW3.out.size))
              have HF5 := Lib.hid (HF3.out.below HB4.out)
              have HR5 := Lib.hid (HR3.out.below HB4.out)
              have HR6 := Lib.hid (hR6.below HW4.out)
              have HX5' := Lib.hid (HX3.out.below HB4.out (Nat.le_refl _))
              have HI5' := Lib.hid (HI3.out.below HB4.out (Nat.le_refl _))
              obtain ⟨d0, d1, d2, d3, d4⟩ := HA3.out.next HB4.out
              obtain ⟨c0, c1, c2, c3, c4⟩ := FrAt.new w4 G.fr G.tu G.k ha6 hn6 hc6 oa6 on6 oc6
              have HSB5 := Lib.hid (Nat.le_trans HSB.out HB4.out.size)
              clear hR6 hb6 C26
              simp only
              have C21 := Lib.hid (eqFrame_yes G.fr G.tu G.k ha4 G.hs hn4 hc4 oa4 G.os on4 oc4 ha6 hn6 hc6 oa6 on6 oc6 (w4.alloc (.cells #[.int .i64 G.fr, .int .i64 G.tu, .int .i64 G.k, .slice ha6 hn6 hc6, .slice oa6 on6 oc6] 40)) HR5.out HR6.out)
              have HCO := Lib.hid (fun (W : World) (hb : Below (w4.alloc (.cells #[.int .i64 G.fr, .int .i64 G.tu, .int .i64 G.k, .slice ha6 hn6 hc6, .slice oa6 on6 oc6] 40)).heap.size (w4.alloc (.cells #[.int .i64 G.fr, .int .i64 G.tu, .int .i64 G.k, .slice ha6 hn6 hc6, .slice oa6 on6 oc6] 40)) W) => eqB_bel a7 (some ⟨g5, 0, none⟩) ys n7 nx c7 c5 W (HI5'.out.below hb (Nat.le_refl _)) (HX5'.out.below hb (Nat.le_refl _)) HN7.out HN5.out (by have := HLN.out; omega))
              have HA5 := Lib.hid (HA3.out.next HB4.out)
              go_wp2_with fail
              generalize w4.alloc (.cells #[.int .i64 G.fr, .int .i64 G.tu, .int .i64 G.k, .slice ha6 hn6 hc6, .slice oa6 on6 oc6] 40) = W5 at *
              generalize w4.heap.size = g5 at *
              refine (HNUM.out x _).mono ?_
              rintro e w' ⟨rfl, rfl⟩
              go_wp2_with fail
              refine (C21.out).mono ?_
              rintro e w6 ⟨rfl, hb6⟩
              have HB6 := Lib.hid hb6
              clear hb6
              go_wp2_with fail
              refine (HCO.out w6 HB6.out).mono ?_
              rintro e w7 ⟨rfl, hb7⟩
              have HB7 := Lib.hid (HB6.out.trans (hb7.mono HB6.out.size))
              clear hb7 d0 d1 d2 d3 d4 c0 c1 c2 c3 c4
              obtain ⟨d0, d1, d2, d3, d4⟩ := HA5.out.next HB7.out
              have HF7 := Lib.hid (HF5.out.below HB7.out)
              have HBW7 := Lib.hid (HBW4.out.trans (HB7.out.mono HBW4.out.size))
              have C27 := Lib.hid (spoilF_any G (.slice ha4 hn4 hc4) (.slice oa4 on4 oc4) dl4 w2.heap.size w7 HF7.out HZ4.out HSM.out.1 (Nat.le_trans HSB5.out HB7.out.size))
              go_wp2_with fail
              refine (C27.out).mono ?_
              rintro e w8 ⟨rfl, hb8⟩
              have HP8 := Lib.hid (HP.out.next (HBW7.out.trans (hb8.mono HBW2.out.size)))
              clear hb8 d0 d1 d2 d3 d4
              go_wp2_with fail
              go_roundg 0
              case measure => omega
              case rel => exact ⟨2, by go_num, by omega, by omega, HP8⟩
            · -- MB
              obtain ⟨a5, n5, c5, rfl, hn5, hr5, hc5⟩ := ho5.form'
              have HX5 := Lib.hid hr5
              have HN5 := Lib.hid hn5
              have HC5 := Lib.hid hc5
              have HBW := Lib.hid hb5
              have HISB := Lib.hid HP.out.xr.isB
              have HLN : Hid (xs.length ≤ 5000) := by have := HNX.out; show _ ≤ _; omega
              have hnn : n5 = nx := by have := HNX.out; omega
              subst hnn
              clear ho5 hb5 hr5 hc5 hn5
              by_cases hk1 : kk = 1
              · have hk1z : ((kk : Int) == 1) = true := by simp; omega
                have hk1y : (kk : Int) = 1 := by omega
                have hn4z : decide ((4 : Int) ≤ (n5 : Int)) = false := decide_eq_false (by omega)
                have hn4y : ¬ (4 : Int) ≤ (n5 : Int) := by omega
                obtain ⟨⟨G, x⟩, hG⟩ : ∃ Z, prsF xs = Z := ⟨_, rfl⟩
                have HSM := Lib.hid (ok_small (by have := prs_small (bs := xs); rw [hG] at this; exact this : G.os = [] ∨ G.ok = true))
                have HG := Lib.hid hG
                clear hG
                have C23 := Lib.hid (copyB_any a5 xs n5 c5 w1 HX5.out HN5.out (by have := HLN.out; omega))
                go_wp2_with fail
                refine (C23.out).mono ?_
                rintro e w2 ⟨v7, rfl, ho7, hb7⟩
                obtain ⟨a7, n7, c7, rfl, hn7, hr7, hc7⟩ := ho7.form'
                have HBW2 := Lib.hid (HBW.out.trans (hb7.mono HBW.out.size))
                have HX2 := Lib.hid (HX5.out.below hb7 (Nat.le_refl _))
                have HI2 := Lib.hid hr7
                have HN7 := Lib.hid hn7
                have HP2 := Lib.hid (HP.out.next HBW2.out)
                have C25 := Lib.hid (parse_any a7 xs n7 c7 w2 HP2.out.tab hn7 hr7 HISB.out hc7 (by have := HLN.out; omega))
                rw [HG.out] at C25
                clear ho7 hb7 hn7 hr7 hc7 C23
                go_wp2_with fail
                refine (C25.out).mono ?_
                rintro e w3 ⟨h4, o4, dl4, rfl, hF4, hb4, hz4⟩
                obtain ⟨ha4, hn4, hc4, oa4, on4, oc4, rfl, rfl, hR4⟩ := hF4.read
                have HW3 := Lib.hid (box_bel w3 (.cells #[.int .i64 G.fr, .int .i64 G.tu, .int .i64 G.k, .slice ha4 hn4 hc4, .slice oa4 on4 oc4] 40))
                have HBW3 := Lib.hid ((HBW2.out.trans (hb4.mono HBW2.out.size)).trans (HW3.out.mono (Nat.le_trans HBW2.out.size hb4.size)))
                have HF3 := Lib.hid (hF4.below HW3.out)
                have HR3 := Lib.hid (hR4.below HW3.out)
                have HA3 := Lib.hid (FrAt.new w3 G.fr G.tu G.k ha4 hn4 hc4 oa4 on4 oc4)
                have HX3 := Lib.hid ((HX2.out.below hb4 (Nat.le_refl _)).alloc (.cells #[.int .i64 G.fr, .int .i64 G.tu, .int .i64 G.k, .slice ha4 hn4 hc4, .slice oa4 on4 oc4] 40))
                have HI3 := Lib.hid ((HI2.out.below hb4 (Nat.le_refl _)).alloc (.cells #[.int .i64 G.fr, .int .i64 G.tu, .int .i64 G.k, .slice ha4 hn4 hc4, .slice oa4 on4 oc4] 40))
                have HZ4 : Hid (Value.slice ha4 hn4 hc4 = .slice none 0 0 ∨ G.os = []) := hz4.imp id HSM.out.2
                have HSB : Hid (w2.heap.size ≤ (w3.alloc (.cells #[.int .i64 G.fr, .int .i64 G.tu, .int .i64 G.k, .slice ha4 hn4 hc4, .slice oa4 on4 oc4] 40)).heap.size) := Nat.le_trans hb4.size HW3.out.size
                clear hF4 hb4 hz4 hR4 C25
                simp only
                have HP3 := Lib.hid (HP.out.next HBW3.out)
                have C26 := Lib.hid (refParse_any a5 xs n5 c5 (w3.alloc (.cells #[.int .i64 G.fr, .int .i64 G.tu, .int .i64 G.k, .slice ha4 hn4 hc4, .slice oa4 on4 oc4] 40)) HN5.out HX3.out HISB.out HC5.out (by have := HLN.out; omega))
                rw [HG.out] at C26
                go_wp2_with fail
                generalize hg3 : w3.heap.size = g3 at *
                generalize w3.alloc (.cells #[.int .i64 G.fr, .int .i64 G.tu, .int .i64 G.k, .slice ha4 hn4 hc4, .slice oa4 on4 oc4] 40) = W3 at *
                clear hg3
                refine (C26.out).mono ?_
                rintro e w4 ⟨ha6, hn6, hc6, oa6, on6, oc6, rfl, hR6, hb6⟩
                have HW4 := Lib.hid (box_bel w4 (.cells #[.int .i64 G.fr, .int .i64 G.tu, .int .i64 G.k, .slice ha6 hn6 hc6, .slice oa6 on6 oc6] 40))
                have HB4 := Lib.hid (hb6.trans (HW4.out.mono hb6.size))
                have HBW4 := Lib.hid (HBW3.out.trans (HB4.out.mono HBW3.out.size))
                have HF5 := Lib.hid (HF3.out.below HB4.out)
                have HR5 := Lib.hid (HR3.out.below HB4.out)
                have HR6 := Lib.hid (hR6.below HW4.out)
                have HX5' := Lib.hid (HX3.out.below HB4.out (Nat.le_refl _))
                have HI5' := Lib.hid (HI3.out.below HB4.out (Nat.le_refl _))
                obtain ⟨d0, d1, d2, d3, d4⟩ := HA3.out.next HB4.out
                obtain ⟨c0, c1, c2, c3, c4⟩ := FrAt.new w4 G.fr G.tu G.k ha6 hn6 hc6 oa6 on6 oc6
                have HSB5 := Lib.hid (Nat.le_trans HSB.out HB4.out.size)
                clear hR6 hb6 C26
                simp only
                have C21 := Lib.hid (eqFrame_yes G.fr G.tu G.k ha4 G.hs hn4 hc4 oa4 G.os on4 oc4 ha6 hn6 hc6 oa6 on6 oc6 (w4.alloc (.cells #[.int .i64 G.fr, .int .i64 G.tu, .int .i64 G.k, .slice ha6 hn6 hc6, .slice oa6 on6 oc6] 40)) HR5.out HR6.out)
                have HCO := Lib.hid (fun (W : World) (hb : Below (w4.alloc (.cells #[.int .i64 G.fr, .int .i64 G.tu, .int .i64 G.k, .slice ha6 hn6 hc6, .slice oa6 on6 oc6] 40)).heap.size (w4.alloc (.cells #[.int .i64 G.fr, .int .i64 G.tu, .int .i64 G.k, .slice ha6 hn6 hc6, .slice oa6 on6 oc6] 40)) W) => eqB_bel a7 a5 xs n7 n5 c7 c5 W (HI5'.out.below hb (Nat.le_refl _)) (HX5'.out.below hb (Nat.le_refl _)) HN7.out HN5.out (by have := HLN.out; omega))
                have HA5 := Lib.hid (HA3.out.next HB4.out)
                go_wp2_with fail
                generalize w4.alloc (.cells #[.int .i64 G.fr, .int .i64 G.tu, .int .i64 G.k, .slice ha6 hn6 hc6, .slice oa6 on6 oc6] 40) = W5 at *
                generalize w4.heap.size = g5 at *
                refine (HNUM.out x _).mono ?_
                rintro e w' ⟨rfl, rfl⟩
                go_wp2_with fail
                refine (C21.out).mono ?_
                rintro e w6 ⟨rfl, hb6⟩
                have HB6 := Lib.hid hb6
                clear hb6
                go_wp2_with fail
                refine (HCO.out w6 HB6.out).mono ?_
                rintro e w7 ⟨rfl, hb7⟩
                have HB7 := Lib.hid (HB6.out.trans (hb7.mono HB6.out.size))
                clear hb7 d0 d1 d2 d3 d4 c0 c1 c2 c3 c4
                obtain ⟨d0, d1, d2, d3, d4⟩ := HA5.out.next HB7.out
                have HF7 := Lib.hid (HF5.out.below HB7.out)
                have HBW7 := Lib.hid (HBW4.out.trans (HB7.out.mono HBW4.out.size))
                have C27 := Lib.hid (spoilF_any G (.slice ha4 hn4 hc4) (.slice oa4 on4 oc4) dl4 w2.heap.size w7 HF7.out HZ4.out HSM.out.1 (Nat.le_trans HSB5.out HB7.out.size))
                go_wp2_with fail
                refine (C27.out).mono ?_
                rintro e w8 ⟨rfl, hb8⟩
                have HP8 := Lib.hid (HP.out.next (HBW7.out.trans (hb8.mono HBW2.out.size)))
                clear hb8 d0 d1 d2 d3 d4
                go_wp2_with fail
                go_roundg (2 - (kk + 1))
                case measure => omega
                case rel => exact ⟨kk + 1, by go_num, by omega, by omega, HP8⟩
              · have hk1z : ((kk : Int) == 1) = false := by simp; omega
                have hk1y : ¬ (kk : Int) = 1 := by omega
                obtain ⟨⟨G, x⟩, hG⟩ : ∃ Z, prsF xs = Z := ⟨_, rfl⟩
                have HSM := Lib.hid (ok_small (by have := prs_small (bs := xs); rw [hG] at this; exact this : G.os = [] ∨ G.ok = true))
                have HG := Lib.hid hG
                clear hG
                have C23 := Lib.hid (copyB_any a5 xs n5 c5 w1 HX5.out HN5.out (by have := HLN.out; omega))
                go_wp2_with fail
                refine (C23.out).mono ?_
                rintro e w2 ⟨v7, rfl, ho7, hb7⟩
                obtain ⟨a7, n7, c7, rfl, hn7, hr7, hc7⟩ := ho7.form'
                have HBW2 := Lib.hid (HBW.out.trans (hb7.mono HBW.out.size))
                have HX2 := Lib.hid (HX5.out.below hb7 (Nat.le_refl _))
                have HI2 := Lib.hid hr7
                have HN7 := Lib.hid hn7
                have HP2 := Lib.hid (HP.out.next HBW2.out)
                have C25 := Lib.hid (parse_any a7 xs n7 c7 w2 HP2.out.tab hn7 hr7 HISB.out hc7 (by have := HLN.out; omega))
                rw [HG.out] at C25
                clear ho7 hb7 hn7 hr7 hc7 C23
                go_wp2_with fail
                refine (C25.out).mono ?_
                rintro e w3 ⟨h4, o4, dl4, rfl, hF4, hb4, hz4⟩
                obtain ⟨ha4, hn4, hc4, oa4, on4, oc4, rfl, rfl, hR4⟩ := hF4.read
                have HW3 := Lib.hid (box_bel w3 (.cells #[.int .i64 G.fr, .int .i64 G.tu, .int .i64 G.k, .slice ha4 hn4 hc4, .slice oa4 on4 oc4] 40))
                have HBW3 := Lib.hid ((HBW2.out.trans (hb4.mono HBW2.out.size)).trans (HW3.out.mono (Nat.le_trans HBW2.out.size hb4.size)))
                have HF3 := Lib.hid (hF4.below HW3.out)
                have HR3 := Lib.hid (hR4.below HW3.out)
                have HA3 := Lib.hid (FrAt.new w3 G.fr G.tu G.k ha4 hn4 hc4 oa4 on4 oc4)
                have HX3 := Lib.hid ((HX2.out.below hb4 (Nat.le_refl _)).alloc (.cells #[.int .i64 G.fr, .int .i64 G.tu, .int .i64 G.k, .slice ha4 hn4 hc4, .slice oa4 on4 oc4] 40))
                have HI3 := Lib.hid ((HI2.out.below hb4 (Nat.le_refl _)).alloc (.cells #[.int .i64 G.fr, .int .i64 G.tu, .int .i64 G.k, .slice ha4 hn4 hc4, .slice oa4 on4 oc4] 40))
                have HZ4 : Hid (Value.slice ha4 hn4 hc4 = .slice none 0 0 ∨ G.os = []) := hz4.imp id HSM.out.2
                have HSB : Hid (w2.heap.size ≤ (w3.alloc (.cells #[.int .i64 G.fr, .int .i64 G.tu, .int .i64 G.k, .slice ha4 hn4 hc4, .slice oa4 on4 oc4] 40)).heap.size) := Nat.le_trans hb4.size HW3.out.size
                clear hF4 hb4 hz4 hR4 C25
                simp only
                have HP3 := Lib.hid (HP.out.next HBW3.out)
                have C26 := Lib.hid (refParse_any a5 xs n5 c5 (w3.alloc (.cells #[.int .i64 G.fr, .int .i64 G.tu, .int .i64 G.k, .slice ha4 hn4 hc4, .slice oa4 on4 oc4] 40)) HN5.out HX3.out HISB.out HC5.out (by have := HLN.out; omega))
                rw [HG.out] at C26
                go_wp2_with fail
                generalize hg3 : w3.heap.size = g3 at *
                generalize w3.alloc (.cells #[.int .i64 G.fr, .int .i64 G.tu, .int .i64 G.k, .slice ha4 hn4 hc4, .slice oa4 on4 oc4] 40) = W3 at *
                clear hg3
                refine (C26.out).mono ?_
                rintro e w4 ⟨ha6, hn6, hc6, oa6, on6, oc6, rfl, hR6, hb6⟩
                have HW4 := Lib.hid (box_bel w4 (.cells #[.int .i64 G.fr, .int .i64 G.tu, .int .i64 G.k, .slice ha6 hn6 hc6, .slice oa6 on6 oc6] 40))
                have HB4 := Lib.hid (hb6.trans (HW4.out.mono hb6.size))
                have HBW4 := Lib.hid (HBW3.out.trans (HB4.out.mono HBW3.out.size))
                have HF5 := Lib.hid (HF3.out.below HB4.out)
                have HR5 := Lib.hid (HR3.out.below HB4.out)
                have HR6 := Lib.hid (hR6.below HW4.out)
                have HX5' := Lib.hid (HX3.out.below HB4.out (Nat.le_refl _))
                have HI5' := Lib.hid (HI3.out.below HB4.out (Nat.le_refl _))
                obtain ⟨d0, d1, d2, d3, d4⟩ := HA3.out.next HB4.out
                obtain ⟨c0, c1, c2, c3, c4⟩ := FrAt.new w4 G.fr G.tu G.k ha6 hn6 hc6 oa6 on6 oc6
                have HSB5 := Lib.hid (Nat.le_trans HSB.out HB4.out.size)
                clear hR6 hb6 C26
                simp only
                have C21 := Lib.hid (eqFrame_yes G.fr G.tu G.k ha4 G.hs hn4 hc4 oa4 G.os on4 oc4 ha6 hn6 hc6 oa6 on6 oc6 (w4.alloc (.cells #[.int .i64 G.fr, .int .i64 G.tu, .int .i64 G.k, .slice ha6 hn6 hc6, .slice oa6 on6 oc6] 40)) HR5.out HR6.out)
                have HCO := Lib.hid (fun (W : World) (hb : Below (w4.alloc (.cells #[.int .i64 G.fr, .int .i64 G.tu, .int .i64 G.k, .slice ha6 hn6 hc6, .slice oa6 on6 oc6] 40)).heap.size (w4.alloc (.cells #[.int .i64 G.fr, .int .i64 G.tu, .int .i64 G.k, .slice ha6 hn6 hc6, .slice oa6 on6 oc6] 40)) W) => eqB_bel a7 a5 xs n7 n5 c7 c5 W (HI5'.out.below hb (Nat.le_refl _)) (HX5'.out.below hb (Nat.le_refl _)) HN7.out HN5.out (by have := HLN.out; omega))
                have HA5 := Lib.hid (HA3.out.next HB4.out)
                go_wp2_with fail
                generalize w4.alloc (.cells #[.int .i64 G.fr, .int .i64 G.tu, .int .i64 G.k, .slice ha6 hn6 hc6, .slice oa6 on6 oc6] 40) = W5 at *
                generalize w4.heap.size = g5 at *
                refine (HNUM.out x _).mono ?_
                rintro e w' ⟨rfl, rfl⟩
                go_wp2_with fail
                refine (C21.out).mono ?_
                rintro e w6 ⟨rfl, hb6⟩
                have HB6 := Lib.hid hb6
                clear hb6
                go_wp2_with fail
                refine (HCO.out w6 HB6.out).mono ?_
                rintro e w7 ⟨rfl, hb7⟩
                have HB7 := Lib.hid (HB6.out.trans (hb7.mono HB6.out.size))
                clear hb7 d0 d1 d2 d3 d4 c0 c1 c2 c3 c4
                obtain ⟨d0, d1, d2, d3, d4⟩ := HA5.out.next HB7.out
                have HF7 := Lib.hid (HF5.out.below HB7.out)
                have HBW7 := Lib.hid (HBW4.out.trans (HB7.out.mono HBW4.out.size))
                have C27 := Lib.hid (spoilF_any G (.slice ha4 hn4 hc4) (.slice oa4 on4 oc4) dl4 w2.heap.size w7 HF7.out HZ4.out HSM.out.1 (Nat.le_trans HSB5.out HB7.out.size))
                go_wp2_with fail
                refine (C27.out).mono ?_
                rintro e w8 ⟨rfl, hb8⟩
                have HP8 := Lib.hid (HP.out.next (HBW7.out.trans (hb8.mono HBW2.out.size)))
                clear hb8 d0 d1 d2 d3 d4
                go_wp2_with fail
                go_roundg (2 - (kk + 1))
                case measure => omega
                case rel => exact ⟨kk + 1, by go_num, by omega, by omega, HP8⟩
          · -- MC
            have hkz : decide ((kk : Int) < 2) = false := decide_eq_false (by omega)
            have hky : ¬ (kk : Int) < 2 := by omega
            go_wp2_with fail
            go_roundg (8 - (i + 1))
            case measure => omega
            case rel => exact ⟨i + 1, by go_num, by omega, by omega, HP.out.bel⟩
      · have hiz : decide ((i : Int) < 8) = false := decide_eq_false (by omega)
        have hiy : ¬ (i : Int) < 8 := by omega
        go_wp2_with fail
        refine (wakesF_any wr HT.out).mono ?_
        rintro e w1 ⟨rfl, hb1⟩
        have HB1 := Lib.hid (HB.out.trans (hb1.mono HB.out.size))
        clear hb1
        go_wp2
        go_ret
        exact ⟨rfl, HB1.out⟩
    · have hinz : decide ((i : Int) < (n : Int)) = false := decide_eq_false (by omega)
      have hiny : ¬ (i : Int) < (n : Int) := by omega
      go_wp2_with fail
      refine (wakesF_any wr HT.out).mono ?_
      rintro e w1 ⟨rfl, hb1⟩
      have HB1 := Lib.hid (HB.out.trans (hb1.mono HB.out.size))
      clear hb1
      go_wp2
      go_ret
      exact ⟨rfl, HB1.out⟩
end Go.Proofs.YtfhppfbmnnkikaaDoor
