/- Joined: D24. -/
import Derived.Test.YtdpopdlifcjdeaaDoorYD12
import Derived.Test.YtdpopdlifcjdeaaDoorZA

/- A frame written over. -/
namespace Go.Proofs.YtdpopdlifcjdeaaDoor
open Go.RowKit Go.Lib
set_option linter.unusedVariables false


/-- nothing but what S names has turned -/
structure OnlyB (S : Nat → Prop) (w W : World) : Prop where
  os : W.os = w.os
  tape : W.tape = w.tape
  output : W.output = w.output
  size : w.heap.size ≤ W.heap.size
  block : ∀ k, k < w.heap.size → ¬ S k → W.heap[k]? = w.heap[k]?
theorem OnlyB.refl (S : Nat → Prop) (w : World) : OnlyB S w w := ⟨rfl, rfl, rfl, Nat.le_refl _, fun _ _ _ => rfl⟩
theorem OnlyB.grown {S : Nat → Prop} {w W W' : World} {row : Option Nat} (h : OnlyB S w W) (hg : W.grownBy W' row) (hr : ∀ k, row = some k → S k) : OnlyB S w W' :=
  ⟨hg.os.trans h.os, hg.tape.trans h.tape, hg.output.trans h.output, Nat.le_trans h.size hg.size, fun k hk hn => (hg.block k (Nat.lt_of_lt_of_le hk h.size) (fun e => hn (hr k e.symm))).trans (h.block k hk hn)⟩
theorem OnlyB.setCell {S : Nat → Prop} {w W : World} (h : OnlyB S w W) {p : Addr} (hp : S p.block) (u : Value) : OnlyB S w (W.setCell p u) :=
  h.grown (grown_setCell W p u) (fun k e => by injection e with e; rw [← e]; exact hp)
theorem OnlyB.mono {S T : Nat → Prop} {w W : World} (h : OnlyB S w W) (hst : ∀ k, S k → T k) : OnlyB T w W := ⟨h.os, h.tape, h.output, h.size, fun k hk hn => h.block k hk (fun q => hn (hst k q))⟩
theorem OnlyB.trans {S : Nat → Prop} {a b c : World} (h : OnlyB S a b) (k : OnlyB S b c) : OnlyB S a c := ⟨k.os.trans h.os, k.tape.trans h.tape, k.output.trans h.output, Nat.le_trans h.size k.size, fun i hi hn => (k.block i (Nat.lt_of_lt_of_le hi h.size) hn).trans (h.block i hi hn)⟩
def OnlyPost (S : Nat → Prop) (w : World) (e : Ending) (w' : World) : Prop := e = .returned (.tuple #[]) ∧ OnlyB S w w'

set_option maxHeartbeats 400000 in
theorem overOp_any (t r q : Int) (da : Option Addr) (ds : List Int) (dn dc : Nat) (kd nt nr pt pr : Int) (s : ByteArray) (p v : Int) (base : Nat) (w : World) (hv : OwnK .i64 3 w base (.slice da dn dc) ds) (hbase : base ≤ w.heap.size) (hl : ds.length ≤ 65536) : Calls Tryd.prog 48 #[.agg #[.int .i64 t, .int .i64 r, .int .i64 q, .slice da dn dc, .int .i64 kd, .int .i64 nt, .int .i64 nr, .int .i64 pt, .int .i64 pr, .string s, .int .i64 p, .int .i64 v]] w (OverPost w (.slice da dn dc)) := by
  have C := Lib.hid (over_any (.slice da dn dc) base ds (w.alloc (.cells #[.int .i64 t, .int .i64 r, .int .i64 q, .slice da dn dc, .int .i64 kd, .int .i64 nt, .int .i64 nr, .int .i64 pt, .int .i64 pr, .string s, .int .i64 p, .int .i64 v] 32)) (hv.alloc _) (by rw [World.size_alloc]; omega) hl)
  clear hv hbase hl
  go_enter Tryd.func48, Tryd.ntmps48
  go_wp2_with fail
  refine (C.out).mono ?_
  rintro e w1 ⟨rfl, hg⟩
  have HGR := Lib.hid ((World.grownBy_alloc w _ _).trans hg)
  clear hg
  go_wp2
  go_end0
  exact ⟨rfl, HGR.out⟩
theorem op_build9 (w : World) : (Instr.build 32 #[(1, .int .i64 (-9))]).run Tryd.prog w = .ok (.agg #[.int .i64 0, .int .i64 0, .int .i64 (-9), .slice none 0 0, .int .i64 0, .int .i64 0, .int .i64 0, .int .i64 0, .int .i64 0, .string ⟨#[]⟩, .int .i64 0, .int .i64 0]) w := run_build w 32 _ _ (by kernel_rfl)
/-- what is left to be written over -/
structure SpI (w W : World) (base gq n cap i : Nat) (os : List OpD) (dl : List Value) (L : List Value) : Prop where
  own : W.ownsRow base 32 12 (.slice (some ⟨gq, 0, none⟩) n cap) n L
  row : ∀ (j : Nat) (x : OpD) (d : Value) (c : Nat) (u : Value), i ≤ j → os[j]? = some x → dl[j]? = some d → (x.1.cells x.2 d)[c]? = some u → L[j * 12 + c]? = some u
  dep : ∀ (j : Nat) (x : OpD) (d : Value), i ≤ j → os[j]? = some x → dl[j]? = some d → OwnK .i64 3 W base d x.1.ds
  bel : OnlyB (fun k => k = gq ∨ ∃ d ∈ dl, d.ownBlock = some k) w W
  size : w.heap.size ≤ W.heap.size
set_option maxHeartbeats 4000000 in
set_option maxRecDepth 100000 in
theorem spoilOps_any (o : Value) (os : List OpD) (dl : List Value) (base : Nat) (w : World) (ho : OwnO w base o os dl) (hd : DepsO w base os dl) (hs : ∀ x ∈ os, x.1.ds.length ≤ 65536) (hl : os.length ≤ 64) (hbase : base ≤ w.heap.size) : Calls Tryd.prog 24 #[o] w (OnlyPost (fun k => o.ownBlock = some k ∨ ∃ d ∈ dl, d.ownBlock = some k) w) := by
  rcases ho.own.2 with ⟨rfl, h0⟩ | ⟨gq, cap, cur, e, hg, hh, hnc, hcm, hcs, htk⟩
  · clear ho hd hs
    go_enter Tryd.func24, Tryd.ntmps24
    go_wp2
    refine wp_loop_rounds 1 ?_
    rw [rounds_succ]
    go_wp2
    go_end0
    exact ⟨rfl, OnlyB.refl _ _⟩
  · subst e
    obtain ⟨n, hn⟩ : ∃ n, n = os.length := ⟨_, rfl⟩
    have HN := Lib.hid hn
    have HLEN := Lib.hid ho.len
    have HGQ := Lib.hid hg
    have HAP := Lib.hid hd.apart
    have HS := Lib.hid hs
    have hn8 : n ≤ 64 := by omega
    have HNQ : Hid (∀ (j : Nat) (x : OpD) (d : Value), os[j]? = some x → dl[j]? = some d → d.ownBlock = none ∨ d.ownBlock ≠ some gq) := fun j x d hx hd' => apart_types (hd.own j x d hx hd').1 ho
    have HI0 : Hid (SpI w w base gq n cap 0 os dl (cellsO os dl)) := ⟨by rw [hn]; exact ho.own, fun j x d c u _ hx hd' hu => cellsO_at j hx hd' c u hu, fun j x d _ hx hd' => (hd.own j x d hx hd').1, OnlyB.refl _ _, Nat.le_refl _⟩
    have HBS := Lib.hid hbase
    rw [← hn]
    clear ho hd hs hl hh hnc hcm hcs htk hg hn hbase
    have hb9 := op_build9
    go_enter Tryd.func24, Tryd.ntmps24
    go_wp2
    go_loopg [2] n (fun g1 v wr => ∃ (i : Nat) (L : List Value), v = .int .i64 i ∧ i ≤ n ∧ n - i ≤ g1 ∧ Hid (SpI w wr base gq n cap i os dl L))
    case atStart => exact ⟨0, _, rfl, by omega, by omega, HI0⟩
    case round =>
      clear HI0
      obtain ⟨i, L, rfl, hi, hg1, HI⟩ := hrel
      by_cases hin : i < n
      · have hinz : (i : Int) < (n : Int) := by omega
        obtain ⟨x, hx⟩ : ∃ x, os[i]? = some x := ⟨_, List.getElem?_eq_getElem (by rw [← HN.out]; exact hin)⟩
        obtain ⟨d, hd⟩ : ∃ d, dl[i]? = some d := ⟨_, List.getElem?_eq_getElem (by rw [HLEN.out, ← HN.out]; exact hin)⟩
        have HX := Lib.hid hx
        have HD := Lib.hid hd
        have hown := HI.out.dep i x d (Nat.le_refl _) hx hd
        obtain ⟨da, dc, rfl, -⟩ := hown.form
        have hrow := fun c u hu => HI.out.row i x _ c u (Nat.le_refl _) hx hd hu
        have hsm := HS.out x (List.mem_of_getElem? hx)
        obtain ⟨⟨t, r, ds, kd, nt, nr, pt, pr, s, p, v⟩, q⟩ := x
        have hcl := fun c u (hc : c < 12) hu => (World.ownsRow.cellAt HI.out.own (i * 12 + c) (by omega)).trans (hrow c u hu)
        simp only at hown hsm
        have C := Lib.hid (overOp_any t r q da ds ds.length dc kd nt nr pt pr s p v base wr hown (Nat.le_trans HBS.out HI.out.size) hsm)
        have c0 : wr.cell? ⟨gq, i * 12, none⟩ = some (.int .i64 t) := hcl 0 _ (by omega) rfl
        have c1 : wr.cell? ⟨gq, i * 12 + 1, none⟩ = some (.int .i64 r) := hcl 1 _ (by omega) rfl
        have c2 : wr.cell? ⟨gq, i * 12 + 2, none⟩ = some (.int .i64 q) := hcl 2 _ (by omega) rfl
        have c3 : wr.cell? ⟨gq, i * 12 + 3, none⟩ = some (.slice da ds.length dc) := hcl 3 _ (by omega) rfl
        have c4 : wr.cell? ⟨gq, i * 12 + 4, none⟩ = some (.int .i64 kd) := hcl 4 _ (by omega) rfl
        have c5 : wr.cell? ⟨gq, i * 12 + 5, none⟩ = some (.int .i64 nt) := hcl 5 _ (by omega) rfl
        have c6 : wr.cell? ⟨gq, i * 12 + 6, none⟩ = some (.int .i64 nr) := hcl 6 _ (by omega) rfl
        have c7 : wr.cell? ⟨gq, i * 12 + 7, none⟩ = some (.int .i64 pt) := hcl 7 _ (by omega) rfl
        have c8 : wr.cell? ⟨gq, i * 12 + 8, none⟩ = some (.int .i64 pr) := hcl 8 _ (by omega) rfl
        have c9 : wr.cell? ⟨gq, i * 12 + 9, none⟩ = some (.string s) := hcl 9 _ (by omega) rfl
        have c10 : wr.cell? ⟨gq, i * 12 + 10, none⟩ = some (.int .i64 p) := hcl 10 _ (by omega) rfl
        have c11 : wr.cell? ⟨gq, i * 12 + 11, none⟩ = some (.int .i64 v) := hcl 11 _ (by omega) rfl
        have HDX : Hid (∀ (j : Nat) (y : OpD) (d' : Value), i + 1 ≤ j → os[j]? = some y → dl[j]? = some d' → d'.ownBlock = none ∨ d'.ownBlock ≠ (Value.slice da ds.length dc).ownBlock) := fun j y d' hj _ hd' => by
          have hl1 := (List.getElem?_eq_some_iff.1 HD.out).1
          have hl2 := (List.getElem?_eq_some_iff.1 hd').1
          have := List.pairwise_iff_getElem.1 HAP.out i j hl1 hl2 (by omega)
          rw [(List.getElem?_eq_some_iff.1 HD.out).2, (List.getElem?_eq_some_iff.1 hd').2] at this
          rcases this with h | h
          · cases hdb : d'.ownBlock with
            | none => exact .inl rfl
            | some k => rw [h]; right; simp
          · exact .inr (Ne.symm h)
        have HQN := Lib.hid (HNQ.out i _ _ HX.out HD.out)
        clear hx hd hown hrow hsm hcl
        generalize hdl : ds.length = dn at *
        go_wp2_with fail
        refine (C.out).mono ?_
        rintro e w1 ⟨rfl, hgr⟩
        have HO1 : Hid (w1.ownsRow base 32 12 (.slice (some ⟨gq, 0, none⟩) n cap) n L) := World.ownsRow.kept HI.out.own hgr (by right; intro e; rcases HQN.out with h | h; rw [h] at e; cases e; exact h e.symm)
        have HBL : Hid (OnlyB (fun k => k = gq ∨ ∃ d ∈ dl, d.ownBlock = some k) w w1) := HI.out.bel.grown hgr (fun k e => .inr ⟨_, List.mem_of_getElem? HD.out, e⟩)
        have HGR := Lib.hid hgr
        have hfr := fun j => World.ownsRow.frozenAt HO1.out j
        have hce := fun j (hj : j < n * 12) => World.ownsRow.cellAt HO1.out j hj
        have hLl : L.length = n * 12 := HO1.out.1
        have hcx : ∀ j, j < n * 12 → ∃ u, w1.cell? ⟨gq, j, none⟩ = some u := fun j hj => ⟨_, (hce j hj).trans (List.getElem?_eq_getElem (by omega))⟩
        obtain ⟨z0, e0⟩ := hcx (i * 12) (by omega)
        have f0 := hfr (i * 12)
        obtain ⟨z1, e1⟩ := hcx (i * 12 + 1) (by omega)
        have f1 := hfr (i * 12 + 1)
        obtain ⟨z2, e2⟩ := hcx (i * 12 + 2) (by omega)
        have f2 := hfr (i * 12 + 2)
        obtain ⟨z3, e3⟩ := hcx (i * 12 + 3) (by omega)
        have f3 := hfr (i * 12 + 3)
        obtain ⟨z4, e4⟩ := hcx (i * 12 + 4) (by omega)
        have f4 := hfr (i * 12 + 4)
        obtain ⟨z5, e5⟩ := hcx (i * 12 + 5) (by omega)
        have f5 := hfr (i * 12 + 5)
        obtain ⟨z6, e6⟩ := hcx (i * 12 + 6) (by omega)
        have f6 := hfr (i * 12 + 6)
        obtain ⟨z7, e7⟩ := hcx (i * 12 + 7) (by omega)
        have f7 := hfr (i * 12 + 7)
        obtain ⟨z8, e8⟩ := hcx (i * 12 + 8) (by omega)
        have f8 := hfr (i * 12 + 8)
        obtain ⟨z9, e9⟩ := hcx (i * 12 + 9) (by omega)
        have f9 := hfr (i * 12 + 9)
        obtain ⟨z10, e10⟩ := hcx (i * 12 + 10) (by omega)
        have f10 := hfr (i * 12 + 10)
        obtain ⟨z11, e11⟩ := hcx (i * 12 + 11) (by omega)
        have f11 := hfr (i * 12 + 11)
        have HI2 : Hid (SpI w ((((((((((((w1.setCell ⟨gq, i * 12, none⟩ (.int .i64 0)).setCell ⟨gq, i * 12 + 1, none⟩ (.int .i64 0)).setCell ⟨gq, i * 12 + 2, none⟩ (.int .i64 (-9))).setCell ⟨gq, i * 12 + 3, none⟩ (.slice none 0 0)).setCell ⟨gq, i * 12 + 4, none⟩ (.int .i64 0)).setCell ⟨gq, i * 12 + 5, none⟩ (.int .i64 0)).setCell ⟨gq, i * 12 + 6, none⟩ (.int .i64 0)).setCell ⟨gq, i * 12 + 7, none⟩ (.int .i64 0)).setCell ⟨gq, i * 12 + 8, none⟩ (.int .i64 0)).setCell ⟨gq, i * 12 + 9, none⟩ (.string ⟨#[]⟩)).setCell ⟨gq, i * 12 + 10, none⟩ (.int .i64 0)).setCell ⟨gq, i * 12 + 11, none⟩ (.int .i64 0)) base gq n cap (i + 1) os dl ((((((((((((L.set (i * 12) (.int .i64 0)).set (i * 12 + 1) (.int .i64 0)).set (i * 12 + 2) (.int .i64 (-9))).set (i * 12 + 3) (.slice none 0 0)).set (i * 12 + 4) (.int .i64 0)).set (i * 12 + 5) (.int .i64 0)).set (i * 12 + 6) (.int .i64 0)).set (i * 12 + 7) (.int .i64 0)).set (i * 12 + 8) (.int .i64 0)).set (i * 12 + 9) (.string ⟨#[]⟩)).set (i * 12 + 10) (.int .i64 0)).set (i * 12 + 11) (.int .i64 0))) := by
          refine ⟨(World.ownsRow.stored (World.ownsRow.stored (World.ownsRow.stored (World.ownsRow.stored (World.ownsRow.stored (World.ownsRow.stored (World.ownsRow.stored (World.ownsRow.stored (World.ownsRow.stored (World.ownsRow.stored (World.ownsRow.stored (World.ownsRow.stored HO1.out (i * 12) (.int .i64 0)).1 (i * 12 + 1) (.int .i64 0)).1 (i * 12 + 2) (.int .i64 (-9))).1 (i * 12 + 3) (.slice none 0 0)).1 (i * 12 + 4) (.int .i64 0)).1 (i * 12 + 5) (.int .i64 0)).1 (i * 12 + 6) (.int .i64 0)).1 (i * 12 + 7) (.int .i64 0)).1 (i * 12 + 8) (.int .i64 0)).1 (i * 12 + 9) (.string ⟨#[]⟩)).1 (i * 12 + 10) (.int .i64 0)).1 (i * 12 + 11) (.int .i64 0)).1, fun j y d' c u hj hy hd' hu => ?_, fun j y d' hj hy hd' => ?_, ((((((((((((HBL.out.setCell (p := ⟨gq, i * 12, none⟩) (.inl rfl) (.int .i64 0)).setCell (p := ⟨gq, i * 12 + 1, none⟩) (.inl rfl) (.int .i64 0)).setCell (p := ⟨gq, i * 12 + 2, none⟩) (.inl rfl) (.int .i64 (-9))).setCell (p := ⟨gq, i * 12 + 3, none⟩) (.inl rfl) (.slice none 0 0)).setCell (p := ⟨gq, i * 12 + 4, none⟩) (.inl rfl) (.int .i64 0)).setCell (p := ⟨gq, i * 12 + 5, none⟩) (.inl rfl) (.int .i64 0)).setCell (p := ⟨gq, i * 12 + 6, none⟩) (.inl rfl) (.int .i64 0)).setCell (p := ⟨gq, i * 12 + 7, none⟩) (.inl rfl) (.int .i64 0)).setCell (p := ⟨gq, i * 12 + 8, none⟩) (.inl rfl) (.int .i64 0)).setCell (p := ⟨gq, i * 12 + 9, none⟩) (.inl rfl) (.string ⟨#[]⟩)).setCell (p := ⟨gq, i * 12 + 10, none⟩) (.inl rfl) (.int .i64 0)).setCell (p := ⟨gq, i * 12 + 11, none⟩) (.inl rfl) (.int .i64 0)), ?_⟩
          · have hc12 : c < 12 := by have := (List.getElem?_eq_some_iff.1 hu).1; rwa [cells12] at this
            have := HI.out.row j y d' c u (by omega) hy hd' hu
            rw [List.getElem?_set_ne (by omega), List.getElem?_set_ne (by omega), List.getElem?_set_ne (by omega), List.getElem?_set_ne (by omega), List.getElem?_set_ne (by omega), List.getElem?_set_ne (by omega), List.getElem?_set_ne (by omega), List.getElem?_set_ne (by omega), List.getElem?_set_ne (by omega), List.getElem?_set_ne (by omega), List.getElem?_set_ne (by omega), List.getElem?_set_ne (by omega)]
            exact this
          · have hnq := HNQ.out j y d' hy hd'
            exact ((((((((((((((HI.out.dep j y d' (by omega) hy hd').grown HGR.out (HDX.out j y d' hj hy hd')).grown (grown_setCell _ ⟨gq, i * 12, none⟩ (.int .i64 0)) hnq).grown (grown_setCell _ ⟨gq, i * 12 + 1, none⟩ (.int .i64 0)) hnq).grown (grown_setCell _ ⟨gq, i * 12 + 2, none⟩ (.int .i64 (-9))) hnq).grown (grown_setCell _ ⟨gq, i * 12 + 3, none⟩ (.slice none 0 0)) hnq).grown (grown_setCell _ ⟨gq, i * 12 + 4, none⟩ (.int .i64 0)) hnq).grown (grown_setCell _ ⟨gq, i * 12 + 5, none⟩ (.int .i64 0)) hnq).grown (grown_setCell _ ⟨gq, i * 12 + 6, none⟩ (.int .i64 0)) hnq).grown (grown_setCell _ ⟨gq, i * 12 + 7, none⟩ (.int .i64 0)) hnq).grown (grown_setCell _ ⟨gq, i * 12 + 8, none⟩ (.int .i64 0)) hnq).grown (grown_setCell _ ⟨gq, i * 12 + 9, none⟩ (.string ⟨#[]⟩)) hnq).grown (grown_setCell _ ⟨gq, i * 12 + 10, none⟩ (.int .i64 0)) hnq).grown (grown_setCell _ ⟨gq, i * 12 + 11, none⟩ (.int .i64 0)) hnq)
          · have h1 := HI.out.size
            have h2 := HGR.out.size
            simp only [World.size_setCell]
            omega
        clear hgr hfr hce hcx hLl C c0 c1 c2 c3 c4 c5 c6 c7 c8 c9 c10 c11
        go_wp2
        go_roundg (n - (i + 1))
        case measure => omega
        case rel => exact ⟨i + 1, _, by go_num, by omega, by omega, HI2⟩
      · have hinz : ¬ (i : Int) < (n : Int) := by omega
        go_wp2
        go_end0
        refine ⟨rfl, OnlyB.mono (S := fun k => k = gq ∨ ∃ d ∈ dl, d.ownBlock = some k) HI.out.bel (fun k h => ?_)⟩
        rcases h with h | h
        · left
          rw [h]
          rfl
        · exact .inr h
end Go.Proofs.YtdpopdlifcjdeaaDoor
