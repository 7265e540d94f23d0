/- Joined: D35. -/
import Derived.Test.YtdpopdlifcjdeaaDoorYD33
import Derived.Test.YtdpopdlifcjdeaaDoorYD28
import Derived.Deep.CutRange
import Derived.BigRegion
import Derived.Deep.RegionHeld3

/- HoldOrders: what is issued. -/
namespace Go.Proofs.YtdpopdlifcjdeaaDoor
open Go.RowKit Go.Lib
set_option linter.unusedVariables false

/-- what is held while operations are issued -/
structure IsS (W0 W : World) (g B1 m : Nat) (gs : List Nat) (hv : List (List Int)) (aa : Option Addr) (ac : Nat) (os : List OpD) (dl : List Value) : Prop where
  rr : RR W (g + 1) B1 (g + 1) m hv gs
  own : OwnO W B1 (.slice aa os.length ac) os dl
  dep : DepsO W B1 os dl
  bel : Below (g + 1) W0 W
  bB : B1 ≤ W.heap.size
  gB : g + 1 < B1
section
variable {W0 W W' : World} {g B1 m : Nat} {gs : List Nat} {hv : List (List Int)} {aa : Option Addr} {ac : Nat} {os : List OpD} {dl : List Value}
theorem IsS.next (h : IsS W0 W g B1 m gs hv aa ac os dl) (hb : Below W.heap.size W W') : IsS W0 W' g B1 m gs hv aa ac os dl :=
  ⟨h.rr.belowB (hb.mono h.bB), h.own.below hb, h.dep.below hb, h.bel.trans (hb.mono (by have := h.bB; have := h.gB; omega)), Nat.le_trans h.bB hb.size, h.gB⟩
theorem IsS.store {r gr : Nat} {z : List Int} (h : IsS W0 W g B1 m gs hv aa ac os dl) (hg : gs[r]? = some gr) (hz : hv[r]? = some z) (k : Nat) (u : Int) : IsS W0 (W.setCell ⟨gr, k, none⟩ (.int .i64 u)) g B1 m gs (hv.set r (z.set k u)) aa ac os dl := by
  have h1 := (h.rr.row r gr z hg hz).1.lt rfl
  have h2 := (h.rr.ne r gr hg).2
  exact ⟨h.rr.store hg hz k u, h.own.far h2 _ _, h.dep.far h2 _ _, h.bel.setCell (p := ⟨gr, k, none⟩) (by show g + 1 ≤ gr; exact h1.1) _, by rw [World.size_setCell]; exact h.bB, h.gB⟩
theorem IsS.story (h : IsS W0 W g B1 m gs hv aa ac os dl) {i : Nat} {u : Value} (hc : W0.cell? ⟨g, i, none⟩ = some u) : W.cell? ⟨g, i, none⟩ = some u := (h.bel.cell (p := ⟨g, i, none⟩) (Nat.lt_succ_self g)).trans hc
theorem IsS.row {r : Nat} (h : IsS W0 W g B1 m gs hv aa ac os dl) (hl : gs.length = m) (hr : r < m) : ∃ gr z, gs[r]? = some gr ∧ hv[r]? = some z ∧ z.length = m := by
  have h1 := h.rr.gl
  refine ⟨gs[r]'(by omega), hv[r]'(by omega), List.getElem?_eq_getElem _, List.getElem?_eq_getElem _, ?_⟩
  exact (h.rr.row r _ _ (List.getElem?_eq_getElem (by omega)) (List.getElem?_eq_getElem (by omega))).2
end
theorem opAt_other {W : World} {b o g : Nat} {t r q : Int} {da : Option Addr} {dn dc : Nat} {k nt nr pt pr : Int} {s : ByteArray} {p v : Int} (h : OpAt W b o t r q da dn dc k nt nr pt pr s p v) (hne : g ≠ b) (i : Nat) (u : Value) : OpAt (W.setCell ⟨g, i, none⟩ u) b o t r q da dn dc k nt nr pt pr s p v := by
  have key : ∀ j, (W.setCell ⟨g, i, none⟩ u).cell? ⟨b, j, none⟩ = W.cell? ⟨b, j, none⟩ := fun j => World.cell?_setCell_far _ _ _ _ (by simpa using hne)
  exact ⟨(key _).trans h.c0, (key _).trans h.c1, (key _).trans h.c2, (key _).trans h.c3, (key _).trans h.c4, (key _).trans h.c5, (key _).trans h.c6, (key _).trans h.c7, (key _).trans h.c8, (key _).trans h.c9, (key _).trans h.c10, (key _).trans h.c11⟩
theorem IsS.push {W0 wc W3 W6 : World} {g B1 m i : Nat} {gs : List Nat} {hv0 hv : List (List Int)} {aa : Option Addr} {ac : Nat} {os : List OpD} {dl : List Value} {x : OpD} {d v' : Value} (hi : os.length = i) (h0 : IsS W0 wc g B1 m gs hv0 aa ac os dl) (h : IsS W0 W3 g B1 m gs hv aa ac os dl) (hd : OwnK .i64 3 W3 wc.heap.size d x.1.ds) (hl : x.1.ds.length ≤ 17592186044416) (hp : GrewO B1 W3 (.slice aa i ac) os dl x d v' W6) : ∃ aa' ac', v' = .slice aa' (i + 1) ac' ∧ (os ++ [x]).length = i + 1 ∧ IsS W0 W6 g B1 m gs hv aa' ac' (os ++ [x]) (dl ++ [d]) := by
  obtain ⟨a, n', c', e, h1, h2, h3⟩ := hp.own.form
  have hlen : (os ++ [x]).length = i + 1 := by rw [List.length_append, List.length_singleton, hi]
  rw [hlen] at h1
  subst h1 e
  have hB : Below B1 W3 W6 := hp.bel (Below.refl _ _) (Nat.le_refl _) h.bB
  refine ⟨a, c', rfl, hlen, h.rr.belowB hB, by rw [hlen]; exact hp.own, DepsO.push h0.dep h0.own.len (hp.deps h.dep) ((hp.row hd).mono h0.bB) hl (fun g' e => (hd.lt e).1), h.bel.trans (hB.mono (by have := h.gB; omega)), Nat.le_trans h.bB hB.size, h.gB⟩
abbrev objI (i r : Nat) (z : Int) (da : Option Addr) (m dc : Nat) : Obj := .cells #[.int .i64 ((i : Int) + 1), .int .i64 (r : Int), .int .i64 (z + 1), .slice da m dc, .int .i64 1, .int .i64 ((i : Int) + 1), .int .i64 (r : Int), .int .i64 0, .int .i64 0, .string ⟨#[107]⟩, .int .i64 0, .int .i64 0] 32
abbrev setsI (W : World) (g : Nat) (i r : Nat) (z : Int) (da : Option Addr) (m dc : Nat) : World := ((((((((((((W.setCell ⟨g, 0, none⟩ (.int .i64 ((i : Int) + 1))).setCell ⟨g, 1, none⟩ (.int .i64 (r : Int))).setCell ⟨g, 2, none⟩ (.int .i64 (z + 1))).setCell ⟨g, 3, none⟩ (.slice da m dc)).setCell ⟨g, 4, none⟩ (.int .i64 1)).setCell ⟨g, 5, none⟩ (.int .i64 ((i : Int) + 1))).setCell ⟨g, 6, none⟩ (.int .i64 (r : Int))).setCell ⟨g, 7, none⟩ (.int .i64 0)).setCell ⟨g, 8, none⟩ (.int .i64 0)).setCell ⟨g, 9, none⟩ (.string ⟨#[107]⟩)).setCell ⟨g, 10, none⟩ (.int .i64 0)).setCell ⟨g, 11, none⟩ (.int .i64 0))
/-- the operation in its variable, its Deps of their own -/
structure ExI (w16 W : World) (gz : Nat) (i r : Nat) (z : Int) (a : List Int) (da : Option Addr) (m dc : Nat) : Prop where
  bel : Below w16.heap.size w16 W
  opd : OwnK .i64 3 W w16.heap.size (.slice da m dc) a
  box : OpAt W gz 0 ((i : Int) + 1) r (z + 1) da m dc 1 ((i : Int) + 1) r 0 0 ⟨#[107]⟩ 0 0
  gz : w16.heap.size ≤ gz
theorem setsI_bel {w16 W : World} {g : Nat} (i r : Nat) (z : Int) (da : Option Addr) (m dc : Nat) (hb : Below w16.heap.size w16 W) (hg : w16.heap.size ≤ g) : Below w16.heap.size w16 (setsI W g i r z da m dc) :=
  ((((((((((((hb.setCell (p := ⟨g, 0, none⟩) hg _).setCell (p := ⟨g, 1, none⟩) hg _).setCell (p := ⟨g, 2, none⟩) hg _).setCell (p := ⟨g, 3, none⟩) hg _).setCell (p := ⟨g, 4, none⟩) hg _).setCell (p := ⟨g, 5, none⟩) hg _).setCell (p := ⟨g, 6, none⟩) hg _).setCell (p := ⟨g, 7, none⟩) hg _).setCell (p := ⟨g, 8, none⟩) hg _).setCell (p := ⟨g, 9, none⟩) hg _).setCell (p := ⟨g, 10, none⟩) hg _).setCell (p := ⟨g, 11, none⟩) hg _)
theorem exi_sets {w16 W : World} {gz i r m dc b3 : Nat} {z : Int} {a : List Int} {da : Option Addr} (hb : Below w16.heap.size w16 W) (hg : w16.heap.size ≤ gz) (hz : Blk W gz (zR.cells 0 (.slice none 0 0))) (h4 : OwnK .i64 3 W b3 (.slice da m dc) a) (n3 : w16.heap.size ≤ b3) (e4 : (Value.slice da m dc).ownBlock ≠ some gz) : ExI w16 (setsI W gz i r z da m dc) gz i r z a da m dc := by
  have gr : W.grownBy (setsI W gz i r z da m dc) (some gz) := by
    have key : ∀ (V : World) (i : Nat) (u : Value), W.grownBy V (some gz) → W.grownBy (V.setCell ⟨gz, i, none⟩ u) (some gz) := fun V i u h => h.trans (grown_setCell V ⟨gz, i, none⟩ u)
    refine key _ 11 _ (key _ 10 _ (key _ 9 _ (key _ 8 _ (key _ 7 _ (key _ 6 _ (key _ 5 _ (key _ 4 _ (key _ 3 _ (key _ 2 _ (key _ 1 _ (key _ 0 _ (World.grownBy.refl _ _))))))))))))
  have hZ := ((((((((((((hz.set 0 (.int .i64 ((i : Int) + 1))).set 1 (.int .i64 (r : Int))).set 2 (.int .i64 (z + 1))).set 3 (.slice da m dc)).set 4 (.int .i64 1)).set 5 (.int .i64 ((i : Int) + 1))).set 6 (.int .i64 (r : Int))).set 7 (.int .i64 0)).set 8 (.int .i64 0)).set 9 (.string ⟨#[107]⟩)).set 10 (.int .i64 0)).set 11 (.int .i64 0))
  exact ⟨setsI_bel i r z da m dc hb hg, (h4.grown gr (.inr e4)).mono n3, ⟨hZ.cell 0 _ rfl, hZ.cell 1 _ rfl, hZ.cell 2 _ rfl, hZ.cell 3 _ rfl, hZ.cell 4 _ rfl, hZ.cell 5 _ rfl, hZ.cell 6 _ rfl, hZ.cell 7 _ rfl, hZ.cell 8 _ rfl, hZ.cell 9 _ rfl, hZ.cell 10 _ rfl, hZ.cell 11 _ rfl⟩, hg⟩
theorem exi_alloc {w16 W : World} {i r m dc b3 : Nat} {z : Int} {a : List Int} {da : Option Addr} (hb : Below w16.heap.size w16 W) (h4 : OwnK .i64 3 W b3 (.slice da m dc) a) (n3 : w16.heap.size ≤ b3) : ExI w16 (W.alloc (objI i r z da m dc)) W.heap.size i r z a da m dc := by
  have hx := box_bel W (objI i r z da m dc)
  exact ⟨hb.trans (hx.mono hb.size), (h4.below hx).mono n3, OpAt.new W _ _ _ da a m dc _ _ _ _ _ _ _ _, hb.size⟩
theorem exi_bel {w16 W : World} {g gr r m : Nat} {z : Int} (h : W.cell? ⟨g + 1, r, none⟩ = some (.slice (some ⟨gr, 0, none⟩) m m) ∧ W.cell? ⟨gr, r, none⟩ = some (.int .i64 z) ∧ Hid (Below w16.heap.size w16 W)) : Below w16.heap.size w16 W := h.2.2

theorem st_build2 (x y : Int) (w : World) : (Instr.build 30 #[(0, .int .i64 x), (1, .int .i64 y)]).run Tryd.prog w = .ok (.agg #[.int .i64 x, .int .i64 y]) w := run_build w 30 _ _ (by kernel_rfl)
theorem op_buildI (t r q nt nr : Int) (da : Option Addr) (dn dc : Nat) (w : World) : (Instr.build 32 #[(0, .agg #[.int .i64 t, .int .i64 r]), (1, .int .i64 q), (2, .slice da dn dc), (3, .int .i64 1), (4, .agg #[.int .i64 nt, .int .i64 nr]), (6, .string ⟨#[107]⟩)]).run Tryd.prog w = .ok (.agg #[.int .i64 t, .int .i64 r, .int .i64 q, .slice da dn dc, .int .i64 1, .int .i64 nt, .int .i64 nr, .int .i64 0, .int .i64 0, .string ⟨#[107]⟩, .int .i64 0, .int .i64 0]) w := run_build w 32 _ _ (by kernel_rfl)

theorem IsI.small {m : Nat} {hv : List (List Int)} {os : List OpD} {c : List Int} (h : IsI m hv os c) {r : Nat} {a : List Int} (ha : hv[r]? = some a) (hl : os.length ≤ 16) : 0 ≤ a.getD r 0 ∧ a.getD r 0 ≤ 16 := by
  have h1 := h.le r a ha r
  have h2 := (le_sum c r h.cas.c0).2
  have h3 := h.cas.sum
  omega
def IssPost (m : Nat) (w : World) (e : Ending) (w' : World) : Prop := ∃ (os : List OpD) (c : List Int) (a : Option Addr) (n cap : Nat), e = .returned (.slice a n cap) ∧ n = os.length ∧ n ≤ cap ∧ RowO w' a os ∧ Cas m os c ∧ os.length ≤ 16 ∧ Below w.heap.size w w'
theorem iss_end {w W0 W : World} {g B1 m i : Nat} {gs : List Nat} {hv : List (List Int)} {aa : Option Addr} {ac : Nat} {os : List OpD} {dl : List Value} {c : List Int} (hg : w.heap.size = g) (h0 : Below g w W0) (hi : os.length = i) (hi16 : i ≤ 16) (hI : IsI m hv os c) (h : IsS W0 W g B1 m gs hv aa ac os dl) : IssPost m w (.returned (.slice aa i ac)) W := by
  obtain ⟨a, n, cap, e, h1, h2, h3⟩ := h.own.row h.dep.read
  rw [hi] at e
  injection e with e1 e2 e3
  subst e1 e2 e3
  exact ⟨os, c, _, _, _, rfl, h1, h2, h3, hI.cas, by omega, by rw [hg]; exact h0.trans (h.bel.mono (Nat.le_succ g))⟩

set_option maxHeartbeats 8000000 in
set_option maxRecDepth 100000 in
theorem issued_any (rp : Int) (ka : Option Addr) (ks : List Int) (kn kc : Nat) (ea : Option Addr) (es : List Int) (en ec : Nat) (ra : Option Addr) (rs : List Int) (rn rc : Nat) (w : World) (h : StR w rp ka ks kn kc ea es en ec ra rs rn rc) (m : Nat) (hm : (m : Int) = 1 + withinI rp 4) :
    Calls Tryd.prog 26 #[.agg #[.int .i64 rp, .slice ka kn kc, .slice ea en ec, .slice ra rn rc], .int .i64 16] w (IssPost m w) := by
  have mixed : Tryd.prog.follows .mixedOrders = true := by kernel_rfl
  have hbT := st_buildT
  have hq := within_rng rp 4 (by decide)
  have hm1 : 1 ≤ m := by omega
  have hm4 : m ≤ 4 := by omega
  obtain ⟨g, hg⟩ : ∃ g, w.heap.size = g := ⟨_, rfl⟩
  have HG := Lib.hid hg
  have HST := Lib.hid h
  obtain ⟨W0, hW0⟩ : ∃ W0, w.alloc (stO rp ka kn kc ea en ec ra rn rc) = W0 := ⟨_, rfl⟩
  have HB0 : Hid (Below g w W0) := by show Below _ _ _; rw [← hW0, ← hg]; exact box_bel w _
  have HZ0 : Hid (W0.heap.size = g + 1) := by show _ = _; rw [← hW0]; simp [hg]
  have HC1 : Hid (W0.cell? ⟨g, 1, none⟩ = some (.slice ka kn kc)) := by show _ = _; rw [← hW0, ← hg]; simp
  have HC2 : Hid (W0.cell? ⟨g, 2, none⟩ = some (.slice ea en ec)) := by show _ = _; rw [← hW0, ← hg]; simp
  have hc0 : W0.cell? ⟨g, 0, none⟩ = some (.int .i64 rp) := by rw [← hW0, ← hg]; simp
  have CW := Lib.hid (fun W => withinN_any rp 4 W (by decide) (by decide))
  have hw1 : IntKind.i64.wrap (1 + withinI rp 4) = (m : Int) := by rw [← hm]; exact IntWalk.i64_in _ (by omega)
  have hw2 : wrap64 (1 + withinI rp 4) = (m : Int) := by rw [← hm]; exact IntWalk.wrap64_in _ (by omega)
  have hmk1 : ∀ W, (Instr.makeSlice 22 (.int .i64 (m : Int)) (.int .i64 (m : Int))).run Tryd.prog W = .ok (.slice (some ⟨W.heap.size, 0, none⟩) m m) (W.alloc (.cells (madeCells #[.int .i64 0] m) 3)) := fun W => makeI m (by omega) W
  have hmk2 : ∀ W, (Instr.makeSlice 74 (.int .i64 (m : Int)) (.int .i64 (m : Int))).run Tryd.prog W = .ok (.slice (some ⟨W.heap.size, 0, none⟩) m m) (W.alloc (.cells (madeCells #[.slice none 0 0] m) 22)) := fun W => makeR m (by omega) W
  have HS0 : Hid (RR (W0.alloc (.cells (madeCells #[.slice none 0 0] m) 22)) (g + 1) (g + 2) (g + 1) m [] []) := by
    have := RR.start W0 (g + 1) m (by rw [HZ0.out]; exact Nat.le_refl _)
    rw [HZ0.out] at this
    exact this
  have HB1 : Hid (Below (g + 1) W0 (W0.alloc (.cells (madeCells #[.slice none 0 0] m) 22))) := (Below.refl _ _).alloc (Nat.le_of_eq HZ0.out.symm) _
  have hsz := HZ0.out
  clear h hq hm
  generalize withinI rp 4 = q at *
  go_enter Tryd.func26, Tryd.ntmps26
  go_wp2_with fail
  refine (CW.out _).mono ?_
  rintro e wn ⟨rfl, rfl⟩
  go_wp2_with fail
  clear hmk2 hc0 hw1 hw2 CW hsz
  clear hW0
  have HHG : Hid (w.heap.size = g) := hg
  go_loopg [8] m (fun g1 v wr => ∃ (r : Nat) (gs : List Nat), v = .int .i64 r ∧ r ≤ m ∧ m - r ≤ g1 ∧ Hid (gs.length = r ∧ RR wr (g + 1) wr.heap.size (g + 1) m (List.replicate r (List.replicate m 0)) gs ∧ Below (g + 1) W0 wr ∧ g + 1 ≤ wr.heap.size))
  case atStart => exact ⟨0, [], rfl, Nat.zero_le _, by omega, rfl, by rw [World.size_alloc, HZ0.out]; exact HS0.out, HB1.out, by rw [World.size_alloc, HZ0.out]; omega⟩
  case round =>
    obtain ⟨r, gs, rfl, hr, hg1, HI⟩ := hrel
    by_cases hlt : r < m
    · have hltz : (r : Int) < (m : Int) := by omega
      have HI2 : Hid (RR ((wr.alloc (.cells (madeCells #[.int .i64 0] m) 3)).setCell ⟨g + 1, r, none⟩ (slG m wr.heap.size)) (g + 1) (wr.heap.size + 1) (g + 1) m (List.replicate (r + 1) (List.replicate m 0)) (gs ++ [wr.heap.size])) := by
        have := HI.out.2.1.push (by omega) (by rw [HI.out.1]; exact hlt) HI.out.2.2.2 (Nat.le_refl _) HI.out.1
        rw [List.replicate_succ']
        exact this
      have h1 := HI.out.2.1.blk.cell r (.slice none 0 0) (by have h := rowsV_nil (m := m) (gs := gs) (by rw [HI.out.1]; exact hlt); rw [HI.out.1] at h; exact h)
      have h2 := HI.out.2.1.blk.free r (.slice none 0 0) (by have h := rowsV_nil (m := m) (gs := gs) (by rw [HI.out.1]; exact hlt); rw [HI.out.1] at h; exact h)
      have h3 : (wr.alloc (.cells (madeCells #[.int .i64 0] m) 3)).cell? ⟨g + 1, r, none⟩ = some (.slice none 0 0) := ((box_bel wr _).cell (p := ⟨g + 1, r, none⟩) HI.out.2.1.hB).trans h1
      have h4 : (wr.alloc (.cells (madeCells #[.int .i64 0] m) 3)).frozen? ⟨g + 1, r, none⟩ = false := ((box_bel wr _).frozen (p := ⟨g + 1, r, none⟩) HI.out.2.1.hB).trans h2
      have HB2 : Hid (Below (g + 1) W0 ((wr.alloc (.cells (madeCells #[.int .i64 0] m) 3)).setCell ⟨g + 1, r, none⟩ (slG m wr.heap.size))) := (HI.out.2.2.1.alloc HI.out.2.2.2 _).setCell (p := ⟨g + 1, r, none⟩) (Nat.le_refl _) _
      clear h1 h2
      go_wp2_with fail
      go_roundg (m - (r + 1))
      case measure => omega
      case rel => exact ⟨r + 1, gs ++ [wr.heap.size], by go_num, by omega, by omega, by rw [List.length_append, HI.out.1]; rfl, by rw [World.size_setCell, World.size_alloc]; exact HI2.out, HB2.out, by rw [World.size_setCell, World.size_alloc]; have := HI.out.2.2.2; omega⟩
    · have hltz : ¬ (r : Int) < (m : Int) := by omega
      obtain rfl : m = r := by omega
      obtain ⟨B1, hB1⟩ : ∃ B1, wr.heap.size = B1 := ⟨_, rfl⟩
      have HIS : Hid (IsS W0 wr g B1 m gs (List.replicate m (List.replicate m 0)) none 0 [] []) := by
        have h2 := HI.out.2.1
        rw [hB1] at h2
        exact ⟨h2, OwnO.nil _ _, DepsO.nil _ _, HI.out.2.2.1, Nat.le_of_eq hB1.symm, by have := h2.hB; exact this⟩
      have HGL : Hid (gs.length = m) := HI.out.1
      have HII : Hid (IsI m (List.replicate m (List.replicate m 0)) [] (List.replicate m 0)) := IsI.start hm1 (by omega)
      have hmz : (0 : Int) < (m : Int) := by omega
      clear HI hB1
      go_wp2_with fail
      go_loopg [6, 9, 10, 11, 12, 13] 16 (fun g1 s6 s9 _ _ _ _ wx => ∃ (i : Nat) (hv : List (List Int)) (os : List OpD) (c : List Int) (aa : Option Addr) (ac : Nat) (dl : List Value), s6 = .slice aa i ac ∧ s9 = .int .i64 (i : Int) ∧ i ≤ 16 ∧ 16 - i ≤ g1 ∧ Hid (os.length = i ∧ IsI m hv os c ∧ IsS W0 wx g B1 m gs hv aa ac os dl))
      case atStart => exact ⟨0, _, [], _, none, 0, [], rfl, rfl, by omega, by omega, rfl, HII.out, HIS.out⟩
      case round =>
        obtain ⟨i, hv, os, c, aa, ac, dl, rfl, rfl, hi16, hg2, HX⟩ := hrel
        have HE := Lib.hid (iss_end (i := i) HHG.out HB0.out HX.out.1 hi16 HX.out.2.1 HX.out.2.2)
        have s1 := HX.out.2.2.story HC1.out
        by_cases hin : i < kn
        · have hinz : decide ((i : Int) < (kn : Int)) = true := decide_eq_true (by omega)
          have hiny : (i : Int) < (kn : Int) := by omega
          by_cases hi : i < 16
          · have hiz : decide ((i : Int) < 16) = true := decide_eq_true (by omega)
            have hiy : (i : Int) < 16 := by omega
            have HBX : Hid (Below g w wr) := HB0.out.trans (HX.out.2.2.bel.mono (Nat.le_succ g))
            obtain ⟨kb, ko, rfl, hkc⟩ := (HST.out.rk.below HBX.out (Nat.le_of_eq HHG.out)) i (by have := HST.out.kl; omega)
            have CW := Lib.hid (fun W => withinN_any (ks.getD i 0) (m : Int) W (by omega) (by omega))
            have hr0 := within_rng (ks.getD i 0) (m : Int) (by omega)
            obtain ⟨r, hr⟩ : ∃ r : Nat, withinI (ks.getD i 0) (m : Int) = (r : Int) := ⟨(withinI (ks.getD i 0) (m : Int)).toNat, by omega⟩
            rw [hr] at CW hr0
            have hrm : r < m := by omega
            have hrm2 : (r : Int) < (m : Int) := by omega
            clear hr hr0
            generalize ks.getD i 0 = kz at *
            go_wp2_with fail
            refine (CW.out _).mono ?_
            rintro e wn ⟨rfl, rfl⟩
            clear CW hkc
            obtain ⟨gr, a, hgr, ha, hal⟩ := HX.out.2.2.row HGL.out hrm
            have HGR := Lib.hid hgr
            have HA := Lib.hid ha
            have HAL := Lib.hid hal
            clear hgr ha hal
            have s2 := HX.out.2.2.story HC2.out
            go_upto_if 53 with fail
            go_cut [11, 12] from 30 to 121 (fun _ _ wc => Hid (∃ hv', IsI m hv' os c ∧ IsS W0 wc g B1 m gs hv' aa ac os dl))
            case first =>
              by_cases hen : i < en
              · have hend : decide ((i : Int) < (en : Int)) = true := decide_eq_true (by omega)
                have heny : (i : Int) < (en : Int) := by omega
                obtain ⟨eb, eo, rfl, hec⟩ := (HST.out.re.below HBX.out (Nat.le_of_eq HHG.out)) i (by have := HST.out.el; omega)
                have CW := Lib.hid (fun W => withinN_any (es.getD i 0) (m : Int) W (by omega) (by omega))
                have hr0 := within_rng (es.getD i 0) (m : Int) (by omega)
                obtain ⟨s, hs⟩ : ∃ s : Nat, withinI (es.getD i 0) (m : Int) = (s : Int) := ⟨(withinI (es.getD i 0) (m : Int)).toNat, by omega⟩
                rw [hs] at CW hr0
                have hsm : s < m := by omega
                have hsm2 : (s : Int) < (m : Int) := by omega
                clear hs hr0
                generalize es.getD i 0 = ez at *
                go_wp2_with fail
                refine (CW.out _).mono ?_
                rintro e wn ⟨rfl, rfl⟩
                clear CW hec
                obtain ⟨gt, b, hgt, hb, hbl⟩ := HX.out.2.2.row HGL.out hsm
                have HGT := Lib.hid hgt
                have HB := Lib.hid hb
                clear hgt hb hbl
                have HX0 : Hid (IsS W0 wr g B1 m gs (hv.set r (mixL a b 0)) aa ac os dl) := by
                  show IsS _ _ _ _ _ _ _ _ _ _ _
                  rw [mixL_zero, set_selfR HA.out]
                  exact HX.out.2.2
                have HII2 : Hid (IsI m (hv.set r (maxL a b)) os c) := HX.out.2.1.hear HA.out HB.out
                clear s1 s2
                go_wp2_with fail
                go_loopg [12] m (fun g3 v wl => ∃ k : Nat, v = .int .i64 (k : Int) ∧ k ≤ m ∧ m - k ≤ g3 ∧ Hid (IsS W0 wl g B1 m gs (hv.set r (mixL a b k)) aa ac os dl))
                case atStart => exact ⟨0, rfl, Nat.zero_le _, by omega, HX0.out⟩
                case round =>
                  obtain ⟨k, rfl, hkm, hg3, HL⟩ := hrel
                  by_cases hkl : k < m
                  · have hkl2 : (k : Int) < (m : Int) := by omega
                    have c1 := HL.out.rr.cell HGR.out
                    have c2 := HL.out.rr.cell HGT.out
                    have hrow := set_atR (mixL a b k) HA.out
                    obtain ⟨c3, f3⟩ := HL.out.rr.at HGR.out hrow hkl
                    obtain ⟨b', hb', eb'⟩ := mix_other (k := k) HA.out HB.out (by rw [HAL.out]; exact hkl)
                    obtain ⟨c4, -⟩ := HL.out.rr.at HGT.out hb' hkl
                    rw [eb'] at c4
                    rw [mixL_at a b k k (by rw [HAL.out]; exact hkl), if_neg (Nat.lt_irrefl _)] at c3
                    have HL2 := HL.out.store HGR.out hrow k (max (a.getD k 0) (b.getD k 0))
                    rw [List.set_set, mixL_next a b k (by rw [HAL.out]; exact hkl)] at HL2
                    have hmx : max (a.getD k 0) (b.getD k 0) = if a.getD k 0 < b.getD k 0 then b.getD k 0 else a.getD k 0 := by
                      by_cases hz : a.getD k 0 < b.getD k 0
                      · rw [if_pos hz]; omega
                      · rw [if_neg hz]; omega
                    rw [hmx] at HL2
                    have HL3 := Lib.hid (HL2.next (Below.refl _ _).drew)
                    clear hrow hb' eb' HL2 hmx
                    generalize a.getD k 0 = za at *
                    generalize b.getD k 0 = zb at *
                    go_wp2_with fail
                    go_region
                    generalize (if za < zb then zb else za) = zm at HL3 ⊢
                    generalize (wr.setCell ⟨gr, k, none⟩ (.int .i64 zm)).drew = w5 at HL3 ⊢
                    go_wp2_with fail
                    go_roundg (m - (k + 1))
                    case measure => omega
                    case rel => exact ⟨k + 1, by go_num, by omega, by omega, HL3.out⟩
                  · have hkl2 : ¬ (k : Int) < (m : Int) := by omega
                    obtain rfl : m = k := by omega
                    have HL3 : Hid (IsS W0 wr g B1 m gs (hv.set r (maxL a b)) aa ac os dl) := by
                      have h := HL.out
                      rw [← mixL_all, HAL.out]
                      exact h
                    go_wp2_with fail
                    go_meet
                    case rel => exact ⟨_, HII2.out, HL3.out⟩
              · have hend : decide ((i : Int) < (en : Int)) = false := decide_eq_false (by omega)
                have heny : ¬ (i : Int) < (en : Int) := by omega
                go_wp2_with fail
                go_meet
                case rel => exact ⟨hv, HX.out.2.1, HX.out.2.2⟩
            case rest =>
              rename World => wA
              obtain ⟨hv', HI1, HX1⟩ := hcut.out
              have HII := Lib.hid HI1
              have HXX := Lib.hid HX1
              have HOL : Hid (os.length = i) := HX.out.1
              clear HI1 HX1 hcut HX HA HAL s1 s2 HGR
              obtain ⟨gr, a, hgr, ha, hal⟩ := HXX.out.row HGL.out hrm
              have HGR := Lib.hid hgr
              have HA := Lib.hid ha
              have HAL := Lib.hid hal
              clear hgr ha hal
              have hzr := HII.out.small HA.out (by rw [HOL.out]; exact hi16)
              obtain ⟨z, hz⟩ : ∃ z, a.getD r 0 = z := ⟨_, rfl⟩
              have HZ : Hid (a.getD r 0 = z) := hz
              have c1 := HXX.out.rr.cell HGR.out
              obtain ⟨c3, f3⟩ := HXX.out.rr.at HGR.out HA.out hrm
              rw [hz] at hzr c3
              have hgrl : gr < wA.heap.size := World.block_lt_of_cell? _ _ c3
              have hghl : g + 1 < wA.heap.size := World.block_lt_of_cell? _ _ c1
              have HROW := Lib.hid (ownK_row' (HXX.out.rr.row r gr a HGR.out HA.out).1)
              have CC := Lib.hid (fun W (hb : Below wA.heap.size wA W) => copyI_big (some ⟨gr, 0, none⟩) a m m W (HROW.out.below hb (Nat.le_refl _)) HAL.out.symm (by rw [HAL.out]; omega))
              have HS : Hid (∀ W, Below wA.heap.size wA W → W.cell? ⟨g + 1, r, none⟩ = some (.slice (some ⟨gr, 0, none⟩) m m) ∧ W.cell? ⟨gr, r, none⟩ = some (.int .i64 z) ∧ Hid (Below wA.heap.size wA W)) := fun W hb => ⟨(hb.cell (p := ⟨g + 1, r, none⟩) hghl).trans c1, (hb.cell (p := ⟨gr, r, none⟩) hgrl).trans c3, hb⟩
              have hbS := st_build2
              have hbI := op_buildI
              have HLE : Hid ((os.length + 1) * 120 ≤ 140737488355328) := by have := HOL.out; show _ ≤ _; omega
              have HAM : Hid (a.length ≤ 17592186044416) := by have := HAL.out; show _ ≤ _; omega
              have hib : -9223372036854775808 ≤ (i : Int) + 1 ∧ (i : Int) + 1 ≤ 9223372036854775807 := by omega
              have hzb : -9223372036854775808 ≤ z + 1 ∧ z + 1 ≤ 9223372036854775807 := by omega
              have hwi : wrap64 ((i : Int) + 1) = (i : Int) + 1 := IntWalk.wrap64_in _ hib
              have hwi2 : IntKind.i64.wrap ((i : Int) + 1) = (i : Int) + 1 := IntWalk.i64_in _ hib
              have hwz : wrap64 (z + 1) = z + 1 := IntWalk.wrap64_in _ hzb
              have hwz2 : IntKind.i64.wrap (z + 1) = z + 1 := IntWalk.i64_in _ hzb
              clear hz c1 c3 f3 hib hzb
              go_upto_region 18 with fail
              go_cut [13] from 30 to 121 (fun v13 wc => ∃ (gz : Nat) (da : Option Addr) (dc : Nat), v13 = .pointer (some ⟨gz, 0, none⟩) ∧ Hid (ExI wA wc gz i r z a da m dc))
              case first =>
                have hS0 := HS.out _ (Below.refl wA.heap.size wA).drew
                have hS0z := HS.out (wA.alloc (.cells #[.int .i64 0, .int .i64 0, .int .i64 0, .slice none 0 0, .int .i64 0, .int .i64 0, .int .i64 0, .int .i64 0, .int .i64 0, .string ⟨#[]⟩, .int .i64 0, .int .i64 0] 32)).drew ((Below.refl wA.heap.size wA).alloc (Nat.le_refl _) _).drew
                have HZ0 : Hid (Blk (wA.alloc (.cells #[.int .i64 0, .int .i64 0, .int .i64 0, .slice none 0 0, .int .i64 0, .int .i64 0, .int .i64 0, .int .i64 0, .int .i64 0, .string ⟨#[]⟩, .int .i64 0, .int .i64 0] 32)).drew wA.heap.size (zR.cells 0 (.slice none 0 0))) := (blk_new wA).drew
                go_wp2_with fail
                go_region_held3 (fun W => W.cell? ⟨g + 1, r, none⟩ = some (.slice (some ⟨gr, 0, none⟩) m m) ∧ W.cell? ⟨gr, r, none⟩ = some (.int .i64 z) ∧ Hid (Below wA.heap.size wA W)) (with_reducible assumption) (
                    (go_at_call 9
                     (with_reducible refine (CC.out _ (exi_bel (by with_reducible assumption))).mono ?_)
                     rintro e w17 ⟨v17, rfl, ho17, hb17⟩
                     have hf17 := ho17.form
                     rw [HAL.out] at hf17
                     obtain ⟨da17, dc17, rfl, -, -, -⟩ := hf17
                     have HE17 : Hid (Below wA.heap.size wA w17) := Below.trans (exi_bel (by with_reducible assumption)) (hb17.mono (Below.size (exi_bel (by with_reducible assumption))))
                     have HO17 := Lib.hid ho17
                     have hS17 := HS.out w17 HE17.out
                     have hS17z := HS.out (w17.alloc (.cells #[.int .i64 0, .int .i64 0, .int .i64 0, .slice none 0 0, .int .i64 0, .int .i64 0, .int .i64 0, .int .i64 0, .int .i64 0, .string ⟨#[]⟩, .int .i64 0, .int .i64 0] 32)) (HE17.out.alloc HE17.out.size _)
                     (first | (with_reducible have HZ17 := Lib.hid (HZ0.out.next hb17)) | skip)
                     have hz17 := hb17.size
                     have hSs := HS.out (w17.alloc (objI i r z da17 m dc17)) (HE17.out.alloc HE17.out.size _)
                     have hSa := HS.out _ (setsI_bel (g := wA.heap.size) i r z da17 m dc17 HE17.out (Nat.le_refl _))
                     (first | (have q0 := HZ17.out.cell 0 _ rfl; have p0 := HZ17.out.free 0 _ rfl; have q1 := HZ17.out.cell 1 _ rfl; have p1 := HZ17.out.free 1 _ rfl; have q2 := HZ17.out.cell 2 _ rfl; have p2 := HZ17.out.free 2 _ rfl; have q3 := HZ17.out.cell 3 _ rfl; have p3 := HZ17.out.free 3 _ rfl; have q4 := HZ17.out.cell 4 _ rfl; have p4 := HZ17.out.free 4 _ rfl; have q5 := HZ17.out.cell 5 _ rfl; have p5 := HZ17.out.free 5 _ rfl; have q6 := HZ17.out.cell 6 _ rfl; have p6 := HZ17.out.free 6 _ rfl; have q7 := HZ17.out.cell 7 _ rfl; have p7 := HZ17.out.free 7 _ rfl; have q8 := HZ17.out.cell 8 _ rfl; have p8 := HZ17.out.free 8 _ rfl; have q9 := HZ17.out.cell 9 _ rfl; have p9 := HZ17.out.free 9 _ rfl; have q10 := HZ17.out.cell 10 _ rfl; have p10 := HZ17.out.free 10 _ rfl; have q11 := HZ17.out.cell 11 _ rfl; have p11 := HZ17.out.free 11 _ rfl) | skip)
                     clear ho17 hb17))
                · clear hwi hwi2 hwz hwz2
                  have HQ := Lib.hid (exi_alloc (i := i) (r := r) (z := z) HE17.out HO17.out (Nat.le_refl _))
                  generalize w17.alloc (objI i r z da17 m dc17) = w20 at HQ ⊢
                  generalize w17.heap.size = gz at HQ ⊢
                  go_wp2_with fail
                  go_meet
                  case rel =>
                    clear HS HROW CC
                    refine ⟨gz, da17, dc17, ?_, ?_⟩
                    · rfl
                    · exact HQ.out
                · clear hwi hwi2 hwz hwz2
                  have HQ := Lib.hid (exi_sets (gz := wA.heap.size) (i := i) (r := r) (z := z) HE17.out (Nat.le_refl _) HZ17.out HO17.out (by rw [World.size_drew, World.size_alloc]; omega) (fun e => by have h1 := (HO17.out.lt e).1; rw [World.size_drew, World.size_alloc] at h1; omega))
                  go_wp2_with fail
                  go_meet
                  case rel =>
                    clear HS HROW CC
                    refine ⟨wA.heap.size, da17, dc17, ?_, ?_⟩
                    · rfl
                    · exact HQ.out
              case rest =>
                clear hwi hwi2 hwz2
                obtain ⟨gz, da, dc, rfl, HW⟩ := hcut
                have HX2 := Lib.hid (HXX.out.next HW.out.bel)
                have c1 := HX2.out.rr.cell HGR.out
                obtain ⟨c3, f3⟩ := HX2.out.rr.at HGR.out HA.out hrm
                rw [HZ.out] at c3
                have HX3 := Lib.hid (HX2.out.store HGR.out HA.out r (z + 1))
                have HII3 : Hid (IsI m (hv'.set r (a.set r (z + 1))) (os ++ [(⟨(i : Int) + 1, r, a, 1, (i : Int) + 1, r, 0, 0, ⟨#[107]⟩, 0, 0⟩, z + 1)]) (c.set r (c.getD r 0 + 1))) := by
                  have h := HII.out.issue HA.out
                  unfold oI at h
                  rw [HOL.out, HZ.out] at h
                  exact h
                have HD := Lib.hid (HW.out.opd.far hgrl r (.int .i64 (z + 1)))
                have hne : gr ≠ gz := fun e => Nat.lt_irrefl _ (Nat.lt_of_lt_of_le (e ▸ hgrl) HW.out.gz)
                obtain ⟨d0, d1, d2, d3, d4, d5, d6, d7, d8, d9, d10, d11⟩ := opAt_other HW.out.box hne r (.int .i64 (z + 1))
                have HBB : Hid (B1 ≤ (wc.setCell ⟨gr, r, none⟩ (.int .i64 (z + 1))).heap.size) := HX3.out.bB
                have HOW : Hid (OwnO (wc.setCell ⟨gr, r, none⟩ (.int .i64 (z + 1))) B1 (.slice aa i ac) os dl) := by
                  have h := HX3.out.own
                  rw [HOL.out] at h
                  exact h
                have HHS : Hid ((wc.setCell ⟨gr, r, none⟩ (.int .i64 (z + 1))).heap.size = wc.heap.size) := World.size_setCell _ _ _
                clear HII HX2 hne HS hgrl hghl
                go_wp2_with (at_builtin
                             refine wpO_one rfl _ _ rfl B1 (wc.setCell ⟨gr, r, none⟩ (.int .i64 (z + 1))) (.slice aa i ac) os dl ((i : Int) + 1) r (z + 1) da a m dc 1 ((i : Int) + 1) r 0 0 ⟨#[107]⟩ 0 0 rfl HOW.out wc.heap.size rfl HHS.out HLE.out HBB.out ?_
                             intro v6 w6 hp6
                             obtain ⟨aa6, ac6, rfl, hl6, hx6⟩ := IsS.push HOL.out HXX.out HX3.out HD.out HAM.out hp6
                             have HX6 := Lib.hid hx6
                             have HL6 := Lib.hid hl6
                             clear hp6 hx6 hl6)
                go_roundg (16 - (i + 1))
                case measure => (clear hwz; omega)
                case rel =>
                  clear hwz
                  refine ⟨i + 1, hv'.set r (a.set r (z + 1)), _, _, aa6, ac6, _, rfl, by go_num, ?_, ?_, HL6.out, HII3.out, HX6.out⟩
                  · omega
                  · omega
          · have hiz : decide ((i : Int) < 16) = false := decide_eq_false (by omega)
            have hiy : ¬ (i : Int) < 16 := by omega
            go_wp2
            go_ret
            exact HE.out
        · have hinz : decide ((i : Int) < (kn : Int)) = false := decide_eq_false (by omega)
          have hiny : ¬ (i : Int) < (kn : Int) := by omega
          go_wp2
          go_ret
          exact HE.out
end Go.Proofs.YtdpopdlifcjdeaaDoor
