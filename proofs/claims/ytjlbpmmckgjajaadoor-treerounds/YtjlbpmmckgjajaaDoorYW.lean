/- Joined: TX9 TX10 TX11 TX12. -/
import Derived.Test.YtjlbpmmckgjajaaDoorYU
import Derived.BigQuiet
import Derived.Test.YtjlbpmmckgjajaaDoorYT
import Derived.Test.YtjlbpmmckgjajaaDoorZE
import Derived.Test.YtjlbpmmckgjajaaDoorZB

/- Trees: equal ones are held to be equal; a place looked for; what a script weighs. -/
namespace Go.Proofs.YtjlbpmmckgjajaaDoor
open Go.RowKit Go.Lib Go.Maps Go.BigFrame
set_option linter.unusedVariables false

set_option maxHeartbeats 1000000 in
theorem eqNodes0_yes (a b : Option Addr) (xs : List ND) (n c1 c2 : Nat) (w : World) (ha : RowF 5 ND.enc w a xs) (hb : RowF 5 ND.enc w b xs) (h1 : n = xs.length) (hl : xs.length ≤ 4398046511104) :
    Calls Tryd.prog 30 #[.slice a n c1, .slice b n c2] w (BoolPost w true) := by
  have mixed : Tryd.prog.follows .mixedOrders = true := by kernel_rfl
  have HA := Lib.hid ha
  have HB := Lib.hid hb
  have HN := Lib.hid h1
  have hnl : n ≤ 4398046511104 := by omega
  have hG := nd_guard
  clear ha hb h1 hl
  go_enter Tryd.func30, Tryd.ntmps30
  go_wp2
  go_loopg [5] n (fun g1 v wr => ∃ k : Nat, v = .int .i64 k ∧ k ≤ n ∧ n - k ≤ g1 ∧ Hid (Below w.heap.size w wr))
  case atStart => exact ⟨0, rfl, by omega, by omega, Below.refl _ _⟩
  case round =>
    obtain ⟨k, rfl, hk, hg, HI⟩ := hrel
    by_cases hin : k < n
    · have hinz : (k : Int) < (n : Int) := by omega
      obtain ⟨x, hx⟩ : ∃ x, xs[k]? = some x := ⟨_, List.getElem?_eq_getElem (by rw [← HN.out]; exact hin)⟩
      obtain ⟨b1, o1, rfl, hat1⟩ := HA.out k x hx
      obtain ⟨b2, o2, rfl, hat2⟩ := HB.out k x hx
      have hat1' := hat1.below HI.out (hat1.lt flatN)
      have hat2' := hat2.below HI.out (hat2.lt flatN)
      have c0 : wr.cell? ⟨b1, o1 + k * 5, none⟩ = some (.int .i64 x.id.1) := hat1' 0 _ rfl
      have c1' : wr.cell? ⟨b1, o1 + k * 5 + 1, none⟩ = some (.int .i64 x.id.2) := hat1' 1 _ rfl
      have c2' : wr.cell? ⟨b1, o1 + k * 5 + 2, none⟩ = some (.int .i64 x.par.1) := hat1' 2 _ rfl
      have c3 : wr.cell? ⟨b1, o1 + k * 5 + 3, none⟩ = some (.int .i64 x.par.2) := hat1' 3 _ rfl
      have c4 : wr.cell? ⟨b1, o1 + k * 5 + 4, none⟩ = some (.string x.key) := hat1' 4 _ rfl
      have d0 : wr.cell? ⟨b2, o2 + k * 5, none⟩ = some (.int .i64 x.id.1) := hat2' 0 _ rfl
      have d1 : wr.cell? ⟨b2, o2 + k * 5 + 1, none⟩ = some (.int .i64 x.id.2) := hat2' 1 _ rfl
      have d2 : wr.cell? ⟨b2, o2 + k * 5 + 2, none⟩ = some (.int .i64 x.par.1) := hat2' 2 _ rfl
      have d3 : wr.cell? ⟨b2, o2 + k * 5 + 3, none⟩ = some (.int .i64 x.par.2) := hat2' 3 _ rfl
      have d4 : wr.cell? ⟨b2, o2 + k * 5 + 4, none⟩ = some (.string x.key) := hat2' 4 _ rfl
      have hnq : ∀ w, (binOp .neq 44 (.agg #[.int .i64 x.id.1, .int .i64 x.id.2, .int .i64 x.par.1, .int .i64 x.par.2, .string x.key]) (.agg #[.int .i64 x.id.1, .int .i64 x.id.2, .int .i64 x.par.1, .int .i64 x.par.2, .string x.key])).run Tryd.prog w = .ok (.bool false) w := nd_neq x x true (eqN_iff.2 rfl)
      clear hx hat1 hat2 hat1' hat2'
      go_wp2_with fail
      go_quiet (fail)
      go_wp2_with fail
      go_roundg (n - (k + 1))
      case measure => omega
      case rel => exact ⟨k + 1, by go_num, by omega, by omega, below_drewN HI.out _⟩
    · obtain rfl : k = n := by omega
      have hinz : ¬ (k : Int) < (k : Int) := by omega
      go_wp2
      go_ret
      exact ⟨rfl, HI.out⟩
set_option maxHeartbeats 2000000 in
set_option maxRecDepth 100000 in
theorem eqEntry_yes (x : ED) (d d' : DV) (w : World) (h : DepK w x.op d) (h' : DepK w x.op d') : Calls Tryd.prog 55 #[valE x d.a d.n d.c, valE x d'.a d'.n d'.c] w (BoolPost w true) := by
  obtain ⟨g, hg⟩ : ∃ g, w.heap.size = g := ⟨_, rfl⟩
  obtain ⟨w2, hw2⟩ : ∃ w2, (w.alloc (objE x d.a d.n d.c)).alloc (objE x d'.a d'.n d'.c) = w2 := ⟨_, rfl⟩
  have HB2 : Hid (Below w.heap.size w w2) := by show Below _ _ _; rw [← hw2]; exact St.below2 w _ _
  have HX1 : Hid (Blk w2 g (cellsE x d.a d.n d.c)) := by
    show Blk _ _ _
    rw [← hw2, ← hg]
    exact (objE_new w x d.a d.n d.c).next (box_bel _ _)
  have HX2 : Hid (Blk w2 (g + 1) (cellsE x d'.a d'.n d'.c)) := by
    show Blk _ _ _
    have h1 := objE_new (w.alloc (objE x d.a d.n d.c)) x d'.a d'.n d'.c
    rw [hw2, World.size_alloc, hg] at h1
    exact h1
  have hl1 := loadVar_is aggO sizeO rfl HX1.out.cells.op
  have hl2 := loadVar_is aggO sizeO rfl HX2.out.cells.op
  have CE := Lib.hid (eqOp_bel x.op.1.t x.op.1.r x.op.2 d.a x.op.1.ds d.n d.c x.op.1.k x.op.1.nt x.op.1.nr x.op.1.pt x.op.1.pr x.op.1.s x.op.1.p x.op.1.v d'.a d'.n d'.c w2 (h.2.1.below HB2.out (Nat.le_refl _)) h.1 (by have := h.2.2; omega) (h'.2.1.below HB2.out (Nat.le_refl _)) h'.1)
  have HZ := Lib.hid hg
  have hG := St.st_guard
  clear h h'
  go_enter Tryd.func55, Tryd.ntmps55
  go_wp2_with (first | (refine wpList_loadS rfl _ 39 rfl g 0 rfl _ hl1 ?_) | (refine wpList_loadS rfl _ 39 rfl (g + 1) 0 rfl _ hl2 ?_))
  clear hw2 hl1 hl2
  refine (CE.out).mono ?_
  rintro e w3 ⟨rfl, hb3⟩
  have HB3 : Hid (Below w.heap.size w w3) := HB2.out.trans (hb3.mono HB2.out.size)
  have e1 := (HX1.out.next hb3)
  have e2 := (HX2.out.next hb3)
  have a12 := e1.cell 12 _ rfl
  have a13 := e1.cell 13 _ rfl
  have a14 := e1.cell 14 _ rfl
  have a15 := e1.cell 15 _ rfl
  have a16 := e1.cell 16 _ rfl
  have b12 := e2.cell 12 _ rfl
  have b13 := e2.cell 13 _ rfl
  have b14 := e2.cell 14 _ rfl
  have b15 := e2.cell 15 _ rfl
  have b16 := e2.cell 16 _ rfl
  have z3 := fun w => St.st_eql x.par.1 x.par.2 x.par.1 x.par.2 w
  clear e1 e2 hb3
  simp only [BEq.rfl, Bool.and_self] at z3
  go_wp2
  go_ret
  exact ⟨by simp, HB3.out⟩
set_option maxHeartbeats 4000000 in
set_option maxRecDepth 100000 in
theorem eqMoves_yes (a b : Option Addr) (ys zs : List EV) (n c1 c2 : Nat) (w : World) (ha : RowM w a ys) (hb : RowM w b zs) (he : entsY ys = entsY zs) (h1 : n = ys.length) (hl : ys.length ≤ 4398046511104) :
    Calls Tryd.prog 31 #[.slice a n c1, .slice b n c2] w (BoolPost w true) := by
  have mixed : Tryd.prog.follows .mixedOrders = true := by kernel_rfl
  have HA := Lib.hid ha
  have HB := Lib.hid hb
  have HN := Lib.hid h1
  have HE := Lib.hid he
  have HN2 : Hid (n = zs.length) := by show _ = _; rw [h1, ← entsY_len, he, entsY_len]
  have hnl : n ≤ 4398046511104 := by omega
  clear ha hb h1 hl he
  go_enter Tryd.func31, Tryd.ntmps31
  go_wp2
  go_loopg [5] n (fun g1 v wr => ∃ k : Nat, v = .int .i64 k ∧ k ≤ n ∧ n - k ≤ g1 ∧ Hid (Below w.heap.size w wr))
  case atStart => exact ⟨0, rfl, by omega, by omega, Below.refl _ _⟩
  case round =>
    obtain ⟨k, rfl, hk, hg, HI⟩ := hrel
    by_cases hin : k < n
    · have hinz : (k : Int) < (n : Int) := by omega
      obtain ⟨y, hy⟩ : ∃ y, ys[k]? = some y := ⟨_, List.getElem?_eq_getElem (by rw [← HN.out]; exact hin)⟩
      obtain ⟨z, hz⟩ : ∃ z, zs[k]? = some z := ⟨_, List.getElem?_eq_getElem (by rw [← HN2.out]; exact hin)⟩
      have hyz : y.1 = z.1 := by
        have h := congrArg (·[k]?) HE.out
        simp only [entsY, List.getElem?_map, hy, hz, Option.map_some, Option.some.injEq] at h
        exact h
      have hA2 := HA.out.next HI.out
      have hB2 := HB.out.next HI.out
      obtain ⟨b1, o1, rfl, -⟩ := hA2.addr hy
      obtain ⟨b2, o2, rfl, -⟩ := hB2.addr hz
      obtain ⟨x, d⟩ := y
      obtain ⟨x', d'⟩ := z
      obtain rfl : x = x' := hyz
      have hq1 := loadQ_ent (hA2.cells hy)
      have hq2 := loadQ_ent (hB2.cells hz)
      have D1 := Lib.hid (hA2.dep _ (List.mem_of_getElem? hy))
      have D2 := Lib.hid (hB2.dep _ (List.mem_of_getElem? hz))
      have x1 : St.RegrownTo wr 55 #[valE x d.a d.n d.c, valE x d'.a d'.n d'.c] (.bool true) := regrown_at fun W' hb => eqEntry_yes x d d' W' (D1.out.below hb) (D2.out.below hb)
      clear hy hz hA2 hB2
      simp only at hq1 hq2
      go_wp2_with fail
      refine wp_region_quiet_below (by assumption) (by kernel_rfl) ?_
      repeat (first
                   | (go_big_quiet_want; refine quiet_loadS _ 54 rfl b1 (o1 + k * 17) rfl _ hq1 ?_; simp only [Act.put, List.setIfInBounds_toArray, List.set_cons_succ, List.set_cons_zero]; go_big_quiet_on)
                   | (go_big_quiet_want; refine quiet_loadS _ 54 rfl b2 (o2 + k * 17) rfl _ hq2 ?_; simp only [Act.put, List.setIfInBounds_toArray, List.set_cons_succ, List.set_cons_zero]; go_big_quiet_on)
                   | (go_big_quiet_step ((go_at_call 55; with_reducible exact x1 _ _))))
      refine wpQuiet_nil ?_
      intro _ hw'
      obtain ⟨⟨dq, osq⟩, hw''⟩ := hw'
      subst hw''
      have HB1 := Lib.hid (HI.out.trans ((below_regrown _ dq osq).mono HI.out.size))
      generalize Go.Sort.grow (redrawn wr dq) osq = w1 at *
      clear hq1 hq2 x1
      go_wp2_with fail
      go_roundg (n - (k + 1))
      case measure => omega
      case rel => exact ⟨k + 1, by go_num, by omega, by omega, HB1⟩
    · obtain rfl : k = n := by omega
      have hinz : ¬ (k : Int) < (k : Int) := by omega
      go_wp2
      go_ret
      exact ⟨rfl, HI.out⟩
set_option maxHeartbeats 1000000 in
/-- trees made of the same moves -/
theorem eqTree_yes {w : World} {B B' : Nat} {na : Option Addr} {nn nc : Nat} {ma : Option Addr} {mn mc : Nat} {na' : Option Addr} {nn' nc' : Nat} {ma' : Option Addr} {mn' mc' : Nat} {l : List OpD} (h : TrO w B na nn nc ma mn mc l) (h' : TrO w B' na' nn' nc' ma' mn' mc' l) (hl : l.length ≤ 4398046511104) :
    Calls Tryd.prog 10 #[valT na nn nc ma mn mc, valT na' nn' nc' ma' mn' mc'] w (BoolPost w true) := by
  obtain ⟨e1, e2, hr1, zs1, hm1, hz1⟩ := h.form
  obtain ⟨e3, e4, hr2, zs2, hm2, hz2⟩ := h'.form
  obtain rfl : nn' = nn := by rw [e1, e3]
  obtain rfl : mn' = mn := by rw [e2, e4]
  obtain ⟨g, hg⟩ : ∃ g, w.heap.size = g := ⟨_, rfl⟩
  obtain ⟨w2, hw2⟩ : ∃ w2, (w.alloc (objT na nn' nc ma mn' mc)).alloc (objT na' nn' nc' ma' mn' mc') = w2 := ⟨_, rfl⟩
  have HB2 : Hid (Below w.heap.size w w2) := by show Below _ _ _; rw [← hw2]; exact St.below2 w _ _
  have HX1 : Hid (Blk w2 g [.slice na nn' nc, .slice ma mn' mc]) := by
    show Blk _ _ _
    rw [← hw2, ← hg]
    exact (objT_new w na nn' nc ma mn' mc).next (box_bel _ _)
  have HX2 : Hid (Blk w2 (g + 1) [.slice na' nn' nc', .slice ma' mn' mc']) := by
    show Blk _ _ _
    have h1 := objT_new (w.alloc (objT na nn' nc ma mn' mc)) na' nn' nc' ma' mn' mc'
    rw [hw2, World.size_alloc, hg] at h1
    exact h1
  have CN := Lib.hid (eqNodes0_yes na na' (nodesG l) nn' nc nc' w2 (hr1.next flatN HB2.out) (hr2.next flatN HB2.out) e1 (Nat.le_trans (nodes_len l) hl))
  have CM := Lib.hid (fun W' (hb : Below w2.heap.size w2 W') => eqMoves_yes ma ma' zs1 zs2 mn' mc mc' W' ((hm1.next HB2.out).next hb) ((hm2.next HB2.out).next hb) (by rw [hz1, hz2]) (by rw [e2, ← entsY_len, hz1, entsG_len]) (by rw [← entsY_len, hz1, entsG_len]; exact hl))
  have k0 := HX1.out.cell 0 _ rfl
  have k2 := HX2.out.cell 0 _ rfl
  have HG := Lib.hid hg
  clear e1 e2 e3 e4 hr1 hr2 hm1 hm2 hz1 hz2 h h' hl
  go_enter Tryd.func10, Tryd.ntmps10
  go_wp2_with fail
  clear hw2 k0 k2
  refine (CN.out).mono ?_
  rintro e w3 ⟨rfl, hb3⟩
  have HB3 := Lib.hid hb3
  have k1 := (HX1.out.next hb3).cell 1 _ rfl
  have k3 := (HX2.out.next hb3).cell 1 _ rfl
  clear hb3
  go_wp2_with fail
  refine (CM.out _ HB3.out).mono ?_
  rintro e w4 ⟨rfl, hb4⟩
  have HB4 : Hid (Below w.heap.size w w4) := (HB2.out.trans (HB3.out.mono HB2.out.size)).trans (hb4.mono (Nat.le_trans HB2.out.size HB3.out.size))
  go_wp2
  go_ret
  exact ⟨rfl, HB4.out⟩
end Go.Proofs.YtjlbpmmckgjajaaDoor

/- Trees: what a script weighs. -/
namespace Go.Proofs.YtjlbpmmckgjajaaDoor
open Go.RowKit Go.Lib Go.Maps Go.BigFrame
set_option linter.unusedVariables false

section
variable {α : Type}
/-- a sum that is broken off where it is great -/
def gN (st : Int → α → Int) (z0 : Int) (xs : List α) : Nat → Int
  | 0 => z0
  | k + 1 => match xs[k]? with | some x => st (gN st z0 xs k) x | none => gN st z0 xs k
def gF (st : Int → α → Int) (z0 : Int) (xs : List α) : Nat → Nat → Int
  | 0, k => gN st z0 xs k
  | f + 1, k => if k < xs.length ∧ gN st z0 xs k < 1048576 then gF st z0 xs f (k + 1) else gN st z0 xs k
def gT (st : Int → α → Int) (z0 : Int) (xs : List α) : Int := gF st z0 xs xs.length 0
variable {st : Int → α → Int} {z0 : Int} {xs : List α}
theorem gN_succ {k : Nat} {x : α} (h : xs[k]? = some x) : gN st z0 xs (k + 1) = st (gN st z0 xs k) x := by rw [gN, h]
theorem gF_go {k : Nat} (h1 : k < xs.length) (h2 : gN st z0 xs k < 1048576) : gF st z0 xs (xs.length - k) k = gF st z0 xs (xs.length - (k + 1)) (k + 1) := by
  obtain ⟨f, hf⟩ : ∃ f, xs.length - k = f + 1 := ⟨xs.length - k - 1, by omega⟩
  rw [hf, show xs.length - (k + 1) = f by omega, gF, if_pos ⟨h1, h2⟩]
theorem gF_stop {k : Nat} (h : ¬ (k < xs.length ∧ gN st z0 xs k < 1048576)) : gF st z0 xs (xs.length - k) k = gN st z0 xs k := by
  cases h0 : xs.length - k with
  | zero => rfl
  | succ f => rw [gF, if_neg h]
end
def opW (x : OpD) : Int := wrap64 (wrap64 (1 + (x.1.ds.length : Int)) + (x.1.s.size : Int))
def stO' (z : Int) (y : OV) : Int := wrap64 (z + opW y.1)
def stN (z : Int) (x : ND) : Int := wrap64 (z + (x.key.size : Int))
def stE (z : Int) (y : EV) : Int := wrap64 (wrap64 (z + opW y.1.op) + (y.1.key.size : Int))
set_option maxHeartbeats 400000 in
theorem opWeight_is (x : OpD) (d : DV) (w : World) (hn : d.n = x.1.ds.length) : Calls Tryd.prog 42 #[valOy x d] w (St.IntBel w (opW x)) := by
  have HB := Lib.hid (box_bel w (objO x d.a d.n d.c))
  unfold opW
  rw [← hn]
  clear hn
  go_enter Tryd.func42, Tryd.ntmps42
  go_wp2
  go_ret
  exact ⟨rfl, HB.out⟩
set_option maxHeartbeats 1000000 in
set_option maxRecDepth 100000 in
theorem opsWeight_is (a : Option Addr) (ls : List OV) (n c : Nat) (w : World) (ha : RowF 12 OV.enc w a ls) (hd : DepsV w ls) (hn : n = ls.length) (hl : ls.length * 120 ≤ 140737488355328) (tot : Int) (ht : gT stO' (ls.length : Int) ls = tot) : Calls Tryd.prog 20 #[.slice a n c] w (St.IntBel w tot) := by
  have HA := Lib.hid ha
  have HN := Lib.hid hn
  have HD := Lib.hid hd
  have HW0 : Hid (gF stO' (ls.length : Int) ls (ls.length - 0) 0 = tot) := ht
  have HZ0 : Hid ((n : Int) = gN stO' (ls.length : Int) ls 0) := by show _ = ((ls.length : Nat) : Int); rw [hn]
  have hnl : n * 120 ≤ 140737488355328 := by omega
  clear ha hn hl ht hd
  go_enter Tryd.func20, Tryd.ntmps20
  go_wp2
  go_loopg [3, 4] n (fun g1 v i wr => ∃ (k : Nat) (z : Int), i = .int .i64 k ∧ v = .int .i64 z ∧ k ≤ n ∧ n - k ≤ g1 ∧ Hid (z = gN stO' (ls.length : Int) ls k) ∧ Hid (gF stO' (ls.length : Int) ls (ls.length - k) k = tot) ∧ Hid (Below w.heap.size w wr))
  case atStart => exact ⟨0, _, rfl, rfl, Nat.zero_le _, by omega, HZ0, HW0, Below.refl _ _⟩
  case round =>
    obtain ⟨k, z, rfl, rfl, hk, hg, HZ, HW, HI⟩ := hrel
    by_cases hin : k < n
    · have hinz : (k : Int) < (n : Int) := by omega
      have hind : decide ((k : Int) < (n : Int)) = true := decide_eq_true hinz
      by_cases hz : z < 1048576
      · have hzd : decide (z < 1048576) = true := decide_eq_true hz
        obtain ⟨y, hy⟩ : ∃ y, ls[k]? = some y := ⟨_, List.getElem?_eq_getElem (by rw [← HN.out]; exact hin)⟩
        have HW1 : Hid (gF stO' (ls.length : Int) ls (ls.length - (k + 1)) (k + 1) = tot) := by show _ = _; rw [← gF_go (by rw [← HN.out]; exact hin) (by rw [← HZ.out]; exact hz)]; exact HW.out
        have HX : Hid (gN stO' (ls.length : Int) ls (k + 1) = wrap64 (gN stO' (ls.length : Int) ls k + opW y.1)) := gN_succ hy
        obtain ⟨b, off, rfl, hat⟩ := (HA.out.next flatO HI.out) k y hy
        have hld := opV_load (w := wr) (b := b) (o := off + k * 12) (y := y) hat
        have C := Lib.hid (opWeight_is y.1 y.2 wr (HD.out y (List.mem_of_getElem? hy)).1)
        clear hy
        generalize opW y.1 = z2 at *
        go_wp2_with (refine wpList_loadS rfl _ 39 rfl b (off + k * 12) rfl _ hld ?_)
        refine (C.out).mono ?_
        rintro e w1 ⟨rfl, hb1⟩
        have HB1 := Lib.hid (HI.out.trans (hb1.mono HI.out.size))
        clear hb1 C hat hld
        go_wp2_with fail
        go_roundg (n - (k + 1))
        case measure => omega
        case rel => exact ⟨k + 1, _, by go_num, rfl, by omega, by omega, by show _ = _; rw [HX.out, HZ.out], HW1, HB1.out⟩
      · have hzd : decide (z < 1048576) = false := decide_eq_false hz
        have HR : Hid (z = tot) := by show _ = _; rw [HZ.out, ← HW.out]; exact (gF_stop (fun h => hz (by rw [HZ.out]; exact h.2))).symm
        go_wp2
        go_ret
        exact ⟨ret_int HR.out, HI.out⟩
    · have hinz : ¬ (k : Int) < (n : Int) := by omega
      have hind : decide ((k : Int) < (n : Int)) = false := decide_eq_false hinz
      have HR : Hid (z = tot) := by show _ = _; rw [HZ.out, ← HW.out]; exact (gF_stop (fun h => hin (by rw [HN.out]; exact h.1))).symm
      go_wp2
      go_ret
      exact ⟨ret_int HR.out, HI.out⟩
def treeW (ns : List ND) (ys : List EV) : Int := gT stE (gT stN ((ns.length : Int) + (ys.length : Int)) ns) ys
set_option maxHeartbeats 4000000 in
set_option maxRecDepth 100000 in
theorem treeWeight_is (na : Option Addr) (ns : List ND) (nn nc : Nat) (ma : Option Addr) (ys : List EV) (mn mc : Nat) (w : World) (hr : RowF 5 ND.enc w na ns) (hnn : nn = ns.length) (hm : RowM w ma ys) (hmn : mn = ys.length) (hl : ns.length * 48 ≤ 140737488355328) (hl2 : ys.length * 168 ≤ 140737488355328) (tot : Int) (ht : treeW ns ys = tot) : Calls Tryd.prog 19 #[valT na nn nc ma mn mc] w (St.IntBel w tot) := by
  have mixed : Tryd.prog.follows .mixedOrders = true := by kernel_rfl
  obtain ⟨g, hg⟩ : ∃ g, w.heap.size = g := ⟨_, rfl⟩
  obtain ⟨w2, hw2⟩ : ∃ w2, w.alloc (objT na nn nc ma mn mc) = w2 := ⟨_, rfl⟩
  have HB2 : Hid (Below w.heap.size w w2) := by show Below _ _ _; rw [← hw2]; exact box_bel w _
  have HX : Hid (Blk w2 g [.slice na nn nc, .slice ma mn mc]) := by show Blk _ _ _; rw [← hw2, ← hg]; exact objT_new w na nn nc ma mn mc
  have HR := Lib.hid (hr.next flatN HB2.out)
  have HM := Lib.hid (hm.next HB2.out)
  have HNN := Lib.hid hnn
  have HMN := Lib.hid hmn
  obtain ⟨zz, hzz⟩ : ∃ zz, (nn : Int) + (mn : Int) = zz := ⟨_, rfl⟩
  have HT : Hid (gT stE (gT stN zz ns) ys = tot) := by show _ = _; rw [← hzz, hnn, hmn]; exact ht
  have hnl : nn * 48 ≤ 140737488355328 := by omega
  have hml : mn * 168 ≤ 140737488355328 := by omega
  have k0 := HX.out.cell 0 _ rfl
  have k1 := HX.out.cell 1 _ rfl
  obtain ⟨t1, ht1⟩ : ∃ t1, gT stN zz ns = t1 := ⟨_, rfl⟩
  rw [ht1] at HT
  have HW0 : Hid (gF stN zz ns (ns.length - 0) 0 = t1) := ht1
  clear hr hm hnn hmn hl hl2 ht ht1
  go_enter Tryd.func19, Tryd.ntmps19
  go_wp2
  clear hw2 k0 k1 hzz
  go_loopg [3, 4] nn (fun g1 v i wr => ∃ (k : Nat) (z : Int), i = .int .i64 k ∧ v = .int .i64 z ∧ k ≤ nn ∧ nn - k ≤ g1 ∧ Hid (z = gN stN zz ns k) ∧ Hid (gF stN zz ns (ns.length - k) k = t1) ∧ Hid (Below w2.heap.size w2 wr))
  case atStart => exact ⟨0, _, rfl, rfl, Nat.zero_le _, by omega, rfl, HW0, Below.refl _ _⟩
  case round =>
    obtain ⟨k, z, rfl, rfl, hk, hgk, HZ, HW, HI⟩ := hrel
    have k0 := (HX.out.next HI.out).cell 0 _ rfl
    have k1 := (HX.out.next HI.out).cell 1 _ rfl
    by_cases hin : k < nn ∧ z < 1048576
    · obtain ⟨hin, hz⟩ := hin
      have hinz : (k : Int) < (nn : Int) := by omega
      have hind : decide ((k : Int) < (nn : Int)) = true := decide_eq_true hinz
      have hzd : decide (z < 1048576) = true := decide_eq_true hz
      obtain ⟨y, hy⟩ : ∃ y, ns[k]? = some y := ⟨_, List.getElem?_eq_getElem (by rw [← HNN.out]; exact hin)⟩
      have HW1 : Hid (gF stN zz ns (ns.length - (k + 1)) (k + 1) = t1) := by show _ = _; rw [← gF_go (by rw [← HNN.out]; exact hin) (by rw [← HZ.out]; exact hz)]; exact HW.out
      have HXX : Hid (gN stN zz ns (k + 1) = wrap64 (gN stN zz ns k + (y.key.size : Int))) := gN_succ hy
      obtain ⟨b, off, rfl, hat⟩ := (HR.out.next flatN HI.out) k y hy
      have c4 : wr.cell? ⟨b, off + k * 5 + 4, none⟩ = some (.string y.key) := hat 4 _ rfl
      clear hy hat
      go_wp2_with fail
      go_roundg (nn - (k + 1))
      case measure => omega
      case rel => exact ⟨k + 1, _, by go_num, rfl, by omega, by omega, by show _ = _; rw [HXX.out, HZ.out], HW1, HI⟩
    · have HR1 : Hid (z = t1) := by show _ = _; rw [HZ.out, ← HW.out]; exact (gF_stop (fun h => hin ⟨by rw [HNN.out]; exact h.1, by rw [HZ.out]; exact h.2⟩)).symm
      have hind : (decide ((k : Int) < (nn : Int)) = false ∧ ¬ (k : Int) < (nn : Int)) ∨ ((decide ((k : Int) < (nn : Int)) = true ∧ (k : Int) < (nn : Int)) ∧ decide (z < 1048576) = false ∧ ¬ z < 1048576) := by
        by_cases h1 : k < nn
        · exact .inr ⟨⟨decide_eq_true (by omega), by omega⟩, decide_eq_false fun h => hin ⟨h1, h⟩, fun h => hin ⟨h1, h⟩⟩
        · exact .inl ⟨decide_eq_false (by omega), by omega⟩
      have HW2 : Hid (gF stE z ys (ys.length - 0) 0 = tot) := by show _ = _; rw [HR1.out]; exact HT.out
      clear hin
      rcases hind with ⟨hind, hinz⟩ | ⟨⟨hind, hinz⟩, hzd, hz⟩
      all_goals
        go_wp2_with fail
        clear k0 k1
        go_loopg [3, 5] mn (fun g1 v i wr => ∃ (k : Nat) (z2 : Int), i = .int .i64 k ∧ v = .int .i64 z2 ∧ k ≤ mn ∧ mn - k ≤ g1 ∧ Hid (z2 = gN stE z ys k) ∧ Hid (gF stE z ys (ys.length - k) k = tot) ∧ Hid (Below w2.heap.size w2 wr))
        case atStart => exact ⟨0, _, rfl, rfl, Nat.zero_le _, by omega, rfl, HW2, HI⟩
        case round =>
          obtain ⟨j, z2, rfl, rfl, hj, hgj, HZ3, HW3, HI3⟩ := hrel
          have k0 := (HX.out.next HI3.out).cell 0 _ rfl
          have k1 := (HX.out.next HI3.out).cell 1 _ rfl
          by_cases hin : j < mn ∧ z2 < 1048576
          · obtain ⟨hin, hz⟩ := hin
            have hinz2 : (j : Int) < (mn : Int) := by omega
            have hind2 : decide ((j : Int) < (mn : Int)) = true := decide_eq_true hinz2
            have hzd2 : decide (z2 < 1048576) = true := decide_eq_true hz
            obtain ⟨y, hy⟩ : ∃ y, ys[j]? = some y := ⟨_, List.getElem?_eq_getElem (by rw [← HMN.out]; exact hin)⟩
            have HW1 : Hid (gF stE z ys (ys.length - (j + 1)) (j + 1) = tot) := by show _ = _; rw [← gF_go (by rw [← HMN.out]; exact hin) (by rw [← HZ3.out]; exact hz)]; exact HW3.out
            have HXX : Hid (gN stE z ys (j + 1) = wrap64 (wrap64 (gN stE z ys j + opW y.1.op) + (y.1.key.size : Int))) := gN_succ hy
            have hM2 := HM.out.next HI3.out
            obtain ⟨b, off, rfl, -⟩ := hM2.addr hy
            obtain ⟨x, d⟩ := y
            have hcl := hM2.cells hy
            have hq1 := loadQ_op (CellsAt.op hcl)
            have q0 : ∀ d os, (Go.Sort.grow (redrawn wr d) os).cell? ⟨g, 1, none⟩ = some (.slice (some ⟨b, off, none⟩) mn mc) := cell_regrown k1
            have q1 : ∀ d os, (Go.Sort.grow (redrawn wr d) os).cell? ⟨b, off + j * 17 + 15, none⟩ = some (.string x.key) := cell_regrown (hcl 15 _ rfl)
            have DN := Lib.hid (hM2.dep _ (List.mem_of_getElem? hy)).1
            have x1 : St.RegrownTo wr 42 #[valOy x.op d] (.int .i64 (opW x.op)) := regrown_at fun W' hb => opWeight_is x.op d W' DN.out
            simp only at HXX x1 hq1 q1
            generalize opW x.op = z4 at *
            clear hy hcl hM2
            go_wp2_with fail
            clear k0 k1
            refine wp_region_quiet_below (by assumption) (by kernel_rfl) ?_
            repeat (first
                         | (go_big_quiet_want; refine quiet_loadS _ 39 rfl b (off + j * 17) rfl _ hq1 ?_; simp only [Act.put, List.setIfInBounds_toArray, List.set_cons_succ, List.set_cons_zero]; go_big_quiet_on)
                         | (go_big_quiet_step ((go_at_call 42; with_reducible exact x1 _ _))))
            refine wpQuiet_nil ?_
            intro _ hw'
            obtain ⟨⟨dq, osq⟩, hw''⟩ := hw'
            subst hw''
            have HB1 := Lib.hid (HI3.out.trans ((below_regrown _ dq osq).mono HI3.out.size))
            generalize Go.Sort.grow (redrawn wr dq) osq = w1 at *
            clear hq1 q0 q1 x1
            go_wp2_with fail
            go_roundg (mn - (j + 1))
            case measure => omega
            case rel => exact ⟨j + 1, _, by go_num, rfl, by omega, by omega, by show _ = _; rw [HXX.out, HZ3.out], HW1, HB1⟩
          · have HR3 : Hid (z2 = tot) := by show _ = _; rw [HZ3.out, ← HW3.out]; exact (gF_stop (fun h => hin ⟨by rw [HMN.out]; exact h.1, by rw [HZ3.out]; exact h.2⟩)).symm
            have hind2 : (decide ((j : Int) < (mn : Int)) = false ∧ ¬ (j : Int) < (mn : Int)) ∨ ((decide ((j : Int) < (mn : Int)) = true ∧ (j : Int) < (mn : Int)) ∧ decide (z2 < 1048576) = false ∧ ¬ z2 < 1048576) := by
              by_cases h1 : j < mn
              · exact .inr ⟨⟨decide_eq_true (by omega), by omega⟩, decide_eq_false fun h => hin ⟨h1, h⟩, fun h => hin ⟨h1, h⟩⟩
              · exact .inl ⟨decide_eq_false (by omega), by omega⟩
            clear hin
            rcases hind2 with ⟨hind2, hinz2⟩ | ⟨⟨hind2, hinz2⟩, hzd2, hz2⟩
            all_goals
              go_wp2_with fail
              go_ret
              exact ⟨ret_int HR3.out, HB2.out.trans (HI3.out.mono HB2.out.size)⟩
theorem objS_cell (W : World) (na : Option Addr) (nn nc : Nat) (ma : Option Addr) (mn mc : Nat) (la : Option Addr) (ln lc : Nat) (ia : Option Addr) (im ic : Nat) : Blk (W.alloc (.cells #[.slice na nn nc, .slice ma mn mc, .slice la ln lc, .slice ia im ic] 29)) W.heap.size [.slice na nn nc, .slice ma mn mc, .slice la ln lc, .slice ia im ic] := by
  constructor
  · intro i u hi
    match i, hi with
    | 0, hi | 1, hi | 2, hi | 3, hi => simp at hi; subst hi; simp
    | _ + 4, hi => simp at hi
  · intro i u hi
    exact World.frozen?_alloc_at (w := W) _ _ _ _ rfl
def HeavyT (W : World) (e : Ending) (w' : World) : Prop := ∃ b : Bool, e = .returned (.bool b) ∧ Below W.heap.size W w'
set_option maxHeartbeats 4000000 in
set_option maxRecDepth 100000 in
theorem heavyT_any {na : Option Addr} {ns : List ND} {nn nc : Nat} {ma : Option Addr} {ys : List EV} {mn mc : Nat} {la : Option Addr} {ls : List OV} {ln lc : Nat} {ia : Option Addr} {is : List Pl} {im ic : Nat} {W : World} (h : ScT W na ns nn nc ma ys mn mc la ls ln lc ia is im ic) : Calls Tryd.prog 6 #[valSc na nn nc ma mn mc la ln lc ia im ic] W (HeavyT W) := by
  have mixed : Tryd.prog.follows .mixedOrders = true := by kernel_rfl
  obtain ⟨g, hg⟩ : ∃ g, W.heap.size = g := ⟨_, rfl⟩
  obtain ⟨w2, hw2⟩ : ∃ w2, W.alloc (.cells #[.slice na nn nc, .slice ma mn mc, .slice la ln lc, .slice ia im ic] 29) = w2 := ⟨_, rfl⟩
  have HB2 : Hid (Below W.heap.size W w2) := by show Below _ _ _; rw [← hw2]; exact box_bel W _
  have HX : Hid (Blk w2 g [.slice na nn nc, .slice ma mn mc, .slice la ln lc, .slice ia im ic]) := by show Blk _ _ _; rw [← hw2, ← hg]; exact objS_cell W na nn nc ma mn mc la ln lc ia im ic
  have H := Lib.hid (h.next HB2.out)
  obtain ⟨z1, hz1⟩ : ∃ z, treeW ns ys = z := ⟨_, rfl⟩
  obtain ⟨z2, hz2⟩ : ∃ z, gT stO' (ls.length : Int) ls = z := ⟨_, rfl⟩
  have x1 : St.RegrownTo w2 19 #[valT na nn nc ma mn mc] (.int .i64 z1) := regrown_at fun W' hb => treeWeight_is na ns nn nc ma ys mn mc W' (H.out.nr.next flatN hb) H.out.nl (H.out.mr.next hb) H.out.ml H.out.nm H.out.mm z1 hz1
  have x2 : St.RegrownTo w2 20 #[.slice la ln lc] (.int .i64 z2) := regrown_at fun W' hb => opsWeight_is la ls ln lc W' (H.out.lr.next flatO hb) (H.out.ld.below hb) H.out.ll H.out.lm z2 hz2
  have q0 : ∀ d os, (Go.Sort.grow (redrawn w2 d) os).cell? ⟨g, 0, none⟩ = some (.slice na nn nc) := cell_regrown (HX.out.cell 0 _ rfl)
  have q1 : ∀ d os, (Go.Sort.grow (redrawn w2 d) os).cell? ⟨g, 1, none⟩ = some (.slice ma mn mc) := cell_regrown (HX.out.cell 1 _ rfl)
  have q2 : ∀ d os, (Go.Sort.grow (redrawn w2 d) os).cell? ⟨g, 2, none⟩ = some (.slice la ln lc) := cell_regrown (HX.out.cell 2 _ rfl)
  have q3 : ∀ d os, (Go.Sort.grow (redrawn w2 d) os).cell? ⟨g, 3, none⟩ = some (.slice ia im ic) := cell_regrown (HX.out.cell 3 _ rfl)
  have k1 : wrap64 (z1 + z2) = wrap64 (z1 + z2) := rfl
  have HG := Lib.hid hg
  obtain ⟨b1, hb1⟩ : ∃ b, decide ((3000 : Int) < wrap64 (z1 + z2)) = b := ⟨_, rfl⟩
  obtain ⟨b2, hb2⟩ : ∃ b, decide ((60 : Int) < (mn : Int)) = b := ⟨_, rfl⟩
  obtain ⟨b3, hb3⟩ : ∃ b, decide ((200 : Int) < (im : Int)) = b := ⟨_, rfl⟩
  clear h hz1 hz2 k1
  cases b1 <;> cases b2
  all_goals
    go_enter Tryd.func6, Tryd.ntmps6
    go_wp2_with fail
    clear hw2
    refine wp_region_quiet_below (by assumption) (by kernel_rfl) ?_
    repeat (go_big_quiet_step (first | (go_at_call 20; with_reducible exact x2 _ _) | (go_at_call 19; with_reducible exact x1 _ _)))
    refine wpQuiet_nil ?_
    intro _ hw'
    obtain ⟨⟨dq, osq⟩, hw''⟩ := hw'
    subst hw''
    have HB1 := Lib.hid (HB2.out.trans ((below_regrown _ dq osq).mono HB2.out.size))
    generalize Go.Sort.grow (redrawn w2 dq) osq = w1 at *
    clear q0 q1 q2 q3 x1 x2
    go_wp2
    go_ret
    exact ⟨_, rfl, HB1.out⟩
end Go.Proofs.YtjlbpmmckgjajaaDoor

/- Trees: the laws' moves: what is handed in, made to moves with stamps of their own. -/
namespace Go.Proofs.YtjlbpmmckgjajaaDoor
open Go.RowKit Go.Lib Go.Maps
set_option linter.unusedVariables false

set_option maxHeartbeats 1000000 in
theorem refMove_any (x : OpD) (d : DV) (w : World) (hd : DepK w x d) : Calls Tryd.prog 22 #[valOy x d] w (BoolPost w (moveB x)) := by
  obtain ⟨⟨t, r, ds, k, nt, nr, pt, pr, s, p, v⟩, q⟩ := x
  obtain ⟨da, dn, dc⟩ := d
  have HB := Lib.hid (box_bel w (objO (⟨t, r, ds, k, nt, nr, pt, pr, s, p, v⟩, q) da dn dc))
  have HX := Lib.hid (OpX.new w (⟨t, r, ds, k, nt, nr, pt, pr, s, p, v⟩, q) da dn dc)
  have hl : ds.length ≤ 140737488355328 := by have := hd.2.2; simp only at this; omega
  have C := Lib.hid (refOp_any t r q da ds dn dc k nt nr pt pr s p v (w.alloc (objO (⟨t, r, ds, k, nt, nr, pt, pr, s, p, v⟩, q) da dn dc)) (hd.2.1.alloc _) hd.1 hl)
  clear hl hd
  unfold moveB OpD.ok OpR.ok valOy valO
  simp only
  generalize opB t r q ds k nt nr pt pr s p v = ob at *
  by_cases hk : k = 1
  · subst hk
    go_enter Tryd.func22, Tryd.ntmps22
    go_wp2_with fail
    refine (C.out).mono ?_
    rintro e w1 ⟨rfl, hb1⟩
    have HB1 := Lib.hid (HB.out.trans (hb1.mono HB.out.size))
    clear hb1
    go_wp2
    go_ret
    exact ⟨by simp, HB1.out⟩
  · have hkz : (k == 1) = false := by simpa using hk
    clear C
    go_enter Tryd.func22, Tryd.ntmps22
    go_wp2
    go_ret
    exact ⟨by simp [hk], HB.out⟩
theorem within16T (z : Int) (w : World) : Calls Tryd.prog 21 #[.int .i64 z, .int .i64 16] w fun e w' => ∃ r : Int, e = .returned (.int .i64 r) ∧ 0 ≤ r ∧ r < 16 ∧ w = w' := by
  refine (Ky.withinN_any z 16 w (by decide) (by decide)).mono ?_
  rintro e w' ⟨rfl, hw⟩
  refine ⟨_, rfl, by omega, ?_, hw⟩
  have : Ky.modN z 16 < 16 := by unfold Ky.modN; omega
  omega
theorem make16T (W : World) : (Instr.makeSlice 37 (.int .i64 16) (.int .i64 16)).run Tryd.prog W = .ok (.slice (some ⟨W.heap.size, 0, none⟩) 16 16) (W.alloc (.cells (madeCells #[.int .i64 0] 16) 3)) :=
  Go.run_make_row' 37 3 (.int .i64 0) 8 Tryd.underlying37 Tryd.info3 rfl .i64 .i64 16 (by omega) (by omega) W
theorem newBlkT (w : World) (o : Obj) : (w.alloc o).heap[w.heap.size]? = some o := by
  show (w.heap.push o)[w.heap.size]? = some o
  simp
theorem ownZT (m : Nat) (hm : m ≤ 1000) (W : World) : OwnK .i64 3 (W.alloc (.cells (madeCells #[.int .i64 0] m) 3)) W.heap.size (.slice (some ⟨W.heap.size, 0, none⟩) m m) (List.replicate m 0) := by
  have hl : (List.replicate m (0 : Int)).length = m := List.length_replicate
  have h : World.ownsRow (W.alloc (.cells (madeCells #[.int .i64 0] m) 3)) W.heap.size 3 1 (.slice (some ⟨W.heap.size, 0, none⟩) m m) m ((List.replicate m (0 : Int)).map (.int .i64)) := by
    refine ⟨by simp, .inr ⟨W.heap.size, m, madeCells #[.int .i64 0] m, rfl, Nat.le_refl _, newBlkT _ _, Nat.le_refl _, by unfold maxLen; omega, by rw [size_madeCells]; omega, ?_⟩⟩
    rw [toList_madeCells_one]
    simp
  unfold OwnK
  rw [hl]
  exact h
abbrev zOv : List Value := [.int .i64 0, .int .i64 0, .int .i64 0, .slice none 0 0, .int .i64 0, .int .i64 0, .int .i64 0, .int .i64 0, .int .i64 0, .string ⟨#[]⟩, .int .i64 0, .int .i64 0]
abbrev zOo : Obj := .cells #[.int .i64 0, .int .i64 0, .int .i64 0, .slice none 0 0, .int .i64 0, .int .i64 0, .int .i64 0, .int .i64 0, .int .i64 0, .string ⟨#[]⟩, .int .i64 0, .int .i64 0] 39
theorem zOo_new (w : World) : Blk (w.alloc zOo) w.heap.size zOv := by
  constructor
  · intro i u hi
    match i, hi with
    | 0, hi | 1, hi | 2, hi | 3, hi | 4, hi | 5, hi | 6, hi | 7, hi | 8, hi | 9, hi | 10, hi | 11, hi => simp at hi; subst hi; simp
    | _ + 12, hi => simp at hi
  · intro i u hi
    simp
theorem opY_copy {w : World} {g : Nat} {zs : List Value} (h : Blk w g zs) (hz : zs.length = 12) (y : OV) : (storeVar 39 ⟨g, 0, none⟩ (valOy y.1 y.2)).run Tryd.prog w = .ok () (setsF w g 0 y.enc 0) := by
  refine storeVar_is sizeO rfl (fun u hu => flatO.one y u hu) (fun j hj => ?_) (fun j hj => ?_)
  · rw [Nat.zero_add, h.cell j _ (List.getElem?_eq_getElem (by omega))]; rfl
  · rw [Nat.zero_add]; exact h.free j _ (List.getElem?_eq_getElem (by omega))
/-- what has been taken of them so far -/
structure MvI (zs : List OV) (k n0 : Nat) : Prop where
  am : AllM (zs.map (·.1))
  asc : AscS (zs.map (·.1))
  len : zs.length ≤ n0
  tm : ∀ z ∈ zs, z.1.1.t ≤ (k : Int)
theorem MvI.nil (k n0 : Nat) : MvI [] k n0 := ⟨fun o ho => by simp at ho, List.Pairwise.nil, Nat.zero_le _, fun z hz => by simp at hz⟩
theorem MvI.skip {zs : List OV} {k n0 : Nat} (h : MvI zs k n0) : MvI zs (k + 1) n0 := ⟨h.am, h.asc, h.len, fun z hz => by have := h.tm z hz; omega⟩
theorem MvI.push {zs : List OV} {k n0 : Nat} (h : MvI zs k n0) {o : OpD} {d : DV} (ho : moveB o = true) (ht : o.1.t = (k : Int) + 1) (hl : zs.length < n0) : MvI (zs ++ [(o, d)]) (k + 1) n0 := by
  refine ⟨fun x hx => ?_, ?_, by simp; omega, fun z hz => ?_⟩
  · rw [List.map_append, List.mem_append] at hx
    rcases hx with hx | hx
    · exact h.am x hx
    · simp only [List.map_cons, List.map_nil, List.mem_singleton] at hx
      subst hx
      exact ho
  · rw [List.map_append]
    unfold AscS
    rw [List.pairwise_append]
    refine ⟨h.asc, List.pairwise_singleton _ _, fun a ha b hb => ?_⟩
    simp only [List.map_cons, List.map_nil, List.mem_singleton] at hb
    subst hb
    rw [List.mem_map] at ha
    obtain ⟨z, hz, rfl⟩ := ha
    rw [ltP_iff]
    left
    have := h.tm z hz
    show z.1.1.t < b.1.t
    omega
  · rw [List.mem_append] at hz
    rcases hz with hz | hz
    · have := h.tm z hz; omega
    · simp only [List.mem_singleton] at hz
      subst hz
      show o.1.t ≤ _
      omega
def MovesPost (W : World) (n0 : Nat) (e : Ending) (w' : World) : Prop := ∃ v zs, e = .returned v ∧ OwnV w' W.heap.size v zs ∧ AllM (zs.map (·.1)) ∧ AscS (zs.map (·.1)) ∧ zs.length ≤ n0 ∧ Below W.heap.size W w'
/-- what becomes of one -/
abbrev mvOf (x : OpD) (k : Nat) (rp : Int) : OpD := (⟨(k : Int) + 1, rp, List.replicate 16 0, x.1.k, x.1.nt, x.1.nr, x.1.pt, x.1.pr, x.1.s, x.1.p, x.1.v⟩, 1)
set_option maxHeartbeats 4000000 in
set_option maxRecDepth 100000 in
theorem moves_any (la : Option Addr) (xs : List OV) (ln lc n0 : Nat) (hn0 : n0 ≤ 1000) (W : World) (hr : RowF 12 OV.enc W la xs) (hd : DepsV W xs) (hl : ln = xs.length) (hb : xs.length ≤ 4398046511104) :
    Calls Tryd.prog 7 #[.slice la ln lc, .int .i64 (n0 : Int)] W (MovesPost W n0) := by
  have mixed : Tryd.prog.follows .mixedOrders = true := by kernel_rfl
  have HR := Lib.hid hr
  have HD := Lib.hid hd
  have HL := Lib.hid hl
  have HLB := Lib.hid hb
  have h1 := st_buildT
  have h2 := make16T
  clear hr hd hl hb
  go_enter Tryd.func7, Tryd.ntmps7
  go_wp2_with fail
  go_loopg [5, 6] ln (fun gg s5 s6 wr => ∃ (k : Nat) (zs : List OV), s6 = .int .i64 k ∧ k ≤ ln ∧ ln - k ≤ gg ∧ Hid (OwnV wr W.heap.size s5 zs) ∧ Hid (MvI zs k n0) ∧ Hid (Below W.heap.size W wr))
  case atStart => exact ⟨0, [], rfl, Nat.zero_le _, by omega, OwnV.nil _ _, MvI.nil _ _, Below.refl _ _⟩
  case round =>
    obtain ⟨k, zs, rfl, hk, hgk, HV, HM, HB⟩ := hrel
    obtain ⟨a5, n5, c5, rfl, hn5, -, -, -⟩ := HV.out.form
    have HN5 := Lib.hid hn5
    have hlb : ln ≤ 4398046511104 := by rw [HL.out]; exact HLB.out
    clear hn5
    by_cases hin : k < ln
    · have hinz : (k : Int) < (ln : Int) := by omega
      by_cases h5 : n5 < n0
      · have h5z : (n5 : Int) < (n0 : Int) := by omega
        have hw : wrap64 ((k : Int) + 1) = (k : Int) + 1 := IntWalk.wrap64_in _ (by omega)
        obtain ⟨y, hy⟩ : ∃ y, xs[k]? = some y := ⟨_, List.getElem?_eq_getElem (by rw [← HL.out]; exact hin)⟩
        obtain ⟨b, off, rfl, hat⟩ := HR.out k y hy
        have hld := opV_load (b := b) (o := off + k * 12) (y := y) (w := wr) (FAt.below hat HB.out (FAt.lt flatO hat))
        obtain ⟨q, hq⟩ : ∃ q, wr.heap.size = q := ⟨_, rfl⟩
        obtain ⟨⟨⟨t, r, ds, kd, nt, nr, pt, pr, s, p, v⟩, qq⟩, ⟨da, dn, dc⟩⟩ := y
        clear hat hy
        go_upto_region 9 with (first
          | (refine wpList_loadS rfl _ 39 rfl b (off + k * 12) rfl _ hld ?_)
          | (go_at_call 21
             refine (within16T _ _).mono ?_
             rintro e w ⟨rp, rfl, hrp0, hrp1, rfl⟩))
        clear hld hw
        obtain ⟨w6, hw6⟩ : ∃ w6, wr.alloc (objO (mvOf (⟨t, r, ds, kd, nt, nr, pt, pr, s, p, v⟩, qq) k rp) (some ⟨q + 1, 0, none⟩) 16 16) = w6 := ⟨_, rfl⟩
        obtain ⟨w8, hw8⟩ : ∃ w8, w6.alloc (.cells (madeCells #[.int .i64 0] 16) 3) = w8 := ⟨_, rfl⟩
        rw [hw6, hw8]
        obtain ⟨x, hx⟩ : ∃ x : OpD, mvOf (⟨t, r, ds, kd, nt, nr, pt, pr, s, p, v⟩, qq) k rp = x := ⟨_, rfl⟩
        rw [hx] at hw6
        have HXT : Hid (x.1.t = (k : Int) + 1) := by show _ = _; rw [← hx]
        have HXD : Hid (x.1.ds = List.replicate 16 0) := by show _ = _; rw [← hx]
        have hs6 : w6.heap.size = q + 1 := by rw [← hw6, World.size_alloc, hq]
        have HB8 : Hid (Below wr.heap.size wr w8) := by show Below _ _ _; rw [← hw8, ← hw6]; exact (box_bel wr _).trans ((box_bel _ _).mono (by simp))
        have HC8 : Hid (CellsAt w8 q 0 (OV.enc (x, ⟨some ⟨q + 1, 0, none⟩, 16, 16⟩))) := by
          show CellsAt _ _ _ _
          obtain ⟨b', o', e, h3⟩ := one_rowV wr x ⟨some ⟨q + 1, 0, none⟩, 16, 16⟩ 0 _ rfl
          simp only [Option.some.injEq, Addr.mk.injEq] at e
          obtain ⟨rfl, rfl, _⟩ := e
          rw [hq] at h3
          rw [← hw8]
          have h4 : FAt OV.enc w6 q 0 (x, ⟨some ⟨q + 1, 0, none⟩, 16, 16⟩) := by rw [← hw6]; exact h3
          exact h4.below (box_bel w6 _) (by rw [hs6]; omega)
        have HO8 : Hid (OwnK .i64 3 w8 W.heap.size (.slice (some ⟨q + 1, 0, none⟩) 16 16) x.1.ds) := by
          show OwnK _ _ _ _ _ _
          rw [HXD.out, ← hw8, ← hs6]
          exact (ownZT 16 (by decide) w6).mono (by rw [hs6]; have := HB.out.size; omega)
        clear hw6 hw8 hs6 hx
        have hlx := opV_load HC8.out
        have HDX : Hid (DepK w8 x ⟨some ⟨q + 1, 0, none⟩, 16, 16⟩) := by
          obtain ⟨a, n, cp, e, hn, hrw, -⟩ := HO8.out.form'
          injection e with e1 e2 e3
          subst e1 e2 e3
          exact ⟨hn, hrw, by rw [HXD.out]; decide⟩
        have CR := Lib.hid (refMove_any x ⟨some ⟨q + 1, 0, none⟩, 16, 16⟩ w8 HDX.out)
        obtain ⟨mb, hmb⟩ : ∃ mb, moveB x = mb := ⟨_, rfl⟩
        rw [hmb] at CR
        go_wp2_with (refine wpList_loadS rfl _ 39 rfl q 0 rfl _ hlx ?_)
        refine (CR.out).mono ?_
        rintro e w9 ⟨rfl, hb9⟩
        have HV9 := Lib.hid ((HV.out.next HB8.out).next hb9)
        have HB9 : Hid (Below W.heap.size W w9) := (HB.out.trans (HB8.out.mono HB.out.size)).trans (hb9.mono (Nat.le_trans HB.out.size HB8.out.size))
        have HC9 : Hid (CellsAt w9 q 0 (OV.enc (x, ⟨some ⟨q + 1, 0, none⟩, 16, 16⟩))) := FAt.below HC8.out hb9 (FAt.lt flatO HC8.out)
        have HO9 : Hid (OwnK .i64 3 w9 W.heap.size (.slice (some ⟨q + 1, 0, none⟩) 16 16) x.1.ds) := HO8.out.below hb9
        clear hb9 hlx CR HC8 HO8 HDX
        cases mb
        case false =>
          go_wp2
          have HM2 := Lib.hid HM.out.skip
          go_roundg (ln - (k + 1))
          case measure => omega
          case rel => exact ⟨k + 1, zs, by go_num, by omega, by omega, HV9, HM2, HB9⟩
        case true =>
          have hl9 := opV_load HC9.out
          have HZN : Hid (zs.length < n0) := by show _ < _; rw [← HN5.out]; exact h5
          have HLE : Hid ((zs.length + [((x, ⟨some ⟨q + 1, 0, none⟩, 16, 16⟩) : OV)].length) * 120 ≤ 140737488355328) := by
            show _ ≤ _
            have := HZN.out
            rw [List.length_singleton]
            omega
          go_wp2_with (first
            | (refine wpList_loadS rfl _ 39 rfl q 0 rfl _ hl9 ?_)
            | (at_builtin
               refine wpF_row flatO rfl _ _ rfl W.heap.size w9 _ (World.grownBy_alloc w9 _ none) (.slice a5 n5 c5) zs [((x, ⟨some ⟨q + 1, 0, none⟩, 16, 16⟩) : OV)] (some ⟨w9.heap.size, 0, none⟩) 1 1 rfl HV9.out.own rfl rfl (one_rowF w9 ((x, ⟨some ⟨q + 1, 0, none⟩, 16, 16⟩) : OV) _ rfl) (by exact HLE.out) HB9.out.size ?_
               intro v6 w10 hp6
               have HP6 := Lib.hid hp6
               clear hp6))
          have HV10 : Hid (OwnV w10 W.heap.size v6 (zs ++ [((x, ⟨some ⟨q + 1, 0, none⟩, 16, 16⟩) : OV)])) := HV9.out.push (by rw [HXD.out]; rfl) HO9.out (by rw [HXD.out]; decide) HP6.out
          have HM10 := Lib.hid (HM.out.push (d := ⟨some ⟨q + 1, 0, none⟩, 16, 16⟩) hmb HXT.out HZN.out)
          have HB10 : Hid (Below W.heap.size W w10) := HP6.out.bel HB9.out (Nat.le_refl _) HB9.out.size
          go_roundg (ln - (k + 1))
          case measure => omega
          case rel => exact ⟨k + 1, _, by go_num, by omega, by omega, HV10, HM10, HB10⟩
      · have h5z : ¬ (n5 : Int) < (n0 : Int) := by omega
        go_wp2
        go_ret
        exact ⟨_, zs, rfl, HV.out, HM.out.am, HM.out.asc, HM.out.len, HB.out⟩
    · have hinz : ¬ (k : Int) < (ln : Int) := by omega
      go_wp2
      go_ret
      exact ⟨_, zs, rfl, HV.out, HM.out.am, HM.out.asc, HM.out.len, HB.out⟩
end Go.Proofs.YtjlbpmmckgjajaaDoor

/- Trees: what the law of orders comes to: mathematics; Apply, told in one. -/
namespace Go.Proofs.YtjlbpmmckgjajaaDoor
open Go.RowKit Go.Lib Go.Maps
set_option linter.unusedVariables false

theorem asc_sub : ∀ {L C : List OpD}, AscS L → AscS C → (∀ x ∈ C, x ∈ L) → C.Sublist L
  | [], [], _, _, _ => List.Sublist.slnil
  | [], c :: C, _, _, h => by have := h c (List.mem_cons_self ..); simp at this
  | a :: L, [], _, _, _ => List.nil_sublist _
  | a :: L, c :: C, hL, hC, h => by
    have hL1 := (List.pairwise_cons.1 hL)
    have hC1 := (List.pairwise_cons.1 hC)
    by_cases hca : c = a
    · subst hca
      refine List.Sublist.cons_cons _ (asc_sub hL1.2 hC1.2 fun x hx => ?_)
      have h1 := hC1.1 x hx
      rcases List.mem_cons.1 (h x (List.mem_cons_of_mem _ hx)) with e | e
      · subst e; rw [ltP_irr] at h1; cases h1
      · exact e
    · have hcL : c ∈ L := by
        rcases List.mem_cons.1 (h c (List.mem_cons_self ..)) with e | e
        · exact absurd e hca
        · exact e
      have hac := hL1.1 c hcL
      refine List.Sublist.cons _ (asc_sub hL1.2 hC fun x hx => ?_)
      rcases List.mem_cons.1 (h x hx) with e | e
      · exfalso
        subst e
        rcases List.mem_cons.1 hx with e | e
        · subst e; rw [ltP_irr] at hac; cases hac
        · have h2 := hC1.1 _ e
          have h3 := ltP_iff.1 hac
          have h4 := ltP_iff.1 h2
          omega
      · exact e
theorem asc_full {L C : List OpD} (hL : AscS L) (hC : AscS C) (h : ∀ x ∈ C, x ∈ L) (hl : C.length = L.length) : C = L := (asc_sub hL hC h).eq_of_length hl
theorem posS_front {l : List OpD} (h : AscS l) {i : Nat} {o : OpD} (hi : l[i]? = some o) : PosS (l.drop (i + 1)) o 0 := by
  have hil := (List.getElem?_eq_some_iff.1 hi).1
  refine ⟨Nat.zero_le _, fun x hx => by simp at hx, fun x hx => ?_⟩
  rw [List.drop_zero] at hx
  have e2 : l.drop i = o :: l.drop (i + 1) := by
    rw [List.drop_eq_getElem_cons hil]
    rw [List.getElem?_eq_getElem hil] at hi
    injection hi with hi
    rw [hi]
  have h1 : AscS (l.drop i) := List.Pairwise.sublist (List.drop_sublist _ _) h
  rw [e2] at h1
  have h2 := (List.pairwise_cons.1 h1).1 x hx
  rw [Bool.eq_false_iff]
  intro h3
  have h4 := ltP_iff.1 h2
  have h5 := ltP_iff.1 h3
  omega
theorem ins_front {l : List OpD} {i : Nat} {o : OpD} (hi : l[i]? = some o) : insS (l.drop (i + 1)) o 0 = l.drop i := by
  have hil := (List.getElem?_eq_some_iff.1 hi).1
  unfold insS
  rw [List.take_zero, List.drop_zero, List.nil_append, List.drop_eq_getElem_cons hil]
  rw [List.getElem?_eq_getElem hil] at hi
  injection hi with hi
  rw [hi]
/-- some of the moves, by their stamps -/
structure SubM (L C : List OpD) : Prop where
  am : AllM C
  asc : AscS C
  sub : ∀ x ∈ C, x ∈ L
theorem SubM.nil (L : List OpD) : SubM L [] := ⟨fun x hx => by simp at hx, List.Pairwise.nil, fun x hx => by simp at hx⟩
theorem SubM.len {L C : List OpD} (h : SubM L C) (hL : AscS L) : C.length ≤ L.length := (asc_sub hL h.asc h.sub).length_le
theorem SubM.ins {L C : List OpD} (h : SubM L C) {o : OpD} (ho : moveB o = true) (hm : o ∈ L) {p : Nat} (hp : PosS C o p) (hn : hereS C o = false) : SubM L (insS C o p) := by
  refine ⟨fun x hx => ?_, insS_asc h.asc hp hn, fun x hx => ?_⟩
  · unfold insS at hx
    rw [List.mem_append, List.mem_cons] at hx
    rcases hx with hx | rfl | hx
    · exact h.am x (List.mem_of_mem_take hx)
    · exact ho
    · exact h.am x (List.mem_of_mem_drop hx)
  · unfold insS at hx
    rw [List.mem_append, List.mem_cons] at hx
    rcases hx with hx | rfl | hx
    · exact h.sub x (List.mem_of_mem_take hx)
    · exact hm
    · exact h.sub x (List.mem_of_mem_drop hx)
/-- Apply, of a tree of some of the moves: it is put in, or it is there -/
def ApplyU (W : World) (L C : List OpD) (e : Ending) (w' : World) : Prop :=
  Below W.heap.size W w' ∧ ∃ (na : Option Addr) (nn nc : Nat) (ma : Option Addr) (mn mc : Nat) (z : Int) (C' : List OpD), e = .returned (.tuple #[valT na nn nc ma mn mc, .int .i64 z]) ∧ TrO w' W.heap.size na nn nc ma mn mc C' ∧ ((z = 0 ∧ SubM L C') ∨ (z = 4 ∧ C' = []))
theorem apply_u (v : Value) (L C : List OpD) (o : OpD) (d : DV) (W : World) (ht : Pr.Tab W) (h : TrI W v C) (hc : SubM L C) (hL : AscS L) (ho : moveB o = true) (hm : o ∈ L) (hd : DepK W o d) (hl : L.length ≤ 160) :
    Calls Tryd.prog 8 #[v, valOy o d] W (ApplyU W L C) := by
  refine (apply_own v C o d W ht h hc.am hc.asc ho hd (Nat.le_trans (hc.len hL) hl)).mono ?_
  rintro e w' ⟨hb, hcs⟩
  rcases hcs with ⟨_, rfl⟩ | ⟨hn, p, na, nn, nc, ma, mn, mc, hp, rfl, ht'⟩
  · exact ⟨hb, none, 0, 0, none, 0, 0, 4, [], rfl, TrO.nil _ _, .inr ⟨rfl, rfl⟩⟩
  · exact ⟨hb, na, nn, nc, ma, mn, mc, 0, _, rfl, ht', .inl ⟨rfl, hc.ins ho hm hp hn⟩⟩
/-- a tree in memory: where its rows lie -/
structure TV where
  na : Option Addr
  nn : Nat
  nc : Nat
  ma : Option Addr
  mn : Nat
  mc : Nat
/-- three trees in boxes -/
structure OrW (w1 wr : World) (g : Nat) (a b c : TV) (A B C : List OpD) : Prop where
  bl : Below g w1 wr
  ba : Blk wr g [.slice a.na a.nn a.nc, .slice a.ma a.mn a.mc]
  bb : Blk wr (g + 1) [.slice b.na b.nn b.nc, .slice b.ma b.mn b.mc]
  bc : Blk wr (g + 1 + 1) [.slice c.na c.nn c.nc, .slice c.ma c.mn c.mc]
  ta : TrO wr (g + 3) a.na a.nn a.nc a.ma a.mn a.mc A
  tb : TrO wr (g + 3) b.na b.nn b.nc b.ma b.mn b.mc B
  tc : TrO wr (g + 3) c.na c.nn c.nc c.ma c.mn c.mc C
section
variable {w1 wr w' : World} {g : Nat} {a b c x : TV} {A B C X : List OpD}
theorem OrW.lt (h : OrW w1 wr g a b c A B C) : g + 3 ≤ wr.heap.size := h.bc.lt
theorem OrW.next (h : OrW w1 wr g a b c A B C) (hb : Below wr.heap.size wr w') : OrW w1 w' g a b c A B C :=
  ⟨h.bl.trans (hb.mono (Nat.le_of_lt h.ba.lt)), h.ba.next hb, h.bb.next hb, h.bc.next hb, h.ta.next hb, h.tb.next hb, h.tc.next hb⟩
theorem TrO.far2 {w : World} {base : Nat} {a : TV} {A : List OpD} (h : TrO w base a.na a.nn a.nc a.ma a.mn a.mc A) {k : Nat} (hk : k < base) (u v : Value) : TrO ((w.setCell ⟨k, 0, none⟩ u).setCell ⟨k, 1, none⟩ v) base a.na a.nn a.nc a.ma a.mn a.mc A := (h.far hk _ _).far hk _ _
theorem Blk.far2 {w : World} {k j : Nat} {vs : List Value} (h : Blk w j vs) (hk : k ≠ j) (u v : Value) : Blk ((w.setCell ⟨k, 0, none⟩ u).setCell ⟨k, 1, none⟩ v) j vs := (h.other hk 0 u).other hk 1 v
theorem OrW.putA (h : OrW w1 wr g a b c A B C) (hx : TrO wr (g + 3) x.na x.nn x.nc x.ma x.mn x.mc X) : OrW w1 ((wr.setCell ⟨g, 0, none⟩ (.slice x.na x.nn x.nc)).setCell ⟨g, 1, none⟩ (.slice x.ma x.mn x.mc)) g x b c X B C :=
  ⟨two_bel h.bl (Nat.le_refl _) _ _, (h.ba.set 0 _).set 1 _, h.bb.far2 (by omega) _ _, h.bc.far2 (by omega) _ _, hx.far2 (by omega) _ _, h.tb.far2 (by omega) _ _, h.tc.far2 (by omega) _ _⟩
theorem OrW.putB (h : OrW w1 wr g a b c A B C) (hx : TrO wr (g + 3) x.na x.nn x.nc x.ma x.mn x.mc X) : OrW w1 ((wr.setCell ⟨g + 1, 0, none⟩ (.slice x.na x.nn x.nc)).setCell ⟨g + 1, 1, none⟩ (.slice x.ma x.mn x.mc)) g a x c A X C :=
  ⟨two_bel h.bl (Nat.le_succ _) _ _, h.ba.far2 (by omega) _ _, (h.bb.set 0 _).set 1 _, h.bc.far2 (by omega) _ _, h.ta.far2 (by omega) _ _, hx.far2 (by omega) _ _, h.tc.far2 (by omega) _ _⟩
theorem OrW.putC (h : OrW w1 wr g a b c A B C) (hx : TrO wr (g + 3) x.na x.nn x.nc x.ma x.mn x.mc X) : OrW w1 ((wr.setCell ⟨g + 1 + 1, 0, none⟩ (.slice x.na x.nn x.nc)).setCell ⟨g + 1 + 1, 1, none⟩ (.slice x.ma x.mn x.mc)) g a b x A B X :=
  ⟨two_bel h.bl (by omega) _ _, h.ba.far2 (by omega) _ _, h.bb.far2 (by omega) _ _, (h.bc.set 0 _).set 1 _, h.ta.far2 (by omega) _ _, h.tb.far2 (by omega) _ _, hx.far2 (by omega) _ _⟩
end
theorem orW_new (w1 : World) : OrW w1 (((w1.alloc zT).alloc zT).alloc zT) w1.heap.size ⟨none, 0, 0, none, 0, 0⟩ ⟨none, 0, 0, none, 0, 0⟩ ⟨none, 0, 0, none, 0, 0⟩ [] [] [] := by
  have a1 := objT_new w1 none 0 0 none 0 0
  have a2 := objT_new (w1.alloc zT) none 0 0 none 0 0
  have a3 := objT_new ((w1.alloc zT).alloc zT) none 0 0 none 0 0
  have q1 := (a1.next (box_bel _ zT)).next (box_bel _ zT)
  have q2 := a2.next (box_bel _ zT)
  rw [World.size_alloc] at q2
  rw [World.size_alloc, World.size_alloc] at a3
  exact ⟨(box_bel w1 _).trans (((box_bel _ _).mono (by simp)).trans ((box_bel _ _).mono (by simp; omega))), q1, q2, a3, TrO.nil _ _, TrO.nil _ _, TrO.nil _ _⟩
end Go.Proofs.YtjlbpmmckgjajaaDoor
