/- Joined: TX6 TX7. -/
import Derived.Test.YtjlbpmmckgjajaaDoorYT
import Derived.Test.YtjlbpmmckgjajaaDoorZF

/- Trees: the laws' own functions: a number, a move, so many nodes; what wakes it. -/
namespace Go.Proofs.YtjlbpmmckgjajaaDoor
open Go.RowKit Go.Lib Go.Maps
set_option linter.unusedVariables false

theorem num16_any (n : Int) (w : World) : Calls Tryd.prog 9 #[.int .i64 n] w fun e w' => e = .returned (.int .i64 n) ∧ w = w' := by
  go_enter Tryd.func9, Tryd.ntmps9
  go_wp2
  go_ret
  exact ⟨rfl, rfl⟩
/-- a tree of one's own, made of moves -/
structure TrO (w : World) (base : Nat) (na : Option Addr) (nn nc : Nat) (ma : Option Addr) (mn mc : Nat) (l : List OpD) : Prop where
  ex : ∃ zs : List EV, OwnF 44 5 ND.enc w base (.slice na nn nc) (nodesG l) ∧ OwnF 54 17 EV.enc w base (.slice ma mn mc) zs ∧ entsY zs = entsG l ∧ DepsF w base zs
theorem TrO.nil (w : World) (base : Nat) : TrO w base none 0 0 none 0 0 [] := ⟨[], OwnF.nil _ _, OwnF.nil _ _, rfl, fun y hy => by simp at hy⟩
section
variable {w w' : World} {base : Nat} {na : Option Addr} {nn nc : Nat} {ma : Option Addr} {mn mc : Nat} {l : List OpD}
theorem TrO.next (h : TrO w base na nn nc ma mn mc l) (hb : Below w.heap.size w w') : TrO w' base na nn nc ma mn mc l := by
  obtain ⟨zs, h1, h2, h3, h4⟩ := h.ex
  exact ⟨zs, h1.below hb, h2.below hb, h3, fun y hy => ⟨(h4 y hy).1, (h4 y hy).2.1.below hb, (h4 y hy).2.2⟩⟩
theorem TrO.mono (h : TrO w base na nn nc ma mn mc l) {base' : Nat} (hb : base' ≤ base) : TrO w base' na nn nc ma mn mc l := by
  obtain ⟨zs, h1, h2, h3, h4⟩ := h.ex
  exact ⟨zs, h1.mono hb, h2.mono hb, h3, fun y hy => ⟨(h4 y hy).1, (h4 y hy).2.1.mono hb, (h4 y hy).2.2⟩⟩
theorem TrO.far (h : TrO w base na nn nc ma mn mc l) {g : Nat} (hg : g < base) (i : Nat) (u : Value) : TrO (w.setCell ⟨g, i, none⟩ u) base na nn nc ma mn mc l := by
  obtain ⟨zs, h1, h2, h3, h4⟩ := h.ex
  exact ⟨zs, h1.far hg i u, h2.far hg i u, h3, fun y hy => ⟨(h4 y hy).1, (h4 y hy).2.1.far hg i u, (h4 y hy).2.2⟩⟩
theorem TrO.tri (h : TrO w base na nn nc ma mn mc l) (hl : l.length ≤ 4398046511104) : TrI w (valT na nn nc ma mn mc) l := by
  obtain ⟨zs, hn, hm, he, hd⟩ := h.ex
  obtain ⟨a1, n1, c1, e1, hl1, -, hr1, -⟩ := hn.form flatN
  injection e1 with e1 e2 e3
  subst e1 e2 e3
  obtain ⟨a2, n2, c2, e4, hl2, hc2, hr2, -⟩ := hm.form flatE
  injection e4 with e4 e5 e6
  subst e4 e5 e6
  exact ⟨na, nn, nc, ma, mn, mc, zs, rfl, ⟨hr1, hl1, Nat.le_trans (nodes_len l) hl, ⟨hr2, hd.read⟩, hl2⟩, he, hc2⟩
/-- how long its rows are, where they lie -/
theorem TrO.form (h : TrO w base na nn nc ma mn mc l) : nn = (nodesG l).length ∧ mn = l.length ∧ RowF 5 ND.enc w na (nodesG l) ∧ ∃ zs, RowM w ma zs ∧ entsY zs = entsG l := by
  obtain ⟨zs, hn, hm, he, hd⟩ := h.ex
  obtain ⟨a1, n1, c1, e1, hl1, -, hr1, -⟩ := hn.form flatN
  injection e1 with e1 e2 e3
  subst e1 e2 e3
  obtain ⟨a2, n2, c2, e4, hl2, hc2, hr2, -⟩ := hm.form flatE
  injection e4 with e4 e5 e6
  subst e4 e5 e6
  exact ⟨hl1, by rw [hl2, ← entsY_len, he, entsG_len], hr1, zs, ⟨hr2, hd.read⟩, he⟩
end
/-- Apply, of trees of one's own -/
def ApplyO (W : World) (l : List OpD) (o : OpD) (e : Ending) (w' : World) : Prop :=
  Below W.heap.size W w' ∧ ((hereS l o = true ∧ e = .returned (.tuple #[valT none 0 0 none 0 0, .int .i64 4])) ∨
    (hereS l o = false ∧ ∃ (p : Nat) (na : Option Addr) (nn nc : Nat) (ma : Option Addr) (mn mc : Nat), PosS l o p ∧ e = .returned (.tuple #[valT na nn nc ma mn mc, .int .i64 0]) ∧ TrO w' W.heap.size na nn nc ma mn mc (insS l o p)))
theorem apply_own (v : Value) (l : List OpD) (o : OpD) (d : DV) (W : World) (ht : Pr.Tab W) (h : TrI W v l) (hm : AllM l) (ha : AscS l) (ho : moveB o = true) (hd : DepK W o d) (hl : l.length ≤ 160) :
    Calls Tryd.prog 8 #[v, valOy o d] W (ApplyO W l o) := by
  obtain ⟨na, nn, nc, ma, mn, mc, zs, rfl, hr, he, hmc⟩ := h.ex
  have hT := treeP_made hm ha
  have hops : opsE (entsG l) = l := madeG_ops l []
  have hzl : zs.length = l.length := by rw [← entsY_len, he, entsG_len]
  refine (apply_any na _ nn nc ma zs mn mc o d W ht hr hmc hd (by omega)).mono ?_
  rintro e w' ⟨hb, hc⟩
  rw [he, hops] at hc
  refine ⟨hb, ?_⟩
  rcases hc with ⟨h1, _⟩ | ⟨_, _, h1, h2⟩ | ⟨_, _, h1, p, hp, h2⟩
  · exact absurd ⟨hT, ho⟩ h1
  · exact .inl ⟨h1, h2⟩
  · obtain ⟨na', nn', nc', ma', mn', mc', zs', e1, k1, k2, k3, k4⟩ := h2
    exact .inr ⟨h1, p, na', nn', nc', ma', mn', mc', hp, e1, zs', k1, k2, k3, k4⟩
/-- one that goes to a place that is known -/
def ApplyQ (W : World) (l' : List OpD) (e : Ending) (w' : World) : Prop :=
  Below W.heap.size W w' ∧ ∃ (na : Option Addr) (nn nc : Nat) (ma : Option Addr) (mn mc : Nat), e = .returned (.tuple #[valT na nn nc ma mn mc, .int .i64 0]) ∧ TrO w' W.heap.size na nn nc ma mn mc l'
theorem apply_to (v : Value) (l : List OpD) (o : OpD) (d : DV) (W : World) (p : Nat) (ht : Pr.Tab W) (h : TrI W v l) (hm : AllM l) (ha : AscS l) (ho : moveB o = true) (hd : DepK W o d) (hl : l.length ≤ 160) (hh : hereS l o = false) (hp : PosS l o p) {l' : List OpD} (hl' : insS l o p = l') :
    Calls Tryd.prog 8 #[v, valOy o d] W (ApplyQ W l') := by
  refine (apply_own v l o d W ht h hm ha ho hd hl).mono ?_
  rintro e w' ⟨hb, hc⟩
  rcases hc with ⟨h1, _⟩ | ⟨_, q, na, nn, nc, ma, mn, mc, hq, rfl, h3⟩
  · rw [hh] at h1; cases h1
  · rw [posS_uniq hq hp, hl'] at h3
    exact ⟨hb, na, nn, nc, ma, mn, mc, rfl, h3⟩
theorem own_one (W : World) (base : Nat) (z : Int) (hb : base ≤ W.heap.size) : OwnK .i64 3 (W.alloc (.cells #[.int .i64 z] 3)) base (.slice (some ⟨W.heap.size, 0, none⟩) 1 1) [z] :=
  ⟨by simp, .inr ⟨W.heap.size, 1, #[.int .i64 z], rfl, hb, heap_alloc_new W _, Nat.le_refl _, by unfold maxLen; omega, by simp, by simp⟩⟩
theorem st_build0 (w : World) : (Instr.build 36 #[]).run Tryd.prog w = .ok (.agg #[.int .i64 0, .int .i64 0]) w := run_build w 36 _ _ (by kernel_rfl)
theorem tree_build0 (w : World) : (Instr.build 25 #[]).run Tryd.prog w = .ok (.agg #[.slice none 0 0, .slice none 0 0]) w := run_build w 25 _ _ (by kernel_rfl)
theorem op_buildM (t nt nr pt pr : Int) (da : Option Addr) (dn dc : Nat) (w : World) : (Instr.build 39 #[(0, .agg #[.int .i64 t, .int .i64 0]), (1, .int .i64 1), (2, .slice da dn dc), (3, .int .i64 1), (4, .agg #[.int .i64 nt, .int .i64 nr]), (5, .agg #[.int .i64 pt, .int .i64 pr]), (6, .string ⟨#[107]⟩)]).run Tryd.prog w = .ok (.agg #[.int .i64 t, .int .i64 0, .int .i64 1, .slice da dn dc, .int .i64 1, .int .i64 nt, .int .i64 nr, .int .i64 pt, .int .i64 pr, .string ⟨#[107]⟩, .int .i64 0, .int .i64 0]) w := run_build w 39 _ _ (by kernel_rfl)
def MvPost (w : World) (o : OpD) (e : Ending) (w' : World) : Prop := ∃ d : DV, e = .returned (valOy o d) ∧ d.n = o.1.ds.length ∧ OwnK .i64 3 w' w.heap.size (.slice d.a d.n d.c) o.1.ds ∧ Below w.heap.size w w'
set_option maxHeartbeats 1000000 in
set_option maxRecDepth 100000 in
theorem move_any (t a b c d : Int) (w : World) : Calls Tryd.prog 18 #[.int .i64 t, .agg #[.int .i64 a, .int .i64 b], .agg #[.int .i64 c, .int .i64 d]] w (MvPost w (mvO t (a, b) (c, d))) := by
  have h1 := st_buildT
  have h2 := op_buildM
  go_enter Tryd.func18, Tryd.ntmps18
  go_wp2
  refine bodyPost_ret (v := valOy (mvO t (a, b) (c, d)) ⟨some ⟨w.heap.size + 1 + 1 + 1, 0, none⟩, 1, 1⟩) (by simp [results, Tryd.results18, go_sem]) rfl ?_
  refine ⟨⟨some ⟨w.heap.size + 1 + 1 + 1, 0, none⟩, 1, 1⟩, rfl, rfl, ?_, ?_⟩
  · have h := own_one (((w.alloc (.cells #[.int .i64 a, .int .i64 b] 36)).alloc (.cells #[.int .i64 c, .int .i64 d] 36)).alloc (.cells #[.int .i64 t, .int .i64 0, .int .i64 1, .slice (some ⟨w.heap.size + 1 + 1 + 1, 0, none⟩) 1 1, .int .i64 1, .int .i64 a, .int .i64 b, .int .i64 c, .int .i64 d, .string ⟨#[107]⟩, .int .i64 0, .int .i64 0] 39)) w.heap.size 0 (by simp; omega)
    rw [World.size_alloc, World.size_alloc, World.size_alloc] at h
    exact h
  · exact (St.below2 w _ _).trans ((St.below2 _ _ _).mono (by simp; omega))
def MadePost (w : World) (n : Nat) (e : Ending) (w' : World) : Prop := ∃ v zs, e = .returned v ∧ OwnV w' w.heap.size v zs ∧ zs.map (·.1) = madeL n ∧ Below w.heap.size w w'
set_option maxHeartbeats 2000000 in
set_option maxRecDepth 100000 in
theorem made_any (n : Nat) (hn : n ≤ 1000) (W : World) : Calls Tryd.prog 17 #[.int .i64 (n : Int)] W (MadePost W n) := by
  have mixed : Tryd.prog.follows .mixedOrders = true := by kernel_rfl
  have C := Lib.hid (fun t a w => move_any t a 0 0 0 w)
  have h1 := st_buildT
  have h2 := st_build0
  go_enter Tryd.func17, Tryd.ntmps17
  go_wp2
  go_loopg [3, 4] n (fun gg s3 s4 wr => ∃ (k : Nat) (zs : List OV), s4 = .int .i64 ((k : Int) + 1) ∧ k ≤ n ∧ n - k ≤ gg ∧ Hid (OwnV wr W.heap.size s3 zs) ∧ Hid (zs.map (·.1) = madeL k) ∧ Hid (Below W.heap.size W wr))
  case atStart => exact ⟨0, [], rfl, Nat.zero_le _, by omega, OwnV.nil _ _, rfl, Below.refl _ _⟩
  case round =>
    obtain ⟨k, zs, rfl, hk, hgk, HV, HM, HB⟩ := hrel
    by_cases hin : k < n
    · have hinz : (k : Int) + 1 ≤ (n : Int) := by omega
      have HZL : Hid (zs.length = k) := by
        show _ = _
        have h := congrArg List.length HM.out
        rw [List.length_map, madeL_len] at h
        exact h
      go_wp2_with fail
      refine (C.out _ _ _).mono ?_
      rintro e w1 ⟨d1, rfl, hd1, ho1, hb1⟩
      have HD1 := Lib.hid hd1
      have HO1 := Lib.hid ho1
      have HB1 : Hid (Below W.heap.size W w1) := HB.out.trans (hb1.mono HB.out.size)
      have HV1 := Lib.hid (HV.out.next hb1)
      clear hd1 ho1 hb1
      have HLE : Hid ((zs.length + [((mkO' (k + 1), d1) : OV)].length) * 120 ≤ 140737488355328) := by
        show _ ≤ _
        rw [List.length_singleton, HZL.out]
        omega
      go_wp2_with (at_builtin
                   refine wpF_row flatO rfl _ _ rfl W.heap.size w1 _ (World.grownBy_alloc w1 _ none) u3 zs [((mkO' (k + 1), d1) : OV)] (some ⟨w1.heap.size, 0, none⟩) 1 1 rfl HV1.out.own rfl rfl (one_rowF w1 ((mkO' (k + 1), d1) : OV) _ rfl) (by exact HLE.out) HB1.out.size ?_
                   intro v6 w6 hp6
                   have HP6 := Lib.hid hp6
                   clear hp6)
      have HV6 : Hid (OwnV w6 W.heap.size v6 (zs ++ [((mkO' (k + 1), d1) : OV)])) := HV1.out.push HD1.out (HO1.out.mono HB.out.size) (by simp) HP6.out
      have HM6 : Hid ((zs ++ [((mkO' (k + 1), d1) : OV)]).map (·.1) = madeL (k + 1)) := by
        show _ = _
        rw [List.map_append, HM.out, madeL_succ]
        rfl
      have HB6 : Hid (Below W.heap.size W w6) := HP6.out.bel HB1.out (Nat.le_refl _) HB1.out.size
      go_roundg (n - (k + 1))
      case measure => omega
      case rel => exact ⟨k + 1, _, by go_num, by omega, by omega, HV6, HM6, HB6⟩
    · obtain rfl : k = n := by omega
      have hinz : ¬ (k : Int) + 1 ≤ (k : Int) := by omega
      go_wp2
      go_ret
      exact ⟨_, _, rfl, HV.out, HM.out, HB.out⟩
theorem kids_one : kidsG [mkO' 1] (0, 0) = [(1, 0)] := by
  have e1 : (nodesG [mkO' 1]).filter (keepB (0, 0)) = [⟨(1, 0), (0, 0), ⟨#[107]⟩⟩] := by kernel_rfl
  unfold kidsG
  rw [e1, List.perm_singleton.1 (sortK_all _)]
  rfl
set_option maxHeartbeats 2000000 in
set_option maxRecDepth 100000 in
theorem wakes16_any (W : World) (ht : Pr.Tab W) : Calls Tryd.prog 11 #[] W (BoolPost W true) := by
  have mixed : Tryd.prog.follows .mixedOrders = true := by kernel_rfl
  have HO := Lib.hid (mkO_any)
  have HT := Lib.hid ht
  have h1 := tree_build0
  have h2 := st_build0
  have h3 := st_buildT
  have HN := Lib.hid (fun w => num16_any 0 w)
  clear ht
  go_enter Tryd.func11, Tryd.ntmps11
  go_wp2_with fail
  refine (HO.out _).mono ?_
  rintro e w1 ⟨a1, rfl, hr1, hb1⟩
  have HB1 := Lib.hid hb1
  have CA := Lib.hid (apply_at (valT none 0 0 none 0 0) [] (mkO' 1) ⟨a1, 1, 1⟩ w1 0 (HT.out.below hb1 HT.out.lt) (TrI.nil w1) (fun o ho => by simp at ho) List.Pairwise.nil (by decide) ⟨rfl, hr1, by decide⟩ (by decide) rfl ⟨by decide, fun x hx => by simp at hx, fun x hx => by simp at hx⟩ (l' := [mkO' 1]) rfl)
  clear hr1 hb1
  go_wp2_with fail
  refine (CA.out).mono ?_
  rintro e w2 ⟨hb2, na, nn, nc, ma, mn, mc, rfl, ht2⟩
  have HB2 : Hid (Below W.heap.size W w2) := HB1.out.trans (hb2.mono HB1.out.size)
  have HT2 := Lib.hid ht2
  obtain ⟨w3, hw3⟩ : ∃ w3, w2.alloc (objT na nn nc ma mn mc) = w3 := ⟨_, rfl⟩
  have HB3 : Hid (Below w2.heap.size w2 w3) := by show Below _ _ _; rw [← hw3]; exact box_bel w2 _
  have HBL : Hid (Blk w3 w2.heap.size [.slice na nn nc, .slice ma mn mc]) := by show Blk _ _ _; rw [← hw3]; exact objT_new w2 na nn nc ma mn mc
  have t0 := HBL.out.cell 0 _ rfl
  have t1 := HBL.out.cell 1 _ rfl
  have CK : Hid (∀ x : Nat, Calls Tryd.prog 13 #[valT na nn nc ma mn mc, .agg #[.int .i64 0, .int .i64 0]] w3 (fun (e : Ending) (w' : World) => Below w3.heap.size w3 w' ∧ ∃ v, e = .returned (.tuple #[v, .int .i64 0]) ∧ OwnF 36 2 encP w' w3.heap.size v [((1, 0) : Pl)])) := fun _ => by
    have h := kids_tri (valT na nn nc ma mn mc) [mkO' 1] 0 0 w3 (HT.out.below (HB2.out.trans (HB3.out.mono HB2.out.size)) HT.out.lt) (HT2.out.next HB3.out) (fun o ho => by simp only [List.mem_singleton] at ho; subst ho; decide) (List.pairwise_singleton _ _) (by decide)
    unfold KidsT at h
    rw [kids_one] at h
    exact h
  clear hb2 ht2 CA
  go_wp2_with fail
  clear hw3 t0 t1
  refine (CK.out 0).mono ?_
  rintro e w4 ⟨hb4, v4, rfl, ho4⟩
  obtain ⟨a4, n4, c4, rfl, hn4, -, hr4, -⟩ := ho4.form flatP
  obtain rfl : n4 = 1 := hn4
  obtain ⟨b, off, rfl, hat⟩ := hr4 0 _ rfl
  have HB4 : Hid (Below W.heap.size W w4) := (HB2.out.trans (HB3.out.mono HB2.out.size)).trans (hb4.mono (Nat.le_trans HB2.out.size HB3.out.size))
  have c0 : w4.cell? ⟨b, off, none⟩ = some (.int .i64 1) := by have h := hat 0 _ rfl; simpa using h
  have c1 : w4.cell? ⟨b, off + 1, none⟩ = some (.int .i64 0) := by have h := hat 1 _ rfl; simpa using h
  have z3 := fun w => St.st_eql 1 0 1 0 w
  simp only [BEq.rfl, Bool.and_self] at z3
  clear hb4 ho4 hr4 hat CK
  go_wp2_with (go_at_call 9; refine (HN.out _).mono ?_; rintro e w ⟨rfl, rfl⟩)
  go_ret
  exact ⟨rfl, HB4.out⟩
end Go.Proofs.YtjlbpmmckgjajaaDoor

/- Trees: a call of Apply in a statement: its tree in a box of its own; a tree in a box written over. -/
namespace Go.Proofs.YtjlbpmmckgjajaaDoor
open Go.RowKit Go.Lib Go.Maps
set_option linter.unusedVariables false

abbrev zT : Obj := objT none 0 0 none 0 0
/-- a call of Apply, its tree in a box of its own -/
structure AR (wr wc : World) (gx : Nat) (na : Option Addr) (nn nc : Nat) (ma : Option Addr) (mn mc : Nat) (l : List OpD) : Prop where
  bel : Below wr.heap.size wr wc
  ge : wr.heap.size ≤ gx
  blk : Blk wc gx [.slice na nn nc, .slice ma mn mc]
  tr : TrO wc wr.heap.size na nn nc ma mn mc l
section
variable {wr w' : World} {na : Option Addr} {nn nc : Nat} {ma : Option Addr} {mn mc : Nat} {l : List OpD}
theorem AR.box (hb : Below (wr.alloc zT).drew.heap.size (wr.alloc zT).drew w') : Blk w' wr.heap.size [.slice none 0 0, .slice none 0 0] := ((objT_new wr none 0 0 none 0 0).drew).next hb
theorem AR.one (hb : Below (wr.alloc zT).drew.heap.size (wr.alloc zT).drew w') (ho : TrO w' (wr.alloc zT).drew.heap.size na nn nc ma mn mc l) : AR wr ((w'.setCell ⟨wr.heap.size, 0, none⟩ (.slice na nn nc)).setCell ⟨wr.heap.size, 1, none⟩ (.slice ma mn mc)) wr.heap.size na nn nc ma mn mc l := by
  have hs : (wr.alloc zT).drew.heap.size = wr.heap.size + 1 := by show (wr.alloc zT).heap.size = _; exact World.size_alloc ..
  have h2 := AR.box hb
  rw [hs] at hb ho
  have h1 : Below wr.heap.size wr w' := (box_bel wr zT).drew.trans (hb.mono (Nat.le_succ _))
  exact ⟨two_bel h1 (Nat.le_refl _) _ _, Nat.le_refl _, (h2.set 0 _).set 1 _, ((ho.far (Nat.lt_succ_self _) _ _).far (Nat.lt_succ_self _) _ _).mono (Nat.le_succ _)⟩
theorem AR.two (hb : Below wr.drew.heap.size wr.drew w') (ho : TrO w' wr.drew.heap.size na nn nc ma mn mc l) : AR wr (w'.alloc (objT na nn nc ma mn mc)) w'.heap.size na nn nc ma mn mc l :=
  ⟨((Below.refl wr.heap.size wr).drew.trans hb).trans ((box_bel w' _).mono hb.size), hb.size, objT_new w' na nn nc ma mn mc, ho.next (box_bel w' _)⟩
end
section
variable {wr w' : World} {gx B : Nat} {a b : Value} {na : Option Addr} {nn nc : Nat} {ma : Option Addr} {mn mc : Nat} {l : List OpD}
theorem AR.set (hb : Below wr.heap.size wr w') (hx : wr.heap.size ≤ gx) (bk : Blk w' gx [a, b]) (ho : TrO w' B na nn nc ma mn mc l) (hB : gx < B) : AR wr ((w'.setCell ⟨gx, 0, none⟩ (.slice na nn nc)).setCell ⟨gx, 1, none⟩ (.slice ma mn mc)) gx na nn nc ma mn mc l :=
  ⟨two_bel hb hx _ _, hx, (bk.set 0 _).set 1 _, ((ho.far hB _ _).far hB _ _).mono (by omega)⟩
theorem AR.new (hb : Below wr.heap.size wr w') (ho : TrO w' B na nn nc ma mn mc l) (hB : wr.heap.size ≤ B) : AR wr (w'.alloc (objT na nn nc ma mn mc)) w'.heap.size na nn nc ma mn mc l :=
  ⟨hb.trans ((box_bel w' _).mono hb.size), hb.size, objT_new w' na nn nc ma mn mc, (ho.next (box_bel w' _)).mono hB⟩
end
/-- a tree in a box that was made behind w3 -/
structure LtB (w3 W : World) (gx : Nat) (na : Option Addr) (nn nc : Nat) (ma : Option Addr) (mn mc : Nat) (l : List OpD) : Prop where
  bel : Below w3.heap.size w3 W
  ge : w3.heap.size ≤ gx
  blk : Blk W gx [.slice na nn nc, .slice ma mn mc]
  tr : ∃ B, TrO W B na nn nc ma mn mc l
section
variable {w3 W w' : World} {gx B : Nat} {na : Option Addr} {nn nc : Nat} {ma : Option Addr} {mn mc : Nat} {l : List OpD}
theorem LtB.of (h : AR w3 W gx na nn nc ma mn mc l) : LtB w3 W gx na nn nc ma mn mc l := ⟨h.bel, h.ge, h.blk, _, h.tr⟩
theorem LtB.next (h : LtB w3 W gx na nn nc ma mn mc l) (hb : Below W.heap.size W w') : LtB w3 w' gx na nn nc ma mn mc l := by
  obtain ⟨B, ht⟩ := h.tr
  exact ⟨h.bel.trans (hb.mono h.bel.size), h.ge, h.blk.next hb, B, ht.next hb⟩
theorem LtB.put {na' : Option Addr} {nn' nc' : Nat} {ma' : Option Addr} {mn' mc' : Nat} {l' : List OpD} (h : LtB w3 W gx na nn nc ma mn mc l) (hb : Below W.heap.size W w') (ho : TrO w' B na' nn' nc' ma' mn' mc' l') (hB : W.heap.size ≤ B) : LtB w3 ((w'.setCell ⟨gx, 0, none⟩ (.slice na' nn' nc')).setCell ⟨gx, 1, none⟩ (.slice ma' mn' mc')) gx na' nn' nc' ma' mn' mc' l' :=
  have hl : gx < B := Nat.lt_of_lt_of_le h.blk.lt hB
  ⟨two_bel (h.bel.trans (hb.mono h.bel.size)) h.ge _ _, h.ge, ((h.blk.next hb).set 0 _).set 1 _, B, (ho.far hl _ _).far hl _ _⟩
end
theorem three_new (wr : World) (x y z : Pl) : Below wr.heap.size wr (((wr.alloc (.cells #[.int .i64 x.1, .int .i64 x.2] 36)).alloc (.cells #[.int .i64 y.1, .int .i64 y.2] 36)).alloc (.cells #[.int .i64 z.1, .int .i64 z.2] 36)).drew ∧
    PlAt (((wr.alloc (.cells #[.int .i64 x.1, .int .i64 x.2] 36)).alloc (.cells #[.int .i64 y.1, .int .i64 y.2] 36)).alloc (.cells #[.int .i64 z.1, .int .i64 z.2] 36)).drew wr.heap.size x ∧
    PlAt (((wr.alloc (.cells #[.int .i64 x.1, .int .i64 x.2] 36)).alloc (.cells #[.int .i64 y.1, .int .i64 y.2] 36)).alloc (.cells #[.int .i64 z.1, .int .i64 z.2] 36)).drew (wr.heap.size + 1) y ∧
    PlAt (((wr.alloc (.cells #[.int .i64 x.1, .int .i64 x.2] 36)).alloc (.cells #[.int .i64 y.1, .int .i64 y.2] 36)).alloc (.cells #[.int .i64 z.1, .int .i64 z.2] 36)).drew (wr.heap.size + 1 + 1) z := by
  have p1 := stP_new wr x.1 x.2
  have p2 := stP_new (wr.alloc (.cells #[.int .i64 x.1, .int .i64 x.2] 36)) y.1 y.2
  have p3 := stP_new ((wr.alloc (.cells #[.int .i64 x.1, .int .i64 x.2] 36)).alloc (.cells #[.int .i64 y.1, .int .i64 y.2] 36)) z.1 z.2
  have q1 := ((p1.next (box_bel _ (.cells #[.int .i64 y.1, .int .i64 y.2] 36))).next (box_bel _ (.cells #[.int .i64 z.1, .int .i64 z.2] 36))).drew
  have q2 := (p2.next (box_bel _ (.cells #[.int .i64 z.1, .int .i64 z.2] 36))).drew
  have q3 := p3.drew
  rw [World.size_alloc] at q2
  rw [World.size_alloc, World.size_alloc] at q3
  refine ⟨(((box_bel wr _).trans ((box_bel _ _).mono (by simp))).trans ((box_bel _ _).mono (by simp; omega))).drew, ⟨q1.cell 0 _ rfl, q1.cell 1 _ rfl⟩, ⟨q2.cell 0 _ rfl, q2.cell 1 _ rfl⟩, ⟨q3.cell 0 _ rfl, q3.cell 1 _ rfl⟩⟩
/-- a tree in a box, what was there ahead of the box is as it was -/
structure LtI (w1 wr : World) (g : Nat) (na : Option Addr) (nn nc : Nat) (ma : Option Addr) (mn mc : Nat) (l : List OpD) : Prop where
  bl : Below g w1 wr
  bk : Blk wr g [.slice na nn nc, .slice ma mn mc]
  tr : TrO wr (g + 1) na nn nc ma mn mc l
section
variable {w1 wr w' : World} {g : Nat} {na : Option Addr} {nn nc : Nat} {ma : Option Addr} {mn mc : Nat} {l : List OpD}
theorem LtI.next (h : LtI w1 wr g na nn nc ma mn mc l) (hb : Below wr.heap.size wr w') : LtI w1 w' g na nn nc ma mn mc l :=
  ⟨h.bl.trans (hb.mono (Nat.le_of_lt h.bk.lt)), h.bk.next hb, h.tr.next hb⟩
theorem LtI.put {na' : Option Addr} {nn' nc' : Nat} {ma' : Option Addr} {mn' mc' : Nat} {l' : List OpD} (h : LtI w1 wr g na nn nc ma mn mc l) (a : TrO wr (g + 1) na' nn' nc' ma' mn' mc' l') : LtI w1 ((wr.setCell ⟨g, 0, none⟩ (.slice na' nn' nc')).setCell ⟨g, 1, none⟩ (.slice ma' mn' mc')) g na' nn' nc' ma' mn' mc' l' :=
  ⟨two_bel h.bl (Nat.le_refl _) _ _, (h.bk.set 0 _).set 1 _, (a.far (Nat.lt_succ_self _) _ _).far (Nat.lt_succ_self _) _ _⟩
end
/-- the step of a list that ascends -/
theorem posS_end {l : List OpD} (h : AscS l) {i : Nat} {o : OpD} (hi : l[i]? = some o) : PosS (l.take i) o i := by
  have hil := (List.getElem?_eq_some_iff.1 hi).1
  refine ⟨by rw [List.length_take]; omega, fun x hx => ?_, fun x hx => ?_⟩
  · rw [List.take_take, Nat.min_self] at hx
    have e1 : l.take i ++ l.drop i = l := List.take_append_drop _ _
    unfold AscS at h
    rw [← e1, List.pairwise_append] at h
    exact h.2.2 x hx o (by rw [List.mem_iff_getElem?]; exact ⟨0, by rw [List.getElem?_drop]; exact hi⟩)
  · rw [List.drop_eq_nil_of_le (by rw [List.length_take]; omega)] at hx
    simp at hx
theorem ins_end {l : List OpD} {i : Nat} {o : OpD} (hi : l[i]? = some o) : insS (l.take i) o i = l.take (i + 1) := by
  have hil := (List.getElem?_eq_some_iff.1 hi).1
  unfold insS
  rw [List.take_take, Nat.min_self, List.drop_eq_nil_of_le (by rw [List.length_take]; omega), List.take_add_one, hi]
  rfl
end Go.Proofs.YtjlbpmmckgjajaaDoor
