/- Joined: TNL TN1. -/
import Derived.Shelf.SlSortCmp.WholeK
import Derived.Test.YtjlbpmmckgjajaaDoorYD

/- The sort of nodes: its contract laid at this dump, in plain words. -/
namespace Go.Proofs.YtjlbpmmckgjajaaDoor
open Go.Shelf
def layN_ren : Go.Shelf.Ren := ⟨fun | 6 => 67 | 15 => 83 | 14 => 82 | 28 => 98 | 29 => 99 | 20 => 75 | 21 => 91 | 22 => 92 | 23 => 93 | 24 => 94 | 25 => 95 | 26 => 96 | 27 => 97 | 46 => 102 | 47 => 103 | 48 => 104 | 49 => 105 | 50 => 106 | 57 => 107 | n => n, fun | 22 => 22 | 24 => 44 | 25 => 84 | 3 => 3 | 39 => 87 | 0 => 0 | 53 => 127 | 55 => 129 | 4 => 4 | 46 => 121 | 45 => 120 | 50 => 62 | 5 => 5 | 9 => 9 | 66 => 133 | 70 => 137 | 76 => 139 | 77 => 140 | n => n, fun | n => n⟩
theorem layN : Go.Proofs.SlLaysF0.n6 Tryd.prog layN_ren := {
  mixed := by kernel_rfl
  f6 := ⟨Tryd.f67.name, by decide, Tryd.func67.trans (congrArg some (by kernel_rfl))⟩
  f14 := ⟨Tryd.f82.name, by decide, Tryd.func82.trans (congrArg some (by kernel_rfl))⟩
  f15 := Tryd.func83.trans (congrArg some (by kernel_rfl))
  f20 := ⟨Tryd.f75.name, by decide, Tryd.func75.trans (congrArg some (by kernel_rfl))⟩
  f21 := ⟨Tryd.f91.name, by decide, Tryd.func91.trans (congrArg some (by kernel_rfl))⟩
  f22 := ⟨Tryd.f92.name, by decide, Tryd.func92.trans (congrArg some (by kernel_rfl))⟩
  f23 := ⟨Tryd.f93.name, by decide, Tryd.func93.trans (congrArg some (by kernel_rfl))⟩
  f24 := ⟨Tryd.f94.name, by decide, Tryd.func94.trans (congrArg some (by kernel_rfl))⟩
  f25 := ⟨Tryd.f95.name, by decide, Tryd.func95.trans (congrArg some (by kernel_rfl))⟩
  f26 := ⟨Tryd.f96.name, by decide, Tryd.func96.trans (congrArg some (by kernel_rfl))⟩
  f27 := ⟨Tryd.f97.name, by decide, Tryd.func97.trans (congrArg some (by kernel_rfl))⟩
  f28 := Tryd.func98.trans (congrArg some (by kernel_rfl))
  f29 := Tryd.func99.trans (congrArg some (by kernel_rfl))
  f46 := ⟨Tryd.f102.name, by decide, Tryd.func102.trans (congrArg some (by kernel_rfl))⟩
  f47 := Tryd.func103.trans (congrArg some (by kernel_rfl))
  f48 := Tryd.func104.trans (congrArg some (by kernel_rfl))
  f49 := ⟨Tryd.f105.name, by decide, Tryd.func105.trans (congrArg some (by kernel_rfl))⟩
  f50 := ⟨Tryd.f106.name, by decide, Tryd.func106.trans (congrArg some (by kernel_rfl))⟩
  f57 := ⟨Tryd.f107.name, by decide, Tryd.func107.trans (congrArg some (by kernel_rfl))⟩
  t0 := Tryd.underlying0
  a0 := Tryd.isAgg0
  z0 := Tryd.sizeOf0
  v0 := Tryd.zeroValue0
  t3 := Tryd.underlying3
  a3 := Tryd.isAgg3
  z3 := Tryd.sizeOf3
  v3 := Tryd.zeroValue3
  t4 := Tryd.underlying4
  a4 := Tryd.isAgg4
  z4 := Tryd.sizeOf4
  v4 := Tryd.zeroValue4
  t5 := Tryd.underlying5
  a5 := Tryd.isAgg5
  z5 := Tryd.sizeOf5
  v5 := Tryd.zeroValue5
  t9 := Tryd.underlying9
  a9 := Tryd.isAgg9
  z9 := Tryd.sizeOf9
  v9 := Tryd.zeroValue9
  t22 := Tryd.underlying22
  a22 := Tryd.isAgg22
  z22 := Tryd.sizeOf22
  v22 := Tryd.zeroValue22
  t25 := Tryd.underlying84
  a25 := Tryd.isAgg84
  z25 := Tryd.sizeOf84
  v25 := Tryd.zeroValue84
  t39 := Tryd.underlying87
  a39 := Tryd.isAgg87
  z39 := Tryd.sizeOf87
  v39 := Tryd.zeroValue87
  t45 := Tryd.underlying120
  a45 := Tryd.isAgg120
  z45 := Tryd.sizeOf120
  v45 := Tryd.zeroValue120
  t46 := Tryd.underlying121
  a46 := Tryd.isAgg121
  z46 := Tryd.sizeOf121
  v46 := Tryd.zeroValue121
  t50 := Tryd.underlying62
  a50 := Tryd.isAgg62
  z50 := Tryd.sizeOf62
  v50 := Tryd.zeroValue62
  t53 := Tryd.underlying127
  a53 := Tryd.isAgg127
  z53 := Tryd.sizeOf127
  v53 := Tryd.zeroValue127
  t55 := Tryd.underlying129
  a55 := Tryd.isAgg129
  z55 := Tryd.sizeOf129
  v55 := Tryd.zeroValue129
  t66 := Tryd.underlying133
  a66 := Tryd.isAgg133
  z66 := Tryd.sizeOf133
  v66 := Tryd.zeroValue133
  t70 := Tryd.underlying137
  a70 := Tryd.isAgg137
  z70 := Tryd.sizeOf137
  v70 := Tryd.zeroValue137
  t76 := Tryd.underlying139
  a76 := Tryd.isAgg139
  z76 := Tryd.sizeOf139
  v76 := Tryd.zeroValue139
  t77 := Tryd.underlying140
  a77 := Tryd.isAgg140
  z77 := Tryd.sizeOf140
  v77 := Tryd.zeroValue140 }
/-- how many bits 0 has -/
theorem bitsLen_any (n : Int) (w : World) (h0 : 0 ≤ n) (h1 : n < 18446744073709551616) : Calls Tryd.prog (layN_ren.f 15) #[.int .u64 n] w fun e w' => e = .returned (.int .i64 (Lib.bitLen n.toNat : Nat)) ∧ w' = w := Any.bits_Len (SlLaysF0.n15.bits (P := Tryd.prog) (ρ := layN_ren) { layN with }) n w h0 (by omega)
end Go.Proofs.YtjlbpmmckgjajaaDoor

/- The forest: its nodes, by their IDs. -/
namespace Go.Proofs.YtjlbpmmckgjajaaDoor
open Go.RowKit Go.Lib Go.Maps Go.Sort Go.Shelf
set_option linter.unusedVariables false

theorem live_none {sp : List SpD} {k : Nat} {x : SpD} (h : sp[k]? = some x) (ht : x.th = false) : liveN (sp.take (k + 1)) = liveN (sp.take k) := by
  unfold liveN
  rw [List.take_add_one, h, List.filter_append]
  simp [ht]
theorem live_more {sp : List SpD} {k : Nat} {x : SpD} (h : sp[k]? = some x) (ht : x.th = true) : liveN (sp.take (k + 1)) = liveN (sp.take k) ++ [x.n] := by
  unfold liveN
  rw [List.take_add_one, h, List.filter_append, List.map_append]
  simp [ht]
theorem live_len (sp : List SpD) : (liveN sp).length ≤ sp.length := by
  unfold liveN
  rw [List.length_map]
  exact List.length_filter_le _ _
theorem ins_none (p : Option Addr) (cap : Nat) (fv : Value) (w : World) :
    Calls Tryd.prog 75 #[.slice p 0 cap, .int .i64 0, .int .i64 0, fv] w fun e w' => e = .returned (.tuple #[]) ∧ w' = w := by
  have mixed : Tryd.prog.follows .mixedOrders = true := by kernel_rfl
  go_enter Tryd.func75, Tryd.ntmps75
  go_wp2
  refine wp_loop_rounds 1 ?_
  rw [rounds_succ]
  go_wp2
  go_end0
  exact ⟨rfl, rfl⟩
set_option maxHeartbeats 1000000 in
theorem pdq_none (p : Option Addr) (cap : Nat) (lim : Int) (fv : Value) (w : World) :
    Calls Tryd.prog 82 #[.slice p 0 cap, .int .i64 0, .int .i64 0, .int .i64 lim, fv] w fun e w' => e = .returned (.tuple #[]) ∧ w' = w := by
  have mixed : Tryd.prog.follows .mixedOrders = true := by kernel_rfl
  have hi := fun W => ins_none p cap fv W
  go_enter Tryd.func82, Tryd.ntmps82
  go_wp2
  refine wp_loop_rounds 1 ?_
  rw [rounds_succ]
  go_wp2_with (go_at_call 75; refine (hi _).mono ?_; rintro e w' ⟨rfl, rfl⟩)
  (try simp only [Exit.inBlock, Exit.then])
  refine bodyPost_ret (results_none rfl _ _ _) rfl ?_
  exact ⟨rfl, rfl⟩
set_option maxHeartbeats 1000000 in
theorem sort_none (p : Option Addr) (cap : Nat) (fv : Value) (w : World) :
    Calls Tryd.prog 67 #[.slice p 0 cap, fv] w fun e w' => e = .returned (.tuple #[]) ∧ w' = w := by
  have mixed : Tryd.prog.follows .mixedOrders = true := by kernel_rfl
  have hp := fun lim W => pdq_none p cap lim fv W
  have hl : ∀ W, Calls Tryd.prog 83 #[.int .u64 0] W fun e w' => e = .returned (.int .i64 (Lib.bitLen 0 : Nat)) ∧ w' = W := fun W => bitsLen_any 0 W (by omega) (by omega)
  go_enter Tryd.func67, Tryd.ntmps67
  go_wp2_with (first | (go_at_call 83; refine (hl _).mono ?_; rintro e w' ⟨rfl, rfl⟩) | (go_at_call 82; refine (hp _ _).mono ?_; rintro e w' ⟨rfl, rfl⟩))
  go_end0
  exact ⟨rfl, rfl⟩
/-- what the sort leaves of a row of nodes -/
def SortPost (w : World) (v : Value) (base : Nat) (sp : List SpD) (ns : List ND) (e : Ending) (w' : World) : Prop := e = .returned (.tuple #[]) ∧ OwnF 44 5 ND.enc w' base v ns ∧ Below base w w'
theorem sortN_any {W : World} {base : Nat} {v : Value} {ps : List Pl} {sp : List SpD} {ns : List ND} (ho : OwnF 44 5 ND.enc W base v (liveN sp)) (h : FoM ps sp ns) (hl : sp.length ≤ 1000) (hb : base ≤ W.heap.size) :
    Calls Tryd.prog 67 #[v, .func (.func 68) #[] #[]] W (SortPost W v base sp ns) := by
  obtain ⟨a, n, cap, rfl, hn, hc, hrow, hg⟩ := ho.form flatN
  by_cases h0 : n = 0
  · subst h0
    refine (sort_none a cap _ W).mono ?_
    rintro e w' ⟨rfl, rfl⟩
    have e1 : liveN sp = [] := List.eq_nil_of_length_eq_zero hn.symm
    have e2 : ns = [] := by
      have h1 := live_sorted (l := liveN sp) h (List.Perm.refl _) (by rw [e1]; exact List.Pairwise.nil)
      rw [← h1, e1]
    rw [e1] at ho
    exact ⟨rfl, by rw [e2]; exact ho, Below.refl _ _⟩
  · obtain ⟨g, rfl⟩ := hg (by omega)
    have hlt := ho.lt (g := g) rfl
    have hsz := live_len sp
    have eg : ∀ args w, (callFunc 68 args).run Tryd.prog w = .ok (.enter 68 args) w := enters_of Tryd.func68 (by kernel_rfl) rfl
    have hd : (liveN sp).toArray.toList = liveN sp := by simp
    have hds : (liveN sp).toArray.size = n := by simp [hn]
    have hH := OwnF.holds (d := (liveN sp).toArray) flatN (by rw [hd]; exact ho) (by rw [hd]; exact hn)
    have hcon := AnyQ.slices_SortFunc layN 5 aggND sizeND ND.enc flatN.len flatN.one cmpN swoN 68 #[] g 0 cap (liveN sp).toArray W eg (cmpN_lays _ _ _ _) hH hlt.2 (by rw [hds, hn]; omega)
    rw [hds] at hcon
    change Calls Tryd.prog 67 _ _ _ at hcon
    refine hcon.mono ?_
    rintro e w' ⟨rfl, d', m, os, hp, hs, rfl⟩
    rw [← hds] at hp hs
    have h1 := sort_list h hd hp hs
    have hz : d'.size = (liveN sp).length := by
      have h2 := (perm_all hp).length_eq
      simpa using h2
    refine ⟨rfl, ?_, sortW_bel (Below.refl _ _) hlt.2 hlt.1⟩
    rw [← h1]
    exact ho.sorted flatN hn m d' os hz
def NodesPost (W : World) (ns : List ND) (e : Ending) (w' : World) : Prop := ∃ v, e = .returned v ∧ OwnF 44 5 ND.enc w' W.heap.size v ns ∧ Below W.heap.size W w'
set_option maxHeartbeats 1000000 in
set_option maxRecDepth 100000 in
theorem nodes_any (W : World) (base fp bm : Nat) (sv : Value) (ps : List Pl) (sp : List SpD) (ns : List ND) (h : FoR W base fp bm sv ps sp) (hM : FoM ps sp ns) :
    Calls Tryd.prog 48 #[.pointer (some ⟨fp, 0, none⟩)] W (NodesPost W ns) := by
  have mixed : Tryd.prog.follows .mixedOrders = true := by kernel_rfl
  obtain ⟨sa, sn, sc, rfl, hsn, hsc, hrow, hsg⟩ := h.own.form flatSp
  have HH := Lib.hid h
  have HM := Lib.hid hM
  have HRW := Lib.hid hrow
  have HSN := Lib.hid hsn
  have HSG := Lib.hid hsg
  have HSM : Hid (sn ≤ 1000) := by show _ ≤ _; rw [hsn, h.ln]; exact h.sm
  have hsm : sn ≤ 1000 := HSM.out
  have d1 : W.cell? ⟨fp, 1, none⟩ = some (.slice sa sn sc) := h.blk.cell 1 _ rfl
  clear h hM hrow hsn hsc hsg
  go_enter Tryd.func48, Tryd.ntmps48
  go_wp2
  go_loopg [3, 11] sn (fun gg s3 s11 wr => ∃ k : Nat, s11 = .int .i64 k ∧ k ≤ sn ∧ sn - k ≤ gg ∧ Hid (OwnF 44 5 ND.enc wr W.heap.size s3 (liveN (sp.take k))) ∧ Hid (Below W.heap.size W wr))
  case atStart => exact ⟨0, rfl, Nat.zero_le _, by omega, OwnF.nil _ _, Below.refl _ _⟩
  case round =>
    obtain ⟨k, rfl, hk, hgk, HO, HB⟩ := hrel
    clear d1
    by_cases hin : k < sn
    · have hinz : (k : Int) < (sn : Int) := by omega
      obtain ⟨x, hx⟩ : ∃ x, sp[k]? = some x := ⟨_, List.getElem?_eq_getElem (by rw [← HSN.out]; exact hin)⟩
      obtain ⟨b, rfl⟩ := HSG.out (by omega)
      obtain ⟨b', off, hab, hat⟩ := HRW.out k x hx
      injection hab with hab
      injection hab with hb1 hb2
      subst hb1 hb2
      rw [Nat.zero_add] at hat
      have HAT : Hid (FAt SpD.enc wr b (k * 7) x) := hat.below HB.out (hat.lt flatSp)
      have HXX := Lib.hid hx
      clear hx hat
      have e0 : wr.cell? ⟨b, k * 7, none⟩ = some (.bool x.th) := HAT.out 0 _ rfl
      have e1 : wr.cell? ⟨b, k * 7 + 1, none⟩ = some (.int .i64 x.n.id.1) := HAT.out 1 _ rfl
      have e2 : wr.cell? ⟨b, k * 7 + 2, none⟩ = some (.int .i64 x.n.id.2) := HAT.out 2 _ rfl
      have e3 : wr.cell? ⟨b, k * 7 + 3, none⟩ = some (.int .i64 x.n.par.1) := HAT.out 3 _ rfl
      have e4 : wr.cell? ⟨b, k * 7 + 4, none⟩ = some (.int .i64 x.n.par.2) := HAT.out 4 _ rfl
      have e5 : wr.cell? ⟨b, k * 7 + 5, none⟩ = some (.string x.n.key) := HAT.out 5 _ rfl
      have e6 : wr.cell? ⟨b, k * 7 + 6, none⟩ = some (.int .i64 (x.ab : Int)) := HAT.out 6 _ rfl
      go_upto_region 5 with fail
      clear e0 e1 e2 e3 e4 e5 e6
      obtain ⟨w5, hw5⟩ : ∃ w5, wr.alloc (objS x) = w5 := ⟨_, rfl⟩
      have HB5 : Hid (Below W.heap.size W w5) := by show Below _ _ _; rw [← hw5]; exact HB.out.trans ((box_bel wr _).mono HB.out.size)
      have HS5 : Hid (Blk w5 wr.heap.size x.enc) := by show Blk _ _ _; rw [← hw5]; exact objS_new wr x
      have HO5 : Hid (OwnF 44 5 ND.enc w5 W.heap.size u3 (liveN (sp.take k))) := by show OwnF _ _ _ _ _ _ _; rw [← hw5]; exact HO.out.below (box_bel wr _)
      rw [hw5]
      clear hw5
      obtain ⟨gs, hgs⟩ : ∃ gs, wr.heap.size = gs := ⟨_, rfl⟩
      rw [hgs] at HS5 ⊢
      have k0 : w5.cell? ⟨gs, 0, none⟩ = some (.bool x.th) := HS5.out.cell 0 _ rfl
      have k1 : w5.cell? ⟨gs, 1, none⟩ = some (.int .i64 x.n.id.1) := HS5.out.cell 1 _ rfl
      have k2 : w5.cell? ⟨gs, 2, none⟩ = some (.int .i64 x.n.id.2) := HS5.out.cell 2 _ rfl
      have k3 : w5.cell? ⟨gs, 3, none⟩ = some (.int .i64 x.n.par.1) := HS5.out.cell 3 _ rfl
      have k4 : w5.cell? ⟨gs, 4, none⟩ = some (.int .i64 x.n.par.2) := HS5.out.cell 4 _ rfl
      have k5 : w5.cell? ⟨gs, 5, none⟩ = some (.string x.n.key) := HS5.out.cell 5 _ rfl
      cases hth : x.th
      · rw [hth] at k0
        have HQ : Hid (OwnF 44 5 ND.enc w5 W.heap.size u3 (liveN (sp.take (k + 1)))) := by show OwnF _ _ _ _ _ _ _; rw [live_none HXX.out hth]; exact HO5.out
        go_wp2_with fail
        go_roundg (sn - (k + 1))
        case measure => omega
        case rel => exact ⟨k + 1, by go_num, by omega, by omega, HQ, HB5⟩
      · rw [hth] at k0
        have HRO := Lib.hid (one_rowF (k := 5) (e := 44) (enc := ND.enc) w5 x.n #[.int .i64 x.n.id.1, .int .i64 x.n.id.2, .int .i64 x.n.par.1, .int .i64 x.n.par.2, .string x.n.key] rfl)
        have HLE : Hid (((liveN (sp.take k)).length + [x.n].length) * 48 ≤ 140737488355328) := by
          have h1 := live_len (sp.take k)
          rw [List.length_take] at h1
          have h2 := HSM.out
          show _ ≤ _
          rw [List.length_singleton]
          omega
        have HTH := Lib.hid hth
        go_wp2_with (at_builtin
                     refine wpF_row flatN rfl _ _ rfl W.heap.size w5 _ (World.grownBy_alloc w5 _ none) u3 (liveN (sp.take k)) [x.n] (some ⟨w5.heap.size, 0, none⟩) 1 1 rfl HO5.out rfl rfl HRO.out HLE.out HB5.out.size ?_
                     intro v6 w6 hp6
                     have HP6 := Lib.hid hp6
                     clear hp6)
        have HQ : Hid (OwnF 44 5 ND.enc w6 W.heap.size v6 (liveN (sp.take (k + 1)))) := by show OwnF _ _ _ _ _ _ _; rw [live_more HXX.out HTH.out]; exact HP6.out.own
        have HB6 : Hid (Below W.heap.size W w6) := HP6.out.bel HB5.out (Nat.le_refl _) HB5.out.size
        go_roundg (sn - (k + 1))
        case measure => omega
        case rel => exact ⟨k + 1, by go_num, by omega, by omega, HQ, HB6⟩
    · obtain rfl : k = sn := by omega
      have hinz : ¬ (k : Int) < (k : Int) := by omega
      have HF : Hid (OwnF 44 5 ND.enc wr W.heap.size u3 (liveN sp)) := by
        have h := HO.out
        rw [List.take_of_length_le (by have := HSN.out; omega)] at h
        exact h
      have C := Lib.hid (sortN_any HF.out HM.out (by have h1 := HSN.out; have h2 := HSM.out; omega) HB.out.size)
      go_wp2_with (go_at_call 67; refine (C.out).mono ?_; rintro e w7 ⟨rfl, ho7, hb7⟩; have HO7 := Lib.hid ho7; have HB7 := Lib.hid hb7; clear ho7 hb7)
      go_ret
      exact ⟨_, rfl, HO7.out, HB.out.trans HB7.out⟩
end Go.Proofs.YtjlbpmmckgjajaaDoor
