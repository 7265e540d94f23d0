/- Joined: TE5. -/
import Derived.Test.YtjlbpmmckgjajaaDoorYH
import Derived.Test.YtjlbpmmckgjajaaDoorYJ

/- Trees: a tree's moves done one by one: the walk. -/
namespace Go.Proofs.YtjlbpmmckgjajaaDoor
open Go.RowKit Go.Lib Go.Maps
set_option linter.unusedVariables false

theorem less_is (x : OpD) (a : DV) (y : OpD) (b : DV) (w : World) (r : Bool) (h : ltP (stO x) (stO y) = r) : Calls Tryd.prog 44 #[valOy x a, valOy y b] w (BoolPost w r) := by
  rw [← h, ← st_lt]
  exact less_any x.1.t x.1.r x.2 a.a a.n a.c x.1.k x.1.nt x.1.nr x.1.pt x.1.pr x.1.s x.1.p x.1.v y.1.t y.1.r y.2 b.a b.n b.c y.1.k y.1.nt y.1.nr y.1.pt y.1.pr y.1.s y.1.p y.1.v w
/-- is a move refused by itself, or by the one ahead? -/
def badM (es : List ED) (k : Nat) (e : ED) : Bool := !moveB e.op || (match k with | 0 => false | k' + 1 => match es[k']? with | some p => !ltP (stO p.op) (stO e.op) | none => false)
theorem badM_not {ns : List ND} {es : List ED} {k : Nat} {e : ED} (he : es[k]? = some e) (h : badM es k e = true) : ¬ TreeP ns es := by
  unfold badM at h
  rw [Bool.or_eq_true] at h
  rcases h with h | h
  · exact TreeP.not_move he (by simpa using h)
  · cases k with
    | zero => cases h
    | succ k' =>
      obtain ⟨p, hp⟩ : ∃ p, es[k']? = some p := ⟨_, List.getElem?_eq_getElem (by have := (List.getElem?_eq_some_iff.1 he).1; omega)⟩
      simp only [hp] at h
      exact TreeP.not_asc he hp (by simpa using h)
theorem badM_no {es : List ED} {k : Nat} {e : ED} (h : badM es k e = false) : moveB e.op = true ∧ ∀ k' p, k = k' + 1 → es[k']? = some p → ltP (stO p.op) (stO e.op) = true := by
  unfold badM at h
  rw [Bool.or_eq_false_iff] at h
  refine ⟨by simpa using h.1, fun k' p hk hp => ?_⟩
  subst hk
  have h2 := h.2
  simp only [hp] at h2
  simpa using h2
set_option maxHeartbeats 8000000 in
set_option maxRecDepth 100000 in
theorem grown_any (na : Option Addr) (ns : List ND) (nn nc : Nat) (ma : Option Addr) (ys : List EV) (mn mc : Nat) (W : World) (ht : Pr.Tab W) (h : TrR W na ns nn ma ys mn) (hl : ys.length ≤ 400) :
    Calls Tryd.prog 23 #[valT na nn nc ma mn mc] W (GrownPost W ns (entsY ys)) := by
  have mixed : Tryd.prog.follows .mixedOrders = true := by kernel_rfl
  have hmm := @run_makeMap Tryd.prog
  obtain ⟨g, hg⟩ : ∃ g, W.heap.size = g := ⟨_, rfl⟩
  obtain ⟨W3, hW3⟩ : ∃ W3, ((W.alloc (objT na nn nc ma mn mc)).alloc (.map #[] 0)).alloc (objF (g + 1)) = W3 := ⟨_, rfl⟩
  obtain ⟨es, hes⟩ : ∃ es, entsY ys = es := ⟨_, rfl⟩
  have HES := Lib.hid hes
  have HLM := Lib.hid h.ml
  have hmn : mn ≤ 400 := by rw [h.ml]; exact hl
  have HLS : Hid (es.length = mn) := by show _ = _; rw [← hes, entsY_len, h.ml]
  have HI0 : Hid (GrI g W es (.slice na nn nc) (.slice ma mn mc) W3 0 (.slice none 0 0) [] []) := by
    have h1 := FoR.start (W.alloc (objT na nn nc ma mn mc)) (g + 1) (by rw [World.size_alloc, hg]) (g + 1) (Nat.le_refl _)
    rw [hW3] at h1
    have hT3 : Blk W3 g [.slice na nn nc, .slice ma mn mc] := by
      rw [← hW3, ← hg]
      exact ((objT_new W na nn nc ma mn mc).next (box_bel _ (.map #[] 0))).next (box_bel _ (objF _))
    refine ⟨h1, FoM.start, UpTo.zero _, Nat.zero_le _, ?_, ?_, ?_⟩
    · rw [← hW3, ← hg]
      exact (box_bel W _).trans (((box_bel _ (.map #[] 0)).mono (by simp)).trans ((box_bel _ (objF _)).mono (by simp; omega)))
    · exact hT3.cell 0 _ rfl
    · exact hT3.cell 1 _ rfl
  have HTR := Lib.hid h
  have HT := Lib.hid ht
  have HLY := Lib.hid hl
  have HG := Lib.hid hg
  have hb3 : (Instr.build 77 #[(0, .map (some (g + 1)))]).run Tryd.prog = (fun w => .ok (.agg #[.map (some (g + 1)), .slice none 0 0]) w) := by funext w; exact run_build w 77 _ _ (by kernel_rfl)
  have HBB := Lib.hid (fun W' (hb : Below g W W') => (show Below W.heap.size W W' by rw [hg]; exact hb))
  clear h ht hl hes
  rw [HES.out]
  go_enter Tryd.func23, Tryd.ntmps23
  have t1 := HI0.out.c1
  go_wp2
  clear hmm hb3 hW3 hg t1
  go_loopg [13] mn (fun gg s13 wr => ∃ (k : Nat) (sv : Value) (ps : List Pl) (sp : List SpD), s13 = .int .i64 k ∧ k ≤ mn ∧ mn - k ≤ gg ∧ Hid (GrI g W es (.slice na nn nc) (.slice ma mn mc) wr k sv ps sp))
  case atStart => exact ⟨0, _, _, _, rfl, Nat.zero_le _, by omega, HI0⟩
  case round =>
    obtain ⟨k, sv, ps, sp, rfl, hk, hgk, HI⟩ := hrel
    clear HI0
    by_cases hin : k < mn
    · have hinz : (k : Int) < (mn : Int) := by omega
      obtain ⟨y, hy⟩ : ∃ y, ys[k]? = some y := ⟨_, List.getElem?_eq_getElem (by rw [← HLM.out]; exact hin)⟩
      obtain ⟨⟨da, dn, dc⟩, hyd⟩ : ∃ d, y.2 = d := ⟨_, rfl⟩
      obtain ⟨e, hye⟩ : ∃ e, y.1 = e := ⟨_, rfl⟩
      have HE : Hid (es[k]? = some e) := by show _ = _; rw [← HES.out, ← hye]; exact entsY_at hy
      have hsz : W.heap.size ≤ wr.heap.size := HI.out.bl.size
      have hBW := HBB.out _ HI.out.bl
      have hTR := HTR.out.next hBW
      obtain ⟨b, off, rfl, hlt⟩ := hTR.mr.addr hy
      have HC : Hid (CellsAt wr b (off + k * 17) (cellsE e da dn dc)) := by
        have h1 := hTR.mr.cells hy
        unfold EV.enc at h1
        rw [hye, hyd] at h1
        exact h1
      have HD : Hid (DepK W e.op ⟨da, dn, dc⟩) := by
        have h1 := HTR.out.mr.dep y (List.mem_of_getElem? hy)
        rw [hye, hyd] at h1
        exact h1
      have HYK := Lib.hid hy
      clear hy hyd hye hlt hTR hsz hBW
      have hld := loadVar_is aggE sizeE rfl HC.out
      have hst := ent_copy (zEnt_new wr) rfl e da dn dc
      have HZ5 : Hid (Blk (setsF (wr.alloc zEnt) wr.heap.size 0 (cellsE e da dn dc) 0) wr.heap.size (cellsE e da dn dc)) := by
        have h := (zEnt_new wr).sets (cellsE e da dn dc) 0
        rw [setsL_ent] at h
        exact h
      have HG5 := Lib.hid (setsF_grown wr.heap.size 0 (cellsE e da dn dc) 0 (wr.alloc zEnt))
      obtain ⟨w5, hw5⟩ : ∃ w5, setsF (wr.alloc zEnt) wr.heap.size 0 (cellsE e da dn dc) 0 = w5 := ⟨_, rfl⟩
      rw [hw5] at hst HZ5 HG5
      clear hw5
      have HB5 : Hid (Below wr.heap.size wr w5) := (box_bel wr zEnt).trans ⟨HG5.out.os, HG5.out.tape, HG5.out.output, Nat.le_trans (by simp) HG5.out.size, fun j hj => HG5.out.block j (by simp; omega) (fun e => by injection e with e; omega)⟩
      have HX5 : Hid (Blk w5 wr.heap.size (cellsE e da dn dc)) := HZ5.out
      go_upto_region 5 with (first | (refine wpList_loadS rfl _ 54 rfl b (off + k * 17) rfl _ hld ?_) | (refine wpList_storeS rfl _ _ 54 rfl wr.heap.size 0 rfl _ rfl hst ?_))
      simp only [Act.put]
      clear hld hst HG5 HZ5
      have HI5 := Lib.hid (HI.out.next HG.out HB5.out)
      obtain ⟨q, hq⟩ : ∃ q, wr.heap.size = q := ⟨_, rfl⟩
      have HVQ : Hid (sv.ownBlock ≠ some q) := fun e => by have := (HI.out.fr.own.lt e).2; omega
      have HQ2 : Hid (q ≠ g + 2 ∧ q ≠ g + 1) := by have h1 := HI.out.fr.lt; exact ⟨by omega, by omega⟩
      rw [hq] at HX5 ⊢
      have HBW5 : Hid (Below W.heap.size W w5) := HBB.out _ HI5.out.bl
      obtain ⟨bad, hbad⟩ : ∃ bad, badM es k e = bad := ⟨_, rfl⟩
      have HBAD := Lib.hid hbad
      clear hbad
      go_cut [38] from 18 to 38 (fun v38 wc => v38 = .bool bad ∧ Hid (Below w5.heap.size w5 wc))
      case first =>
        have CI := Lib.hid (fun W' (hb : Below w5.heap.size w5 W') => isMove_any e.op ⟨da, dn, dc⟩ W' (HT.out.below (HBW5.out.trans (hb.mono HBW5.out.size)) HT.out.lt) (HD.out.below (HBW5.out.trans (hb.mono HBW5.out.size))))
        cases hmv : moveB e.op
        · rw [hmv] at CI
          have hbv : bad = true := by rw [← HBAD.out]; unfold badM; rw [hmv]; rfl
          have x1 : St.RegrownTo w5 24 #[valO e.op da dn dc] (.bool false) := regrown_at fun W' hb => CI.out W' hb
          have hq1 := loadQ_op HX5.out.cells.op
          clear hmv
          as_aux_lemma =>
          go_wp2_with fail
          refine wp_region_quiet_below (by assumption) (by kernel_rfl) ?_
          repeat (first
                       | (go_big_quiet_want; refine quiet_loadS _ 39 rfl q 0 rfl _ hq1 ?_; simp only [Act.put, List.setIfInBounds_toArray, List.set_cons_succ, List.set_cons_zero]; go_big_quiet_on)
                       | (go_big_quiet_step ((first | (go_at_call 24; with_reducible exact x1 _ _)))))
          refine wpQuiet_nil ?_
          intro _ hw'
          obtain ⟨⟨dq, osq⟩, hw''⟩ := hw'
          subst hw''
          have HB6 := Lib.hid ((below_regrown w5 dq osq))
          generalize Go.Sort.grow (redrawn w5 dq) osq = w6 at *
          go_wp2_with fail
          go_meet
          exact ⟨by rw [hbv], HB6⟩
        · rw [hmv] at CI
          have x1 : St.RegrownTo w5 24 #[valO e.op da dn dc] (.bool true) := regrown_at fun W' hb => CI.out W' hb
          have hq1 := loadQ_op HX5.out.cells.op
          rcases Nat.eq_zero_or_pos k with hk0 | hkp
          · subst hk0
            have hbv : bad = false := by rw [← HBAD.out]; unfold badM; rw [hmv]; rfl
            clear hmv
            as_aux_lemma =>
            go_wp2_with fail
            refine wp_region_quiet_below (by assumption) (by kernel_rfl) ?_
            repeat (first
                         | (go_big_quiet_want; refine quiet_loadS _ 39 rfl q 0 rfl _ hq1 ?_; simp only [Act.put, List.setIfInBounds_toArray, List.set_cons_succ, List.set_cons_zero]; go_big_quiet_on)
                         | (go_big_quiet_step ((first | (go_at_call 24; with_reducible exact x1 _ _)))))
            refine wpQuiet_nil ?_
            intro _ hw'
            obtain ⟨⟨dq, osq⟩, hw''⟩ := hw'
            subst hw''
            have HB6 := Lib.hid ((below_regrown w5 dq osq))
            generalize Go.Sort.grow (redrawn w5 dq) osq = w6 at *
            go_wp2_with fail
            go_meet
            exact ⟨by rw [hbv], HB6⟩
          · obtain ⟨k', rfl⟩ : ∃ k', k = k' + 1 := ⟨k - 1, by omega⟩
            obtain ⟨z, hz⟩ : ∃ z, ys[k']? = some z := ⟨_, List.getElem?_eq_getElem (by have := HLM.out; omega)⟩
            obtain ⟨⟨za, zn, zc⟩, hzd⟩ : ∃ d, z.2 = d := ⟨_, rfl⟩
            obtain ⟨p, hze⟩ : ∃ e, z.1 = e := ⟨_, rfl⟩
            have hpk : es[k']? = some p := by rw [← HES.out, ← hze]; exact entsY_at hz
            have HCP : Hid (CellsAt w5 b (off + k' * 17) (cellsE p za zn zc)) := by
              have h1 := (HTR.out.next HBW5.out).mr.cells hz
              unfold EV.enc at h1
              rw [hze, hzd] at h1
              exact h1
            obtain ⟨lb, hlb⟩ : ∃ lb, ltP (stO p.op) (stO e.op) = lb := ⟨_, rfl⟩
            have hbv : bad = !lb := by rw [← HBAD.out]; unfold badM; rw [hmv]; simp only [hpk, hlb]; rfl
            have x2 : St.RegrownTo w5 44 #[valO p.op za zn zc, valO e.op da dn dc] (.bool lb) := regrown_at fun W' hb => less_is p.op ⟨za, zn, zc⟩ e.op ⟨da, dn, dc⟩ W' lb hlb
            have h1c := cell_regrown HI5.out.c1
            have hq2 := loadQ_op HCP.out.op
            have hkz : (((k' + 1 : Nat) : Int) - 1) = (k' : Int) := by omega
            have hkw : wrap64 ((k' + 1 : Nat) : Int) = ((k' + 1 : Nat) : Int) := IntWalk.wrap64_in _ (by have := HLY.out; have := HLM.out; omega)
            have hkw2 : wrap64 (k' : Int) = (k' : Int) := IntWalk.wrap64_in _ (by have := HLY.out; have := HLM.out; omega)
            have hkpz : (0 : Int) < ((k' + 1 : Nat) : Int) := by omega
            have hkd : decide ((0 : Int) < ((k' + 1 : Nat) : Int)) = true := decide_eq_true hkpz
            have hkm : (k' : Int) < (mn : Int) := by omega
            clear hmv hz hzd hze hpk hlb
            cases lb
            · as_aux_lemma =>
              go_wp2_with fail
              refine wp_region_quiet_below (by assumption) (by kernel_rfl) ?_
              repeat (first
                           | (go_big_quiet_want; refine quiet_loadS _ 39 rfl q 0 rfl _ hq1 ?_; simp only [Act.put, List.setIfInBounds_toArray, List.set_cons_succ, List.set_cons_zero]; go_big_quiet_on)
                           | (go_big_quiet_want; refine quiet_loadS _ 39 rfl b (off + k' * 17) rfl _ hq2 ?_; simp only [Act.put, List.setIfInBounds_toArray, List.set_cons_succ, List.set_cons_zero]; go_big_quiet_on)
                           | (go_big_quiet_step ((first | (go_at_call 24; with_reducible exact x1 _ _) | (go_at_call 44; with_reducible exact x2 _ _)))))
              refine wpQuiet_nil ?_
              intro _ hw'
              obtain ⟨⟨dq, osq⟩, hw''⟩ := hw'
              subst hw''
              have HB6 := Lib.hid ((below_regrown w5 dq osq))
              generalize Go.Sort.grow (redrawn w5 dq) osq = w6 at *
              clear hkw hkw2 hkz
              go_wp2_with fail
              go_meet
              exact ⟨by rw [hbv]; rfl, HB6⟩
            · as_aux_lemma =>
              go_wp2_with fail
              refine wp_region_quiet_below (by assumption) (by kernel_rfl) ?_
              repeat (first
                           | (go_big_quiet_want; refine quiet_loadS _ 39 rfl q 0 rfl _ hq1 ?_; simp only [Act.put, List.setIfInBounds_toArray, List.set_cons_succ, List.set_cons_zero]; go_big_quiet_on)
                           | (go_big_quiet_want; refine quiet_loadS _ 39 rfl b (off + k' * 17) rfl _ hq2 ?_; simp only [Act.put, List.setIfInBounds_toArray, List.set_cons_succ, List.set_cons_zero]; go_big_quiet_on)
                           | (go_big_quiet_step ((first | (go_at_call 24; with_reducible exact x1 _ _) | (go_at_call 44; with_reducible exact x2 _ _)))))
              refine wpQuiet_nil ?_
              intro _ hw'
              obtain ⟨⟨dq, osq⟩, hw''⟩ := hw'
              subst hw''
              have HB6 := Lib.hid ((below_regrown w5 dq osq))
              generalize Go.Sort.grow (redrawn w5 dq) osq = w6 at *
              clear hkw hkw2 hkz
              go_wp2_with fail
              go_meet
              exact ⟨by rw [hbv]; rfl, HB6⟩
      case rest =>
        obtain ⟨rfl, HB6⟩ := hcut
        rename World => w6
        have HI6 := Lib.hid (HI5.out.next HG.out HB6.out)
        have HX6 : Hid (Blk w6 q (cellsE e da dn dc)) := HX5.out.next HB6.out
        clear HI HI5 HX5 HB6 HB5 HBW5
        cases bad
        · obtain ⟨hmv, hpk⟩ := badM_no HBAD.out
          have HMV := Lib.hid hmv
          have HPK := Lib.hid hpk
          obtain ⟨hw1, hw2⟩ := moveB_wf hmv
          have HBW6 : Hid (Below W.heap.size W w6) := HBB.out _ HI6.out.bl
          obtain ⟨nk, hnk⟩ : ∃ nk, nodesG (opsE (es.take k)) = nk := ⟨_, rfl⟩
          have HNK := Lib.hid hnk
          obtain ⟨xe, hxe⟩ : ∃ xe, entG nk e.op = xe := ⟨_, rfl⟩
          have HXE := Lib.hid hxe
          obtain ⟨sb, hsb⟩ : ∃ sb, sameE xe e = sb := ⟨_, rfl⟩
          have HFMK : Hid (FoM ps sp nk) := by have h1 := HI6.out.fm; rw [hnk] at h1; exact h1
          have HACK : Hid (Acyc nk) := by have h1 := acyc_nodes (opsE (es.take k)); rw [hnk] at h1; exact h1
          have HSB := Lib.hid hsb
          have HQ6 : Hid (q < w6.heap.size) := HX6.out.lt
          have HQN : Hid (sv.ownBlock ≠ some q ∧ q ≠ g + 2 ∧ q ≠ g + 1) := ⟨HVQ.out, HQ2.out⟩
          have C1 := Lib.hid (do_any w6.drew (g + 1) (g + 2) (g + 1) sv ps sp nk e.op da dn dc (HI6.out.fr.next (Below.refl _ _).drew) HFMK.out HACK.out hw1 hw2 (by have h1 := HI6.out.ln; have h2 := HLY.out; have h3 := HLM.out; omega) (by have h1 := HI6.out.bl.size; have h2 := World.block_lt_of_cell? _ _ HI6.out.c0; exact h2))
          have CS := Lib.hid (fun W' => sameE_any xe da dn dc e da dn dc W')
          rw [hsb] at CS
          clear hmv hpk hw1 hw2 hsb hnk hxe
          go_upto_region 7 with fail
          go_cut [45] from 39 to 45 (fun v45 wc => ∃ (sv' : Value) (ps' : List Pl) (sp' : List SpD), v45 = .bool (!sb) ∧ Hid (FoR wc (g + 1) (g + 2) (g + 1) sv' ps' sp' ∧ FoM ps' sp' (doneG nk e.op) ∧ KeptF w6 wc (g + 2) (g + 1) sv sv' ∧ ps'.length ≤ ps.length + 2))
          case first =>
            refine g7_law (g + 1) (g + 2) (g + 1) q w6 sv ps nk e xe da dn dc sb HX6.out ⟨HQN.out.2.1, HQN.out.2.2, HQN.out.1⟩ C1 HXE.out CS _ _ _ _ _ _ _ _ _ _ _ _ _ _ _ _ _ _ _ _ _ _ _ _ _ _ _ _ _ _ _ _ _ _ _ _ _ _ _ _ _ _ _ _ _ _ _ _ _ _ _ _ _ ?_
            intro u39 u40 u41 u42 u43 u44 sv' ps' sp' w8 h8
            have H8 := Lib.hid h8
            clear h8
            go_wp2_with fail
            go_meet
            exact ⟨sv', ps', sp', rfl, H8.out.fr, H8.out.fm, H8.out.kp, H8.out.ln⟩
          case rest =>
            obtain ⟨sv', ps', sp', rfl, HFIN⟩ := hcut
            rename World => w8
            cases sb
            · have HNT : Hid (¬ TreeP ns es) := TreeP.not_same HE.out (by rw [HNK.out, HXE.out]; exact HSB.out)
              have HBW8 : Hid (Below W.heap.size W w8) := by
                refine HBW6.out.trans ?_
                have h1 := HI6.out.bl.size
                have h2 := HG.out
                refine HFIN.out.2.2.1.below (Nat.le_trans (Nat.le_of_eq h2) (by omega)) (by omega) (by omega) fun b hb => ?_
                have := (HI6.out.fr.own.lt hb).1
                omega
              as_aux_lemma =>
              go_wp2
              go_ret2
              exact ⟨HBW8.out, .inr ⟨HNT.out, rfl⟩⟩
            · have HI9 := Lib.hid (HI6.out.step HG.out HE.out HMV.out HPK.out (by rw [HNK.out, HXE.out]; exact HSB.out) HFIN.out.1 (by rw [HNK.out]; exact HFIN.out.2.1) HFIN.out.2.2.1 HFIN.out.2.2.2)
              as_aux_lemma =>
              go_wp2_with fail
              go_roundg (mn - (k + 1))
              case measure => omega
              case rel => exact ⟨k + 1, _, _, _, by go_num, by omega, by omega, HI9⟩
        · have HNT : Hid (¬ TreeP ns es) := badM_not HE.out HBAD.out
          have HBW6 : Hid (Below W.heap.size W w6) := HBB.out _ HI6.out.bl
          as_aux_lemma =>
          go_wp2
          go_ret2
          exact ⟨HBW6.out, .inr ⟨HNT.out, rfl⟩⟩
    · obtain rfl : k = mn := by omega
      have hinz : ¬ (k : Int) < (k : Int) := by omega
      have hT : es.take k = es := List.take_of_length_le (by have := HLS.out; omega)
      have HUP : Hid (UpTo es es.length) := by
        have h1 := HI.out.up
        rw [← HLS.out] at h1
        exact h1
      have HFM : Hid (FoM ps sp (nodesG (opsE es))) := by
        have h1 := HI.out.fm
        rw [hT] at h1
        exact h1
      obtain ⟨bb, hbb⟩ : ∃ bb : Bool, bb = true ↔ nodesG (opsE es) = ns := by
        by_cases e : nodesG (opsE es) = ns
        · exact ⟨true, fun _ => e, fun _ => rfl⟩
        · exact ⟨false, fun h => by (cases h), fun h => absurd h e⟩
      have HBB2 := Lib.hid hbb
      have HBWr : Hid (Below W.heap.size W wr) := HBB.out _ HI.out.bl
      have HNL : Hid ((nodesG (opsE es)).length ≤ 4398046511104) := by
        have h1 := nodes_len (opsE es)
        have h2 : (opsE es).length = es.length := by simp
        have h3 := HLS.out
        have h4 := HLM.out
        have h5 := HLY.out
        show _ ≤ _
        omega
      have C1 := Lib.hid (nodes_any wr.drew (g + 1) (g + 2) (g + 1) sv ps sp (nodesG (opsE es)) (HI.out.fr.next (Below.refl _ _).drew) HFM.out)
      clear hbb hT
      go_upto_region 10 with fail
      go_cut [52] from 47 to 52 (fun v52 wc => v52 = .bool (!bb) ∧ Hid (Below wr.heap.size wr wc))
      case first =>
        have c0 : wr.drew.cell? ⟨g, 0, none⟩ = some (.slice na nn nc) := HI.out.c0
        go_wp2_with fail
        go_region_with (first
          | (go_at_call 48
             (with_reducible refine (C1.out).mono ?_)
             rintro e0 w7 ⟨v7, rfl, ho7, hb7⟩
             have HB7 : Hid (Below wr.heap.size wr w7) := (Below.refl _ _).drew.trans hb7
             obtain ⟨a7, n7, c7, rfl, hn7, hc7, hr7, -⟩ := ho7.form flatN
             have hr7n : RowF 5 ND.enc w7 na ns := (HTR.out.next (HBWr.out.trans (HB7.out.mono HBWr.out.size))).nr
             have CE := Lib.hid (eqNodes_any a7 na (nodesG (opsE es)) ns n7 nn c7 nc w7 hr7 hr7n hn7 HTR.out.nl HNL.out bb HBB2.out)
             have c0' : w7.cell? ⟨g, 0, none⟩ = some (.slice na nn nc) := (HB7.out.cell (p := ⟨g, 0, none⟩) (World.block_lt_of_cell? _ _ HI.out.c0)).trans HI.out.c0
             clear ho7 hb7 hn7 hc7 hr7 hr7n)
          | (go_at_call 47
             (with_reducible refine (CE.out).mono ?_)
             rintro e0 w8 ⟨rfl, hb8⟩
             have HB8 : Hid (Below wr.heap.size wr w8) := HB7.out.trans (hb8.mono HB7.out.size)
             clear hb8))
        all_goals
          go_wp2_with fail
          go_meet
          exact ⟨rfl, HB8⟩
      case rest =>
        obtain ⟨rfl, HB8⟩ := hcut
        rename World => w8
        have HBW8 : Hid (Below W.heap.size W w8) := HBWr.out.trans (HB8.out.mono HBWr.out.size)
        cases bb
        · have HNT : Hid (¬ TreeP ns es) := TreeP.not_nodes fun e => by have := HBB2.out.2 e; cases this
          as_aux_lemma =>
          go_wp2
          go_ret2
          exact ⟨HBW8.out, .inr ⟨HNT.out, rfl⟩⟩
        · have HNS : Hid (nodesG (opsE es) = ns) := HBB2.out.1 rfl
          have HTP : Hid (TreeP ns es) := HUP.out.all HNS.out
          have HFR := Lib.hid ((HI.out.fr.next HB8.out).mono (show W.heap.size ≤ g + 1 by have := HG.out; omega))
          have HFM2 : Hid (FoM ps sp ns) := by have h1 := HFM.out; rw [HNS.out] at h1; exact h1
          have HLN : Hid (ps.length ≤ 2 * es.length) := by have h1 := HI.out.ln; have h2 := HLS.out; show _ ≤ _; omega
          as_aux_lemma =>
          go_wp2
          go_ret2
          exact ⟨HBW8.out, .inl ⟨HTP.out, _, _, _, _, _, rfl, HFR.out, HFM2.out, HLN.out⟩⟩
end Go.Proofs.YtjlbpmmckgjajaaDoor
