/- Joined: D23. -/
import Derived.Test.YtdpopdlifcjdeaaDoorYD14
import Derived.Test.YtdpopdlifcjdeaaDoorYD22

/- Hold: stories opened; HoldFull's walk. -/
namespace Go.Proofs.YtdpopdlifcjdeaaDoor
open Go.ChangeShapes Go.WideShapes Go.ChangeAt Go.RowKit Go.Deep Go.Lib
set_option linter.unusedVariables false

/-- what a story's rows are -/
structure StR (w : World) (rp : Int) (ka : Option Addr) (ks : List Int) (kn kc : Nat) (ea : Option Addr) (es : List Int) (en ec : Nat) (ra : Option Addr) (rs : List Int) (rn rc : Nat) : Prop where
  rk : RowK .i64 w ka ks
  kl : kn = ks.length
  km : ks.length ≤ 17592186044416
  re : RowK .i64 w ea es
  el : en = es.length
  em : es.length ≤ 17592186044416
  rr : RowK .i64 w ra rs
  rl : rn = rs.length
  rm : rs.length ≤ 17592186044416
theorem StR.below {w w' : World} {rp : Int} {ka : Option Addr} {ks : List Int} {kn kc : Nat} {ea : Option Addr} {es : List Int} {en ec : Nat} {ra : Option Addr} {rs : List Int} {rn rc : Nat} (h : StR w rp ka ks kn kc ea es en ec ra rs rn rc) (hb : Below w.heap.size w w') : StR w' rp ka ks kn kc ea es en ec ra rs rn rc :=
  ⟨h.rk.below hb (Nat.le_refl _), h.kl, h.km, h.re.below hb (Nat.le_refl _), h.el, h.em, h.rr.below hb (Nat.le_refl _), h.rl, h.rm⟩
abbrev stO (rp : Int) (ka : Option Addr) (kn kc : Nat) (ea : Option Addr) (en ec : Nat) (ra : Option Addr) (rn rc : Nat) : Obj := .cells #[.int .i64 rp, .slice ka kn kc, .slice ea en ec, .slice ra rn rc] 52
set_option maxHeartbeats 1000000 in
theorem story_open {H : Type} {enc : TypeId × Value → H} {w : World} {cs : Array Value} {d : DataW H} {p : List MemPlace} (hcs : cs.size = Tryd.prog.cellsOf 52) (h : DataW.Trod enc Tryd.prog w 0 (fun _ => true) true 52 (.agg cs) d p)
    (hs : ∀ n ∈ d.weights Tryd.prog 52, n ≤ reachBytes) : ∃ rp ka ks kn kc ea es en ec ra rs rn rc, cs = #[.int .i64 rp, .slice ka kn kc, .slice ea en ec, .slice ra rn rc] ∧ StR w rp ka ks kn kc ea es en ec ra rs rn rc := by
  obtain ⟨fuel, hf⟩ := h
  have hC : Tryd.prog.cellsOf 52 = 4 := by kernel_rfl
  rw [hC] at hcs
  obtain ⟨l⟩ := cs
  match l, hcs with
  | [d0, d1, d2, d3], _ =>
    have hf2 : DataW.trod enc Tryd.prog w 0 (fun _ => true) true fuel 52 [d0, d1, d2, d3] = some (d, p) := by simpa [Value.cells] using hf
    obtain ⟨ys, n', _, hD, _, hyl, hf'⟩ := DataW.trod_struct Tryd.underlying52 hf2
    have f0 : DataW.trod enc Tryd.prog w 0 (fun _ => true) true n' 3 (([d0, d1, d2, d3].drop 0).take (Tryd.prog.cellsOf 3)) = ys[0]? := hf' 0 _ rfl
    have f1 : DataW.trod enc Tryd.prog w 0 (fun _ => true) true n' 22 (([d0, d1, d2, d3].drop 1).take (Tryd.prog.cellsOf 22)) = ys[1]? := hf' 1 _ rfl
    have f2 : DataW.trod enc Tryd.prog w 0 (fun _ => true) true n' 22 (([d0, d1, d2, d3].drop 2).take (Tryd.prog.cellsOf 22)) = ys[2]? := hf' 2 _ rfl
    have f3 : DataW.trod enc Tryd.prog w 0 (fun _ => true) true n' 22 (([d0, d1, d2, d3].drop 3).take (Tryd.prog.cellsOf 22)) = ys[3]? := hf' 3 _ rfl
    rw [show Tryd.prog.cellsOf 3 = 1 from by kernel_rfl] at f0
    rw [show Tryd.prog.cellsOf 22 = 1 from by kernel_rfl] at f1 f2 f3
    have hy0 : ys[0]? = some (ys[0]'(by simp at hyl; omega)) := List.getElem?_eq_getElem _
    rw [hy0] at f0
    have hy1 : ys[1]? = some (ys[1]'(by simp at hyl; omega)) := List.getElem?_eq_getElem _
    rw [hy1] at f1
    have hy2 : ys[2]? = some (ys[2]'(by simp at hyl; omega)) := List.getElem?_eq_getElem _
    rw [hy2] at f2
    have hy3 : ys[3]? = some (ys[3]'(by simp at hyl; omega)) := List.getElem?_eq_getElem _
    rw [hy3] at f3
    simp only [List.drop_zero, List.drop_succ_cons, List.take_succ_cons, List.take_zero] at f0 f1 f2 f3
    have hxd : d = .agg (ys.map (·.1)) := by have := congrArg Prod.fst hD; exact this
    have hw1 : ∀ n ∈ (ys[1]'(by simp at hyl; omega)).1.weights Tryd.prog 22, n ≤ reachBytes := by
      intro n hn
      apply hs
      rw [hxd]
      simp only [DataW.weights, Tryd.underlying52]
      exact DataW.weights_mem_each (j := 1) (t := 22) (d := (ys[1]'(by simp at hyl; omega)).1) rfl (by rw [List.getElem?_map, hy1]; rfl) n hn
    have hw2 : ∀ n ∈ (ys[2]'(by simp at hyl; omega)).1.weights Tryd.prog 22, n ≤ reachBytes := by
      intro n hn
      apply hs
      rw [hxd]
      simp only [DataW.weights, Tryd.underlying52]
      exact DataW.weights_mem_each (j := 2) (t := 22) (d := (ys[2]'(by simp at hyl; omega)).1) rfl (by rw [List.getElem?_map, hy2]; rfl) n hn
    have hw3 : ∀ n ∈ (ys[3]'(by simp at hyl; omega)).1.weights Tryd.prog 22, n ≤ reachBytes := by
      intro n hn
      apply hs
      rw [hxd]
      simp only [DataW.weights, Tryd.underlying52]
      exact DataW.weights_mem_each (j := 3) (t := 22) (d := (ys[3]'(by simp at hyl; omega)).1) rfl (by rw [List.getElem?_map, hy3]; rfl) n hn
    obtain ⟨rp, h0, _, _⟩ := DataW.trod_int Tryd.underlying3 f0
    obtain ⟨ka, ks, kc, rfl, a1, a2, a3⟩ := rowI_open_sized f1 hw1
    obtain ⟨ea, es, ec, rfl, b1, b2, b3⟩ := rowI_open_sized f2 hw2
    obtain ⟨ra, rs, rc, rfl, e1, e2, e3⟩ := rowI_open_sized f3 hw3
    simp only [List.cons.injEq, and_true] at h0
    subst h0
    exact ⟨rp, ka, ks, _, kc, ea, es, _, ec, ra, rs, _, rc, rfl, a1, rfl, a3, b1, rfl, b3, e1, rfl, e3⟩

theorem row2_new (w : World) (a b : Int) : RowK .i64 (w.alloc (.cells #[.int .i64 a, .int .i64 b] 3)) (some ⟨w.heap.size, 0, none⟩) [a, b] := fun i hi => by
  match i, hi with
  | 0, _ => exact ⟨_, 0, rfl, by simp⟩
  | 1, _ => exact ⟨_, 0, rfl, by simp⟩
  | i + 2, hi => simp at hi; omega
theorem ownO_slice {w : World} {base : Nat} {v : Value} {os : List OpD} {dl : List Value} (h : OwnO w base v os dl) (hd : DepsO w base os dl) : ∃ a n cap, v = .slice a n cap ∧ n = os.length ∧ n ≤ cap ∧ RowO w a os := h.row hd.read

theorem row2_at (w : World) (o : Obj) (a b : Int) (g : Nat) (h : w.heap.size = g) : RowK .i64 ((w.alloc o).alloc (.cells #[.int .i64 a, .int .i64 b] 3)) (some ⟨g + 1, 0, none⟩) [a, b] := by
  have := row2_new (w.alloc o) a b
  rw [World.size_alloc, h] at this
  exact this
/-- Take of one that waits -/
theorem full_step (k : Nat) (hk : k < 16) (gv : Nat) (ha : Option Addr) (hc : Nat) (a : Option Addr) (W : World) (ht : Pr.Tab W) (hv : RowK .i64 W (some ⟨gv, 0, none⟩) [0, 0]) (hr : RowO W ha (hsF k)) (hkc : k ≤ hc) (hd : RowK .i64 W a [(k : Int) + 2 - 1, 0]) :
    Calls Tryd.prog 18 #[.slice (some ⟨gv, 0, none⟩) 2 2, .slice ha k hc, valO (oF ((k : Int) + 2)) a 2 2] W (fun e w' => ∃ wa wc la lc ta tc, e = .returned (.tuple #[.slice wa 2 wc, .slice la (k + 1) lc, .slice ta 0 tc, .int .i64 0]) ∧ RowK .i64 w' wa [0, 0] ∧ RowO w' la (hsF (k + 1)) ∧ k + 1 ≤ lc ∧ Below W.heap.size W w') := by
  have h := take_held (some ⟨gv, 0, none⟩) [0, 0] 2 2 ha (hsF k) k hc (oF ((k : Int) + 2)) a 2 W ht hv rfl (by decide) hr (hsF_len k).symm (by rw [hsF_len]; omega) hkc hd (show 2 ≤ 17592186044416 by decide) (hsF_held k (by omega)) (oF_fits k (by omega)) (oF_known k (by omega)) (oF_ready k (by omega)) (oF_room k hk) k (hsF_pos k)
  rw [hsF_next] at h
  refine h.mono ?_
  rintro e w' ⟨wv, lv, tv, rfl, B, dl1, dl2, h1, h2, h3, h4, -, -, -, -, -, -, hb⟩
  obtain ⟨wa, wc, rfl, hrw, -⟩ := h1.form
  obtain ⟨la, ln, lc, rfl, hln, hlc, hro⟩ := ownO_slice h2 h3
  obtain ⟨ta, tn, tc, rfl, htn, -, -⟩ := h4.form
  rw [hsF_len] at hln
  obtain rfl : tn = 0 := htn
  subst hln
  exact ⟨wa, wc, la, lc, ta, tc, rfl, hrw, hro, hlc, hb⟩
theorem full_no (k : Nat) (hk : k = 16 ∨ k = 17) (gv : Nat) (ha : Option Addr) (hc : Nat) (a : Option Addr) (W : World) (ht : Pr.Tab W) (hv : RowK .i64 W (some ⟨gv, 0, none⟩) [0, 0]) (hr : RowO W ha (hsF 16)) (hkc : 16 ≤ hc) (hd : RowK .i64 W a [(k : Int) + 2 - 1, 0]) :
    Calls Tryd.prog 18 #[.slice (some ⟨gv, 0, none⟩) 2 2, .slice ha 16 hc, valO (oF ((k : Int) + 2)) a 2 2] W (TakeErr 5 W) := by
  refine take_full (some ⟨gv, 0, none⟩) [0, 0] 2 2 ha (hsF 16) 16 hc (oF ((k : Int) + 2)) a 2 W ht hv rfl (by decide) hr (hsF_len 16).symm (by rw [hsF_len]; omega) hkc hd (show 2 ≤ 17592186044416 by decide) (hsF_held 16 (by omega)) (oF_fits k (by omega)) ?_ (oF_ready k (by omega)) ?_
  · rcases hk with rfl | rfl
    · exact oF_known 16 (by omega)
    · exact oF_known'
  · rw [hsF_len]; rfl
theorem full_last (gv : Nat) (ha : Option Addr) (hc : Nat) (a : Option Addr) (W : World) (ht : Pr.Tab W) (hv : RowK .i64 W (some ⟨gv, 0, none⟩) [0, 0]) (hr : RowO W ha (hsF 16)) (hkc : 16 ≤ hc) (hd : RowK .i64 W a [0, 0]) :
    Calls Tryd.prog 18 #[.slice (some ⟨gv, 0, none⟩) 2 2, .slice ha 16 hc, valO oF1 a 2 2] W (fun e w' => ∃ wa wc la lc ta tc, e = .returned (.tuple #[.slice wa 2 wc, .slice la 0 lc, .slice ta 17 tc, .int .i64 0]) ∧ RowK .i64 w' wa [17, 0] ∧ Below W.heap.size W w') := by
  have h := take_ready (some ⟨gv, 0, none⟩) [0, 0] 2 2 ha (hsF 16) 16 hc oF1 a 2 W ht hv rfl (by decide) hr (hsF_len 16).symm (by rw [hsF_len]; omega) hkc hd (by decide) (hsF_held 16 (by omega)) o1_fits o1_known o1_ready
  refine h.mono ?_
  rintro e w' ⟨wv, lv, tv, rfl, B, dl1, dl2, h1, h2, -, h4, -, -, -, -, -, -, hb⟩
  rw [o1_free1] at h1 h2
  obtain ⟨wa, wc, rfl, hrw, -⟩ := h1.form
  obtain ⟨la, ln, lc, rfl, hln, -, -⟩ := h2.form
  obtain ⟨ta, tn, tc, rfl, htn, -, -⟩ := h4.form
  rw [o1_above] at hln
  rw [o1_free2] at htn
  subst hln htn
  exact ⟨wa, wc, la, lc, ta, tc, rfl, hrw, hb⟩

set_option maxHeartbeats 8000000 in
set_option maxRecDepth 100000 in
theorem holdFull_walk (rp : Int) (ka : Option Addr) (ks : List Int) (kn kc : Nat) (ea : Option Addr) (es : List Int) (en ec : Nat) (ra : Option Addr) (rs : List Int) (rn rc : Nat) (w : World) (ht : Pr.Tab w) (h : StR w rp ka ks kn kc ea es en ec ra rs rn rc) :
    Calls Tryd.prog 5 #[.agg #[.int .i64 rp, .slice ka kn kc, .slice ea en ec, .slice ra rn rc]] w (BoolPost w true) := by
  have mixed : Tryd.prog.follows .mixedOrders = true := by kernel_rfl
  have hbT := st_buildT
  obtain ⟨g, hg⟩ : ∃ g, w.heap.size = g := ⟨_, rfl⟩
  have HTW := Lib.hid (fun W (hb : Below g w W) => ht.below (by rw [hg]; exact hb) ht.lt)
  have HG := Lib.hid hg
  obtain ⟨W0, hW0⟩ : ∃ W0, (w.alloc (stO rp ka kn kc ea en ec ra rn rc)).alloc (.cells #[.int .i64 0, .int .i64 0] 3) = W0 := ⟨_, rfl⟩
  have HB0 : Hid (Below g w W0) := by show Below _ _ _; rw [← hW0, ← hg]; exact St.below2 w _ _
  have HZ0 : Hid (W0.heap.size = g + 2) := by show _ = _; rw [← hW0]; simp [hg]
  have HV0 : Hid (RowK .i64 W0 (some ⟨g + 1, 0, none⟩) [0, 0]) := by
    have h1 := row2_new (w.alloc (stO rp ka kn kc ea en ec ra rn rc)) 0 0
    rw [hW0, World.size_alloc, hg] at h1
    exact h1
  have HC0 : Hid (W0.cell? ⟨g, 1, none⟩ = some (.slice ka kn kc)) := by show _ = _; rw [← hW0, ← hg]; simp
  have HW0 := Lib.hid hW0
  clear h ht
  go_enter Tryd.func5, Tryd.ntmps5
  go_wp2_with fail
  clear hW0
  go_loopg [4, 5, 6, 7, 8, 9, 10] 18 (fun g1 s4 s5 _ _ _ _ _ wr => ∃ (k m : Nat) (ha : Option Addr) (hc : Nat), s4 = .slice ha m hc ∧ s5 = .int .i64 ((k : Int) + 2) ∧ k ≤ 18 ∧ 18 - k ≤ g1 ∧ m ≤ hc ∧ Hid (m = min k 16) ∧ Hid (RowO wr ha (hsF m) ∧ Below W0.heap.size W0 wr))
  case atStart => exact ⟨0, 0, none, 0, rfl, rfl, by omega, by omega, by omega, rfl, ⟨RowO.nil _ _, Below.refl _ _⟩⟩
  case round =>
    obtain ⟨k, m, ha, hc, rfl, rfl, hk, hg1, hkc, HM, HI⟩ := hrel
    have HBW := Lib.hid (HB0.out.trans (HI.out.2.mono (by have := HZ0.out; omega)))
    have CO := Lib.hid (mkO_any wr)
    have HN := Lib.hid (fun z W => num14_any z W)
    by_cases hin : k < 18
    · have hinz : (k : Int) + 2 ≤ 19 := by omega
      go_wp2_with fail
      refine (CO.out).mono ?_
      rintro e w1 ⟨a1, rfl, -, hb1⟩
      have HB1 := Lib.hid (HI.out.2.trans (hb1.mono HI.out.2.size))
      have HR1 := Lib.hid (HI.out.1.below hb1)
      clear hb1 CO
      obtain ⟨g1', hg1'⟩ : ∃ g1', w1.heap.size = g1' := ⟨_, rfl⟩
      have hwa : wrap64 ((k : Int) + 2 - 1) = (k : Int) + 2 - 1 := IntWalk.wrap64_in _ (by omega)
      have HWx := Lib.hid (St.below2 w1 (.cells #[.int .i64 ((k : Int) + 2), .int .i64 0, .int .i64 ((k : Int) + 2), .slice (some ⟨g1' + 1, 0, none⟩) 2 2, .int .i64 1, .int .i64 ((k : Int) + 2), .int .i64 0, .int .i64 0, .int .i64 0, .string ⟨#[107]⟩, .int .i64 0, .int .i64 0] 32) (.cells #[.int .i64 ((k : Int) + 2 - 1), .int .i64 0] 3))
      have HB2 := Lib.hid (HB1.out.trans (HWx.out.mono HB1.out.size))
      have HTx := Lib.hid (HTW.out _ (HB0.out.trans (HB2.out.mono (by have := HZ0.out; omega))))
      have HVx := Lib.hid (HV0.out.below HB2.out (Nat.le_refl _))
      have HRx := Lib.hid (HR1.out.below HWx.out)
      have HDx := Lib.hid (row2_at w1 (.cells #[.int .i64 ((k : Int) + 2), .int .i64 0, .int .i64 ((k : Int) + 2), .slice (some ⟨g1' + 1, 0, none⟩) 2 2, .int .i64 1, .int .i64 ((k : Int) + 2), .int .i64 0, .int .i64 0, .int .i64 0, .string ⟨#[107]⟩, .int .i64 0, .int .i64 0] 32) ((k : Int) + 2 - 1) 0 g1' hg1')
      by_cases hk16 : k < 16
      · obtain rfl : m = k := by have := HM.out; omega
        have h17 : ¬ (17 : Int) < (m : Int) + 2 := by omega
        have CT := Lib.hid (full_step m hk16 (g + 1) ha hc (some ⟨g1' + 1, 0, none⟩) _ HTx.out HVx.out HRx.out hkc HDx.out)
        go_wp2_with fail
        refine (CT.out).mono ?_
        rintro e w2 ⟨wa, wc, la, lc, ta, tc, rfl, hrw, hro, hlc, hb2⟩
        have HB3 := Lib.hid (HB2.out.trans (hb2.mono HB2.out.size))
        have HRW := Lib.hid hrw
        have HRO := Lib.hid hro
        have HVy := Lib.hid (HV0.out.below HB3.out (Nat.le_refl _))
        have CE := Lib.hid (eqI_yes wa (some ⟨g + 1, 0, none⟩) [0, 0] 2 2 wc 2 w2 HRW.out HVy.out rfl rfl (by decide))
        have hcm : (((m : Int) + 1) == ((m : Int) + 2 - 1)) = true := by rw [beq_iff_eq]; omega
        have hcm2 : (((m : Int) + 1) != ((m : Int) + 2 - 1)) = false := by rw [bne_eq_false_iff_eq]; omega
        have hcm3 : (m : Int) + 2 - 1 = (m : Int) + 1 := by omega
        clear hrw hro hb2 CT HTx HVx HRx HDx
        go_wp2_with fail
        refine (HN.out 0 _).mono ?_
        rintro e w3 ⟨rfl, rfl⟩
        go_wp2_with fail
        refine (CE.out).mono ?_
        rintro e w4 ⟨rfl, nq, rfl⟩
        have HB4 := Lib.hid (below_drewN HB3.out nq)
        go_wp2_with fail
        go_roundg (18 - (m + 1))
        case measure => omega
        case rel => exact ⟨m + 1, m + 1, la, lc, rfl, by go_num, by omega, by omega, hlc, by show _ = _; omega, ⟨HRO.out.below (below_drewN (Below.refl _ _) nq), HB4.out⟩⟩
      · obtain rfl : m = 16 := by have := HM.out; omega
        have h17 : (17 : Int) < (k : Int) + 2 := by omega
        have CT := Lib.hid (full_no k (by omega) (g + 1) ha hc (some ⟨g1' + 1, 0, none⟩) _ HTx.out HVx.out HRx.out hkc HDx.out)
        go_wp2_with fail
        refine (CT.out).mono ?_
        rintro e w2 ⟨rfl, hb2⟩
        have HB3 := Lib.hid (HB2.out.trans (hb2.mono HB2.out.size))
        have HRy := Lib.hid (HRx.out.below hb2)
        clear hb2 CT HTx HVx HRx HDx
        go_wp2_with fail
        refine (HN.out 5 _).mono ?_
        rintro e w3 ⟨rfl, rfl⟩
        go_wp2_with fail
        go_roundg (18 - (k + 1))
        case measure => omega
        case rel => exact ⟨k + 1, 16, ha, hc, rfl, by go_num, by omega, by omega, hkc, by show _ = _; omega, ⟨HRy.out, HB3.out⟩⟩
    · obtain rfl : k = 18 := by omega
      obtain rfl : m = 16 := by have := HM.out; omega
      have hinz : ¬ ((18 : Nat) : Int) + 2 ≤ 19 := by omega
      go_wp2_with fail
      refine (CO.out).mono ?_
      rintro e w1 ⟨a1, rfl, -, hb1⟩
      have HB1 := Lib.hid (HI.out.2.trans (hb1.mono HI.out.2.size))
      have HR1 := Lib.hid (HI.out.1.below hb1)
      clear hb1 CO
      obtain ⟨g1', hg1'⟩ : ∃ g1', w1.heap.size = g1' := ⟨_, rfl⟩
      have HWx := Lib.hid (St.below2 w1 (.cells #[.int .i64 1, .int .i64 0, .int .i64 1, .slice (some ⟨g1' + 1, 0, none⟩) 2 2, .int .i64 1, .int .i64 1, .int .i64 0, .int .i64 0, .int .i64 0, .string ⟨#[107]⟩, .int .i64 0, .int .i64 0] 32) (.cells #[.int .i64 0, .int .i64 0] 3))
      have HB2 := Lib.hid (HB1.out.trans (HWx.out.mono HB1.out.size))
      have HTx := Lib.hid (HTW.out _ (HB0.out.trans (HB2.out.mono (by have := HZ0.out; omega))))
      have HVx := Lib.hid (HV0.out.below HB2.out (Nat.le_refl _))
      have HRx := Lib.hid (HR1.out.below HWx.out)
      have HDx := Lib.hid (row2_at w1 (.cells #[.int .i64 1, .int .i64 0, .int .i64 1, .slice (some ⟨g1' + 1, 0, none⟩) 2 2, .int .i64 1, .int .i64 1, .int .i64 0, .int .i64 0, .int .i64 0, .string ⟨#[107]⟩, .int .i64 0, .int .i64 0] 32) 0 0 g1' hg1')
      have CT := Lib.hid (full_last (g + 1) ha hc (some ⟨g1' + 1, 0, none⟩) _ HTx.out HVx.out HRx.out hkc HDx.out)
      go_wp2_with fail
      refine (CT.out).mono ?_
      rintro e w2 ⟨wa, wc, la, lc, ta, tc, rfl, hrw, hb2⟩
      have HB3 := Lib.hid (HB2.out.trans (hb2.mono HB2.out.size))
      have HRW := Lib.hid hrw
      have HS1 : Hid ((w2.alloc (.cells #[.int .i64 17, .int .i64 0] 3)).cell? ⟨g, 1, none⟩ = some (.slice ka kn kc)) := by
        have h1 := (HB3.out.alloc HB3.out.size (.cells #[.int .i64 17, .int .i64 0] 3)).cell (p := ⟨g, 1, none⟩) (by have := HZ0.out; show g < W0.heap.size; omega)
        exact h1.trans HC0.out
      have CE := Lib.hid (eqI_yes wa (some ⟨w2.heap.size, 0, none⟩) [17, 0] 2 2 wc 2 (w2.alloc (.cells #[.int .i64 17, .int .i64 0] 3)) (HRW.out.alloc _) (row2_new w2 17 0) rfl rfl (by decide))
      have HB4 := Lib.hid (HB3.out.alloc HB3.out.size (.cells #[.int .i64 17, .int .i64 0] 3))
      clear hrw hb2 CT HTx HVx HRx HDx
      go_wp2_with fail
      refine (HN.out 0 _).mono ?_
      rintro e w3 ⟨rfl, rfl⟩
      go_wp2_with fail
      refine (CE.out).mono ?_
      rintro e w4 ⟨rfl, nq, rfl⟩
      have HB5 := Lib.hid (below_drewN HB4.out nq)
      have hs1 : ((w2.alloc (.cells #[.int .i64 17, .int .i64 0] 3)).drewN nq).cell? ⟨g, 1, none⟩ = some (.slice ka kn kc) := HS1.out
      have hkn : (0 : Int) ≤ (kn : Int) := by omega
      have HB6 := Lib.hid (HB0.out.trans (HB5.out.mono (by have := HZ0.out; omega)))
      generalize (w2.alloc (.cells #[.int .i64 17, .int .i64 0] 3)).drewN nq = w5 at *
      go_wp2_with fail
      refine (wakes14_any w5 (HTW.out w5 HB6.out)).mono ?_
      rintro e w9 ⟨rfl, hb9⟩
      have HB9 := Lib.hid (HB6.out.trans (hb9.mono (by have := HB6.out.size; have := HG.out; omega)))
      clear hb9
      go_wp2
      go_ret
      exact ⟨rfl, by rw [HG.out]; exact HB9.out⟩
end Go.Proofs.YtdpopdlifcjdeaaDoor
