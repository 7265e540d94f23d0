/- Joined: D5. -/
import Derived.Test.YtdpopdlifcjdeaaDoorYD4

/- Hold: Check. -/
namespace Go.Proofs.YtdpopdlifcjdeaaDoor
open Go.RowKit Go.Lib
set_option linter.unusedVariables false

def cmpO (x y : OpD) : Int := St.cmpS x.1.t x.1.r y.1.t y.1.r
/-- does the one ahead stand ahead? -/
def prevB (hs : List OpD) (x : OpD) : Nat → Bool
  | 0 => true
  | j + 1 => match hs[j]? with | some y => decide (cmpO y x < 0) | none => true
theorem prevB_succ {hs : List OpD} {x y : OpD} {k : Nat} (h : hs[k]? = some y) : prevB hs x (k + 1) = decide (cmpO y x < 0) := by simp [prevB, h]
/-- does the one at k stand rightly? -/
def heldAt (v : List Int) (hs : List OpD) (k : Nat) : Bool :=
  match hs[k]? with
  | none => true
  | some x => fitsB v x && !readyB v x && !knownB v (hs.take k) x && prevB hs x k
def heldB (v : List Int) (hs : List OpD) : Bool := Hv.vecB v && decide (hs.length ≤ 16) && (List.range hs.length).all (heldAt v hs)
theorem held_iff {v : List Int} {hs : List OpD} : heldB v hs = true ↔ Hv.vecB v = true ∧ hs.length ≤ 16 ∧ ∀ k, k < hs.length → heldAt v hs k = true := by
  unfold heldB
  rw [Bool.and_eq_true, Bool.and_eq_true, decide_eq_true_eq, and_assoc, List.all_eq_true]
  simp
theorem held_no {v : List Int} {hs : List OpD} {k : Nat} (hk : k < hs.length) (h : heldAt v hs k = false) : heldB v hs = false := by
  cases hb : heldB v hs
  · rfl
  · rw [(held_iff.1 hb).2.2 k hk] at h
    cases h
theorem held_fits {v : List Int} {hs : List OpD} (h : heldB v hs = true) {x : OpD} (hx : x ∈ hs) : fitsB v x = true := by
  obtain ⟨k, hk⟩ := List.getElem?_of_mem hx
  have h1 := (held_iff.1 h).2.2 k (List.getElem?_eq_some_iff.1 hk).1
  unfold heldAt at h1
  rw [hk] at h1
  simp only [Bool.and_eq_true] at h1
  exact h1.1.1.1
theorem RowO.first {w : World} {a : Option Addr} {os : List OpD} (h : RowO w a os) (k : Nat) : RowO w a (os.take k) := fun i x hi => by
  rw [List.getElem?_take] at hi
  split at hi
  · exact h i x hi
  · cases hi
theorem size32 (w : World) : (Go.sizeOf 32).run Tryd.prog w = .ok 12 w := by
  obtain ⟨i0, hi, hz0, hz1, hz2⟩ := info_parts Tryd.info32
  simp [Go.sizeOf, typeInfo, hi, hz1]
/-- where a part of a row of operations begins -/
def partO (a : Option Addr) (l cap : Nat) : Option Addr := if cap = l then a else a.map (·.add (l * 12))
theorem RowO.rest {w : World} {a : Option Addr} {os : List OpD} (h : RowO w a os) (l cap : Nat) (hn : os.length ≤ cap) : RowO w (partO a l cap) (os.drop l) := fun i x hi => by
  rw [List.getElem?_drop] at hi
  have hlt := (List.getElem?_eq_some_iff.1 hi).1
  obtain ⟨b, off, rfl, h1⟩ := h _ x hi
  refine ⟨b, off + l * 12, ?_, ?_⟩
  · unfold partO
    rw [if_neg (by omega), Option.map_some, addr_add]
  · rw [show off + l * 12 + i * 12 = off + (l + i) * 12 by omega]
    exact h1
theorem sliceO_l (w : World) (a : Option Addr) (len cap l : Nat) (zl : Int) (el : zl = (l : Int)) (h1 : l ≤ len) :
    (Instr.slice 23 (.slice a len cap) (some (.int .i64 zl)) none none).run Tryd.prog w = .ok (.slice (partO a l cap) (len - l) (cap - l)) w := by
  subst el
  have ht' : Tryd.prog.underlying 23 = some (.slice (Tryd.prog.elem 23)) := by simp [Program.elem, Tryd.underlying23]
  have he : Tryd.prog.elem 23 = 32 := by simp [Program.elem, Tryd.underlying23]
  rw [run_slice_l w 23 _ _ _ ht' .i64 _ (by omega) (by omega), he, size32]
  simp [Result.andThen, sliced, partO]
theorem sliceO_h (w : World) (a : Option Addr) (len cap h : Nat) (zh : Int) (eh : zh = (h : Int)) (h1 : h ≤ cap) :
    (Instr.slice 23 (.slice a len cap) none (some (.int .i64 zh)) none).run Tryd.prog w = .ok (.slice a h cap) w := by
  subst eh
  have ht' : Tryd.prog.underlying 23 = some (.slice (Tryd.prog.elem 23)) := by simp [Program.elem, Tryd.underlying23]
  have he : Tryd.prog.elem 23 = 32 := by simp [Program.elem, Tryd.underlying23]
  rw [run_slice_h w 23 _ _ _ ht' .i64 _ (by omega) (by omega), he, size32]
  simp [Result.andThen, sliced]
  intro _
  cases a with
  | none => rfl
  | some p => rw [Option.map_some, Addr.add_zero']
theorem heldAt_is {v : List Int} {hs : List OpD} {k : Nat} {x : OpD} (h : hs[k]? = some x) : heldAt v hs k = (fitsB v x && !readyB v x && !knownB v (hs.take k) x && prevB hs x k) := by unfold heldAt; rw [h]
theorem heldAt_fits {v : List Int} {hs : List OpD} {k : Nat} {x : OpD} (h : hs[k]? = some x) (hf : fitsB v x = false) : heldAt v hs k = false := by rw [heldAt_is h]; simp [hf]
theorem heldAt_ready {v : List Int} {hs : List OpD} {k : Nat} {x : OpD} (h : hs[k]? = some x) (hf : readyB v x = true) : heldAt v hs k = false := by rw [heldAt_is h]; simp [hf]
theorem heldAt_known {v : List Int} {hs : List OpD} {k : Nat} {x : OpD} (h : hs[k]? = some x) (hf : knownB v (hs.take k) x = true) : heldAt v hs k = false := by rw [heldAt_is h]; simp [hf]
theorem heldAt_less {v : List Int} {hs : List OpD} {k : Nat} {x y : OpD} (h : hs[k + 1]? = some x) (h' : hs[k]? = some y) (hf : decide (cmpO y x < 0) = false) : heldAt v hs (k + 1) = false := by rw [heldAt_is h, prevB_succ h', hf, Bool.and_false]
theorem heldAt_yes0 {v : List Int} {hs : List OpD} {x : OpD} (h : hs[0]? = some x) (h1 : fitsB v x = true) (h2 : readyB v x = false) (h3 : knownB v (hs.take 0) x = false) : heldAt v hs 0 = true := by rw [heldAt_is h, h1, h2, h3]; rfl
theorem heldAt_yes {v : List Int} {hs : List OpD} {k : Nat} {x y : OpD} (h : hs[k + 1]? = some x) (h' : hs[k]? = some y) (h1 : fitsB v x = true) (h2 : readyB v x = false) (h3 : knownB v (hs.take (k + 1)) x = false) (hf : decide (cmpO y x < 0) = true) : heldAt v hs (k + 1) = true := by rw [heldAt_is h, prevB_succ h', h1, h2, h3, hf]; rfl
set_option maxHeartbeats 4000000 in
set_option maxRecDepth 100000 in
theorem hcheck_any (va : Option Addr) (v : List Int) (vn vc : Nat) (ha : Option Addr) (hs : List OpD) (n c : Nat) (w : World) (ht : Pr.Tab w) (hv : RowK .i64 w va v) (hvn : vn = v.length) (hvl : v.length ≤ 140737488355328) (hr : RowO w ha hs) (hn : n = hs.length) (hl : hs.length * 120 ≤ 140737488355328) (hc : n ≤ c) :
    Calls Tryd.prog 12 #[.slice va vn vc, .slice ha n c] w (St.IntBel w (errC (heldB v hs))) := by
  have mixed : Tryd.prog.follows .mixedOrders = true := by kernel_rfl
  have HA := Lib.hid hr
  have HN := Lib.hid hn
  have HV := Lib.hid hv
  have HVN := Lib.hid hvn
  have HT := Lib.hid ht
  have HVL := Lib.hid hvl
  have HL := Lib.hid hl
  have hnl : n * 120 ≤ 140737488355328 := by omega
  obtain ⟨fin, hfin⟩ : ∃ fin, errC (heldB v hs) = fin := ⟨_, rfl⟩
  rw [hfin]
  have HFIN := Lib.hid hfin
  clear hfin
  cases hvec : Hv.vecB v
  · have C := Lib.hid (Hv.check_no va v vn vc w hv hvn hvl hvec)
    have HF : Hid (fin = 1) := by show _ = _; rw [← HFIN.out, show heldB v hs = false by simp [heldB, hvec]]; rfl
    clear hvec hr hn hv hvn ht hvl hl
    go_enter Tryd.func12, Tryd.ntmps12
    go_wp2_with fail
    refine (C.out).mono ?_
    rintro e w1 ⟨rfl, rfl⟩
    go_wp2
    go_ret
    exact ⟨by rw [HF.out]; rfl, Below.refl _ _⟩
  · have C := Lib.hid (Hv.check_yes va v vn vc w hv hvn hvl hvec)
    have HVEC := Lib.hid hvec
    by_cases h16 : n ≤ 16
    · have h16z : ¬ (16 : Int) < (n : Int) := by omega
      clear hvec hr hn hv hvn ht hvl hl
      go_enter Tryd.func12, Tryd.ntmps12
      go_wp2_with fail
      refine (C.out).mono ?_
      rintro e w1 ⟨rfl, rfl⟩
      go_wp2
      go_loopg [5, 6, 7, 8, 19] n (fun gg _ _ _ _ s19 wr => ∃ k : Nat, s19 = .int .i64 k ∧ k ≤ n ∧ n - k ≤ gg ∧ Hid (∀ j, j < k → heldAt v hs j = true) ∧ Hid (Below w.heap.size w wr))
      case atStart => exact ⟨0, rfl, Nat.zero_le _, by omega, fun j hj => absurd hj (Nat.not_lt_zero _), Below.refl _ _⟩
      case round =>
        obtain ⟨k, rfl, hk, hg, HF, HI⟩ := hrel
        by_cases hin : k < n
        · have hinz : (k : Int) < (n : Int) := by omega
          obtain ⟨x, hx⟩ : ∃ x, hs[k]? = some x := ⟨_, List.getElem?_eq_getElem (by rw [← HN.out]; exact hin)⟩
          obtain ⟨b, off, rfl, da, dc, hat, hrow, hdm⟩ := (HA.out.below HI.out) k x hx
          have HX := Lib.hid hx
          have HBX := Lib.hid (box_bel wr (objO x da x.1.ds.length dc))
          have HBX2 := Lib.hid (HI.out.trans (HBX.out.mono HI.out.size))
          have HAX := Lib.hid (OpX.new wr x da x.1.ds.length dc)
          have HRW := Lib.hid hrow
          have HDM := Lib.hid hdm
          have HAT := Lib.hid hat
          clear hx
          obtain ⟨c0, c1, c2, c3, c4, c5, c6, c7, c8, c9, c10, c11⟩ := hat
          cases hf : fitsB v x
          · have D := Lib.hid (ready_no va v vn vc x da x.1.ds.length dc _ (HT.out.below HBX2.out HT.out.lt) (HV.out.below HBX2.out (Nat.le_refl _)) HVN.out HVL.out (HRW.out.alloc _) rfl (by have := HDM.out; omega) hf)
            have HR : Hid (fin = 1) := by show _ = _; rw [← HFIN.out, held_no (by rw [← HN.out]; exact hin) (heldAt_fits HX.out hf)]; rfl
            clear hf hrow hdm
            generalize x.1.ds.length = dn at *
            go_wp2_with fail
            refine (D.out).mono ?_
            rintro e w1 ⟨rfl, hb1⟩
            have HB1 := Lib.hid (HBX2.out.trans (hb1.mono HBX2.out.size))
            have HA1 := Lib.hid (HAX.out.next hb1)
            clear hb1 D c0 c1 c2 c3 c4 c5 c6 c7 c8 c9 c10 c11
            obtain ⟨c0, c1, c2, c3, c4, c5, c6, c7, c8, c9, c10, c11⟩ := HA1.out
            go_wp2_with fail
            go_quiet (fail)
            go_wp2
            go_ret
            exact ⟨by rw [HR.out]; rfl, below_drewN HB1.out _⟩
          · have D := Lib.hid (ready_yes va v vn vc x da x.1.ds.length dc _ (HT.out.below HBX2.out HT.out.lt) (HV.out.below HBX2.out (Nat.le_refl _)) HVN.out (HRW.out.alloc _) rfl hf)
            have HFX := Lib.hid hf
            clear hf hrow hdm
            cases hrd : readyB v x
            · rw [hrd] at D
              have HRD := Lib.hid hrd
              clear hrd
              have hsl : ∀ W, (Instr.slice 23 (.slice (some ⟨b, off, none⟩) n c) none (some (.int .i64 (k : Int))) none).run Tryd.prog W = .ok (.slice (some ⟨b, off, none⟩) k c) W := fun W => sliceO_h W _ n c k k rfl (by omega)
              have CK := Lib.hid (fun W (hb : Below w.heap.size w W) (hr : RowK .i64 W da x.1.ds) => known_any va v vn vc (some ⟨b, off, none⟩) (hs.take k) k c x da x.1.ds.length dc W (HV.out.below hb (Nat.le_refl _)) HVN.out ((HA.out.below hb).first k) (by rw [List.length_take]; have := HN.out; omega) (by rw [List.length_take]; have := HL.out; omega) HFX.out)
              obtain ⟨kb, hkb⟩ : ∃ kb, knownB v (hs.take k) x = kb := ⟨_, rfl⟩
              rw [hkb] at CK
              have HKB := Lib.hid hkb
              clear hkb
              generalize hdn : x.1.ds.length = dn at *
              have HDN := Lib.hid hdn
              clear hdn
              go_wp2_with fail
              refine (D.out).mono ?_
              rintro e w1 ⟨rfl, hb1⟩
              have HB1 := Lib.hid (HBX2.out.trans (hb1.mono HBX2.out.size))
              have HW1 := Lib.hid (HBX.out.trans (hb1.mono HBX.out.size))
              have HA1 := Lib.hid (HAX.out.next hb1)
              clear hb1 D c0 c1 c2 c3 c4 c5 c6 c7 c8 c9 c10 c11
              have x1 : St.RegrownTo w1 33 #[.slice va vn vc, .slice (some ⟨b, off, none⟩) k c, valO x da dn dc] (.bool kb) := regrown_at fun W' hb => CK.out W' (HB1.out.trans (hb.mono HB1.out.size)) (HRW.out.below (HW1.out.trans (hb.mono HW1.out.size)) (Nat.le_refl _))
              obtain ⟨g0, g1, g2, g3, g4, g5, g6, g7, g8, g9, g10, g11⟩ := HA1.out.regrown
              go_wp2_with fail
              refine wp_region_quiet_below (by assumption) (by kernel_rfl) ?_
              repeat (go_big_quiet_step ((first | (go_at_call 33; with_reducible exact x1 _ _))))
              refine wpQuiet_nil ?_
              intro _ hw'
              obtain ⟨⟨dq, osq⟩, hw''⟩ := hw'
              subst hw''
              have HB2 := Lib.hid (HB1.out.trans ((below_regrown _ dq osq).mono HB1.out.size))
              have HW2 := Lib.hid (HW1.out.trans ((below_regrown _ dq osq).mono HW1.out.size))
              have HA2 := Lib.hid (HA1.out.next (below_regrown _ dq osq))
              generalize Go.Sort.grow (redrawn w1 dq) osq = w2 at *
              clear g0 g1 g2 g3 g4 g5 g6 g7 g8 g9 g10 g11 x1 CK hsl
              cases kb
              · rcases Nat.eq_zero_or_pos k with rfl | hkp
                · have HF2 : Hid (∀ j, j < 0 + 1 → heldAt v hs j = true) := fun j hj => by
                    obtain rfl : j = 0 := by omega
                    exact heldAt_yes0 HX.out HFX.out HRD.out HKB.out
                  obtain ⟨c0, c1, c2, c3, c4, c5, c6, c7, c8, c9, c10, c11⟩ := HA2.out
                  go_wp2_with fail
                  go_quiet (fail)
                  go_wp2_with fail
                  go_roundg (n - (0 + 1))
                  case measure => omega
                  case rel => exact ⟨0 + 1, by go_num, by omega, by omega, HF2.out, below_drewN HB2.out _⟩
                · obtain ⟨k', rfl⟩ : ∃ k', k = k' + 1 := ⟨k - 1, by omega⟩
                  obtain ⟨y, hy⟩ : ∃ y, hs[k']? = some y := ⟨_, List.getElem?_eq_getElem (by have := HN.out; omega)⟩
                  obtain ⟨b', off', hbo, da', dc', hat', -, -⟩ := (HA.out.below HB2.out) k' y hy
                  obtain ⟨rfl, rfl⟩ : b' = b ∧ off' = off := by simpa using hbo.symm
                  clear hbo
                  have HY := Lib.hid hy
                  have hkz : (((k' + 1 : Nat) : Int) - 1) = (k' : Int) := by omega
                  have hkw : wrap64 ((k' + 1 : Nat) : Int) = ((k' + 1 : Nat) : Int) := IntWalk.wrap64_in _ (by omega)
                  have hkpz : (0 : Int) < ((k' + 1 : Nat) : Int) := by omega
                  generalize y.1.ds.length = dn' at hat'
                  have CL := Lib.hid (fun W => less_any y.1.t y.1.r y.2 da' dn' dc' y.1.k y.1.nt y.1.nr y.1.pt y.1.pr y.1.s y.1.p y.1.v x.1.t x.1.r x.2 da dn dc x.1.k x.1.nt x.1.nr x.1.pt x.1.pr x.1.s x.1.p x.1.v W)
                  obtain ⟨lb, hlb⟩ : ∃ lb, decide (cmpO y x < 0) = lb := ⟨_, rfl⟩
                  have HLB := Lib.hid hlb
                  unfold cmpO at hlb
                  rw [hlb] at CL
                  clear hlb hy
                  have x2 : St.RegrownTo w2 34 #[valO y da' dn' dc', valO x da dn dc] (.bool lb) := regrown_at fun W' hb => CL.out W'
                  obtain ⟨g0, g1, g2, g3, g4, g5, g6, g7, g8, g9, g10, g11⟩ := HA2.out.regrown
                  obtain ⟨f0, f1, f2, f3, f4, f5, f6, f7, f8, f9, f10, f11⟩ := hat'.regrown
                  clear hat' CL
                  go_wp2_with fail
                  refine wp_region_quiet_below (by assumption) (by kernel_rfl) ?_
                  repeat (go_big_quiet_step ((first | (go_at_call 34; with_reducible exact x2 _ _))))
                  refine wpQuiet_nil ?_
                  intro _ hw'
                  obtain ⟨⟨dq, osq⟩, hw''⟩ := hw'
                  subst hw''
                  have HB3 := Lib.hid (HB2.out.trans ((below_regrown _ dq osq).mono HB2.out.size))
                  clear g0 g1 g2 g3 g4 g5 g6 g7 g8 g9 g10 g11 f0 f1 f2 f3 f4 f5 f6 f7 f8 f9 f10 f11 x2
                  generalize Go.Sort.grow (redrawn w2 dq) osq = w3 at *
                  cases lb
                  · have HR : Hid (fin = 1) := by show _ = _; rw [← HFIN.out, held_no (by rw [← HN.out]; exact hin) (heldAt_less HX.out HY.out HLB.out)]; rfl
                    go_wp2
                    go_ret
                    exact ⟨by rw [HR.out]; rfl, HB3.out⟩
                  · have HF2 : Hid (∀ j, j < k' + 1 + 1 → heldAt v hs j = true) := fun j hj => by
                      by_cases e : j = k' + 1
                      · subst e
                        exact heldAt_yes HX.out HY.out HFX.out HRD.out HKB.out HLB.out
                      · exact HF.out j (by omega)
                    go_wp2_with fail
                    go_roundg (n - (k' + 1 + 1))
                    case measure => omega
                    case rel => exact ⟨k' + 1 + 1, by go_num, by omega, by omega, HF2.out, HB3.out⟩
              · have HR : Hid (fin = 1) := by show _ = _; rw [← HFIN.out, held_no (by rw [← HN.out]; exact hin) (heldAt_known HX.out HKB.out)]; rfl
                go_wp2
                go_ret
                exact ⟨by rw [HR.out]; rfl, HB2.out⟩
            · have HR : Hid (fin = 1) := by show _ = _; rw [← HFIN.out, held_no (by rw [← HN.out]; exact hin) (heldAt_ready HX.out hrd)]; rfl
              rw [hrd] at D
              clear hrd
              generalize x.1.ds.length = dn at *
              go_wp2_with fail
              refine (D.out).mono ?_
              rintro e w1 ⟨rfl, hb1⟩
              have HB1 := Lib.hid (HBX2.out.trans (hb1.mono HBX2.out.size))
              have HA1 := Lib.hid (HAX.out.next hb1)
              clear hb1 D c0 c1 c2 c3 c4 c5 c6 c7 c8 c9 c10 c11
              obtain ⟨c0, c1, c2, c3, c4, c5, c6, c7, c8, c9, c10, c11⟩ := HA1.out
              go_wp2_with fail
              go_quiet (fail)
              go_wp2
              go_ret
              exact ⟨by rw [HR.out]; rfl, below_drewN HB1.out _⟩
        · have hinz : ¬ (k : Int) < (n : Int) := by omega
          have HF2 : Hid (fin = 0) := by
            show _ = _
            rw [← HFIN.out, show heldB v hs = true from held_iff.2 ⟨HVEC.out, by have := HN.out; omega, fun j hj => HF.out j (by have := HN.out; omega)⟩]
            rfl
          go_wp2
          go_ret
          exact ⟨by rw [HF2.out]; rfl, HI.out⟩
    · have h16z : (16 : Int) < (n : Int) := by omega
      have HF : Hid (fin = 1) := by
        show _ = _
        rw [← HFIN.out, show heldB v hs = false by simp [heldB, hvec]; intro h; omega]
        rfl
      clear hvec hr hn hv hvn ht hvl hl
      go_enter Tryd.func12, Tryd.ntmps12
      go_wp2_with fail
      refine (C.out).mono ?_
      rintro e w1 ⟨rfl, rfl⟩
      go_wp2
      go_ret
      exact ⟨by rw [HF.out]; rfl, Below.refl _ _⟩
end Go.Proofs.YtdpopdlifcjdeaaDoor
