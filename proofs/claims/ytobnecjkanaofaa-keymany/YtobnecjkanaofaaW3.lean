/- Keys in their order, one placed among them; the walk of KeyMany. -/
import Derived.Test.YtobnecjkanaofaaK5
namespace Go.Proofs.Ytobnecjkanaofaa
open Go.RowKit Go.Lib
set_option linter.unusedVariables false

structure Chain (ss : List ByteArray) : Prop where
  key : ∀ j, j < ss.length → keyB (strN (ss.getD j ⟨#[]⟩)) = true
  ord : ∀ j, j + 1 < ss.length → ltB (strN (ss.getD j ⟨#[]⟩)) (strN (ss.getD (j + 1) ⟨#[]⟩)) = true
theorem Chain.nil : Chain [] := ⟨fun j h => by simp at h, fun j h => by simp at h⟩
def lowAt (ss : List ByteArray) (p : Nat) : ByteArray := if 0 < p then ss.getD (p - 1) ⟨#[]⟩ else ⟨#[]⟩
theorem getD_far (ss : List ByteArray) {p : Nat} (h : ¬ p < ss.length) : ss.getD p ⟨#[]⟩ = ⟨#[]⟩ := by
  rw [List.getD_eq_getElem?_getD, List.getElem?_eq_none (by omega)]; rfl
theorem keyB_ne {z : List Int} (h : keyB z = true) : ¬ z = [] := by rintro rfl; simp [keyB, endB] at h
theorem keyB_lim {z : List Int} (h : keyB z = true) : limB z = true := by simp [limB, h]
theorem Chain.may {ss : List ByteArray} (h : Chain ss) {p : Nat} (hp : p ≤ ss.length) : mayB (strN (lowAt ss p)) (strN (ss.getD p ⟨#[]⟩)) = true := by
  by_cases h0 : 0 < p
  · have k1 := h.key (p - 1) (by omega)
    rw [lowAt, if_pos h0]
    by_cases hn : p < ss.length
    · have k2 := h.key p hn
      have k3 := h.ord (p - 1) (by omega)
      rw [show p - 1 + 1 = p by omega] at k3
      generalize strN (ss.getD (p - 1) ⟨#[]⟩) = x at *
      generalize strN (ss.getD p ⟨#[]⟩) = y at *
      simp [mayB, keyB_lim k1, keyB_lim k2, k3]
    · rw [getD_far ss hn, strN_nil]
      generalize strN (ss.getD (p - 1) ⟨#[]⟩) = x at *
      simp [mayB, keyB_lim k1]; rfl
  · rw [lowAt, if_neg h0, strN_nil]
    by_cases hn : p < ss.length
    · have k2 := h.key p hn
      generalize strN (ss.getD p ⟨#[]⟩) = y at *
      simp [mayB, keyB_lim k2]; rfl
    · rw [getD_far ss hn, strN_nil]; rfl
theorem ins_getD (ss : List ByteArray) (p : Nat) (hp : p ≤ ss.length) (s d : ByteArray) (j : Nat) : (ss.take p ++ [s] ++ ss.drop p).getD j d = if j < p then ss.getD j d else if j = p then s else ss.getD (j - 1) d := by
  have hl : (ss.take p).length = p := by rw [List.length_take]; omega
  simp only [List.getD_eq_getElem?_getD]
  congr 1
  rw [List.append_assoc]
  by_cases h1 : j < p
  · rw [if_pos h1, List.getElem?_append_left (by omega), List.getElem?_take, if_pos h1]
  · rw [if_neg h1, List.getElem?_append_right (by omega), hl]
    by_cases h2 : j = p
    · subst h2; simp
    · obtain ⟨q, hq⟩ : ∃ q, j - p = q + 1 := ⟨j - p - 1, by omega⟩
      rw [hq, List.singleton_append, List.getElem?_cons_succ, List.getElem?_drop, show p + q = j - 1 by omega, if_neg h2]
theorem ins_len (ss : List ByteArray) (p : Nat) (hp : p ≤ ss.length) (s : ByteArray) : (ss.take p ++ [s] ++ ss.drop p).length = ss.length + 1 := by
  simp; omega
theorem Chain.ins {ss : List ByteArray} (h : Chain ss) {p : Nat} (hp : p ≤ ss.length) {s : ByteArray} (hl : Lies (lowAt ss p) (ss.getD p ⟨#[]⟩) s) : Chain (ss.take p ++ [s] ++ ss.drop p) := by
  refine ⟨fun j hj => ?_, fun j hj => ?_⟩
  · rw [ins_len ss p hp s] at hj
    rw [ins_getD ss p hp]
    by_cases h1 : j < p
    · rw [if_pos h1]; exact h.key j (by omega)
    · rw [if_neg h1]
      by_cases h2 : j = p
      · rw [if_pos h2]; exact hl.key
      · rw [if_neg h2]; exact h.key (j - 1) (by omega)
  · rw [ins_len ss p hp s] at hj
    rw [ins_getD ss p hp, ins_getD ss p hp]
    by_cases h1 : j + 1 < p
    · rw [if_pos (by omega), if_pos h1]; exact h.ord j (by omega)
    · by_cases h2 : j + 1 = p
      · rw [if_pos (by omega), if_neg h1, if_pos h2]
        have := hl.low
        rw [lowAt, if_pos (by omega), show p - 1 = j by omega] at this
        exact this
      · by_cases h3 : j = p
        · subst h3
          rw [if_neg (by omega), if_pos rfl, if_neg (by omega), if_neg (by omega), show j + 1 - 1 = j by omega]
          exact hl.high.resolve_left (keyB_ne (h.key j (by omega)))
        · rw [if_neg (by omega), if_neg h3, if_neg (by omega), if_neg (by omega)]
          have := h.ord (j - 1) (by omega)
          rw [show j - 1 + 1 = j by omega] at this
          rw [show j + 1 - 1 = j by omega]
          exact this
theorem Chain.less {ss : List ByteArray} (h : Chain ss) {j : Nat} (hj : j < ss.length) (h0 : 0 < j) : Op.bytesLess (ss.getD (j - 1) ⟨#[]⟩).toList (ss.getD j ⟨#[]⟩).toList = true := by
  rw [less_strN]
  have := h.ord (j - 1) (by omega)
  rw [show j - 1 + 1 = j by omega] at this
  exact this
theorem Chain.err {ss : List ByteArray} (h : Chain ss) {j : Nat} (hj : j < ss.length) : errK (ss.getD j ⟨#[]⟩) = 0 := by simp only [errK, h.key j hj, if_true]

structure ManyI (w : World) (ad : Option Addr) (n cap : Nat) (ss : List ByteArray) (wr : World) : Prop where
  own : OwnS wr w.heap.size (.slice ad n cap) ss
  chain : Chain ss
  bel : Below w.heap.size w wr
theorem OwnS.at {w : World} {base : Nat} {a : Option Addr} {n c : Nat} {zs : List ByteArray} (h : OwnS w base (.slice a n c) zs) : RowS w a zs ∧ n = zs.length ∧ n ≤ c := by
  obtain ⟨a', c', e', hr, hc, _⟩ := h.form
  simp only [Value.slice.injEq] at e'
  obtain ⟨rfl, rfl, rfl⟩ := e'
  exact ⟨hr, rfl, hc⟩
theorem ManyI.below {w wr w' : World} {ad : Option Addr} {n cap : Nat} {ss : List ByteArray} (h : ManyI w ad n cap ss wr) (hb : Below wr.heap.size wr w') : ManyI w ad n cap ss w' := ⟨h.own.below hb, h.chain, h.bel.trans (hb.mono h.bel.size)⟩
theorem mem_next {w w3 w5 w6 : World} {v5 v6 : Value} {ss : List ByteArray} {p : Nat} {s : ByteArray} (hc : Chain ss) (hp : p ≤ ss.length) (hl : Lies (lowAt ss p) (ss.getD p ⟨#[]⟩) s) (hb3 : Below w.heap.size w w3) (hb5 : Below w3.heap.size w3 w5) (hg : GrewS w3.heap.size w5 v5 (ss.take p ++ [s]) (ss.drop p) v6 w6) :
    ∃ ad cap, v6 = .slice ad (ss.length + 1) cap ∧ ManyI w ad (ss.length + 1) cap (ss.take p ++ [s] ++ ss.drop p) w6 := by
  have ho := hg.own
  obtain ⟨ad, cap, rfl, _⟩ := ho.form
  rw [ins_len ss p hp s] at ho ⊢
  exact ⟨ad, cap, rfl, ho.mono hb3.size, hc.ins hp hl, hb3.trans ((hg.bel _ _ hb5 (Nat.le_refl _) hb5.size).mono hb3.size)⟩
theorem quiet_left {P : Program} {f : FuncId} {args : Array Value} {w : World} {n : Nat} {v : Value}
    (h : Calls P f args (w.drewN n) fun e w' => e = .returned v ∧ w.drewN n = w') : Calls P f args (w.drewN n) fun e w'' => e = .returned v ∧ ∃ m, w'' = w.drewN m :=
  h.mono fun _ _ ⟨he, hm⟩ => ⟨he, n, hm.symm⟩

set_option maxHeartbeats 8000000 in
set_option maxRecDepth 100000 in
theorem keyMany_walk (l : Option Addr) (nl cl : Nat) (w : World) (h : IntsIs w l nl) :
    Calls Try.prog 5 #[.slice l nl cl] w (BoolPost w true) := by
  have mixed : Try.prog.follows .mixedOrders = true := by kernel_rfl
  have HA := Lib.hid h
  clear h
  have HN0 := Lib.hid (fun W => num_any 0 W)
  have HN5 := Lib.hid (fun W => num_any 5 W)
  go_enter Try.func5, Try.ntmps5
  go_wp2
  go_loopg [3, 4] 60 (fun g1 vk vi wr => ∃ (i : Nat) (ad : Option Addr) (n cap : Nat), vk = .slice ad n cap ∧ vi = .int .i64 i ∧ i ≤ 60 ∧ 60 - i ≤ g1 ∧ n ≤ i ∧ Hid (∃ ss, ManyI w ad n cap ss wr))
  case atStart => exact ⟨0, none, 0, 0, rfl, rfl, by omega, by omega, by omega, ⟨[], OwnS.nil _ _, Chain.nil, Below.refl _ _⟩⟩
  case round =>
    obtain ⟨i, ad, n, cap, rfl, rfl, hi60, hg1, hni, HI⟩ := hrel
    obtain ⟨ss, hI⟩ := HI.out
    obtain ⟨hrow, hns, hnc⟩ := hI.own.at
    have HM := Lib.hid hI
    have HR := Lib.hid hrow
    have HNS := Lib.hid hns
    clear HI hI hrow hns
    by_cases hin : i < nl
    · have hinz : decide ((i : Int) < (nl : Int)) = true := decide_eq_true (by omega)
      have hiny : (i : Int) < (nl : Int) := by omega
      by_cases hi : i < 60
      · have hiz : decide ((i : Int) < 60) = true := decide_eq_true (by omega)
        have hiy : (i : Int) < 60 := by omega
        obtain ⟨lb, lo, z, rfl, hc⟩ := HA.out i hin
        have hcl : wr.cell? ⟨lb, lo + i, none⟩ = some (.int .i64 z) := (HM.out.bel.cell (p := ⟨lb, lo + i, none⟩) (World.block_lt_of_cell? _ _ hc)).trans hc
        clear hc
        have CW : Hid (∀ W, Calls Try.prog 15 #[.int .i64 z, .int .i64 ((n : Int) + 1)] W fun e w' => e = .returned (.int .i64 (modN z (n + 1) : Nat)) ∧ W = w') := fun W => withinN_any z (n + 1) W (by omega) (by omega)
        have hpn : modN z (n + 1) ≤ n := by have := modN_lt z (show 0 < n + 1 by omega); omega
        generalize modN z (n + 1) = p at *
        have HMay : Hid (mayB (strN (lowAt ss p)) (strN (ss.getD p ⟨#[]⟩)) = true) := HM.out.chain.may (by have := HNS.out; omega)
        have hsh : ∀ W, (Instr.slice 38 (.slice ad n cap) none (some (.int .i64 (p : Int))) none).run Try.prog W = .ok (.slice (partA ad 0 cap) p cap) W := fun W => sliceS_h W ad n cap p _ rfl (by omega)
        have hsl : ∀ W, (Instr.slice 38 (.slice ad n cap) (some (.int .i64 (p : Int))) none none).run Try.prog W = .ok (.slice (partA ad p cap) (n - p) (cap - p)) W := fun W => sliceS_l W ad n cap p _ rfl hpn
        have HR0 : Hid (RowS wr (partA ad 0 cap) (ss.take p)) := HR.out.first p cap (by have := HNS.out; omega)
        have HRp : Hid (RowS wr (partA ad p cap) (ss.drop p)) := HR.out.rest p cap (by have := HNS.out; omega)
        have HL0 : Hid (p = (ss.take p).length) := by show p = _; rw [List.length_take]; have := HNS.out; omega
        have HLp : Hid (n - p = (ss.drop p).length) := by show _ = _; rw [List.length_drop]; have := HNS.out; omega
        generalize partA ad 0 cap = a0 at *
        generalize partA ad p cap = ap at *
        generalize n - p = np at *
        generalize cap - p = cp at *
        have HLow : Hid (lowAt ss p = lowAt ss p) := rfl
        by_cases hp0 : 0 < p
        · have hpz : decide ((0 : Int) < (p : Int)) = true := decide_eq_true (by omega)
          have hpy : (0 : Int) < (p : Int) := by omega
          have hp1 : (1 : Int) ≤ (p : Int) := by omega
          have hpt : ((p : Int) - 1).toNat = p - 1 := by omega
          obtain ⟨sa, hsa⟩ : ∃ sa, sa = lowAt ss p := ⟨_, rfl⟩
          obtain ⟨g, off, rfl, hca⟩ := HR.out (p - 1) (by have := HNS.out; omega)
          rw [show ss.getD (p - 1) ⟨#[]⟩ = sa by rw [hsa, lowAt, if_pos hp0]] at hca
          rw [← hsa] at HMay
          have HSA := Lib.hid hsa
          clear hsa HLow
          by_cases hpl : p < n
          · have hqz : decide ((p : Int) < (n : Int)) = true := decide_eq_true (by omega)
            have hqy : (p : Int) < (n : Int) := by omega
            obtain ⟨sb, hsb⟩ : ∃ sb, sb = ss.getD p ⟨#[]⟩ := ⟨_, rfl⟩
            have hcb : wr.cell? ⟨g, off + p, none⟩ = some (.string sb) := by
              obtain ⟨g', off', e', hcb⟩ := HR.out p (by have := HNS.out; omega)
              simp only [Option.some.injEq, Addr.mk.injEq] at e'
              obtain ⟨rfl, rfl, _⟩ := e'
              rw [hsb]; exact hcb
            rw [← hsb] at HMay
            have HSB := Lib.hid hsb
            clear hsb
            have C := Lib.hid (between_any sa sb wr)
            unfold BetPost at C
            by_cases hr : (mid (strN sa) (strN sb)).length ≤ 64
            · have he := betE_of HMay.out hr
              rw [he] at C
              have HLi := Lib.hid (lies_of he)
              clear he hr HMay
              generalize betS sa sb = k at *
              go_wp2_with fail
              refine (CW.out _).mono ?_
              rintro e w' ⟨rfl, rfl⟩
              go_wp2_with fail
              refine (C.out).mono ?_
              rintro e w3 ⟨rfl, hb3⟩
              have HM3 := Lib.hid (HM.out.below hb3)
              have HR03 : Hid (RowS w3 a0 (ss.take p)) := HR0.out.below hb3 (Nat.le_refl _)
              have HRp3 : Hid (RowS w3 ap (ss.drop p)) := HRp.out.below hb3 (Nat.le_refl _)
              clear hb3 C HM HR HR0 HRp hcl CW
              go_wp2_with fail
              refine (HN0.out _).mono ?_
              rintro e w' ⟨rfl, rfl⟩
              go_wp2_with fail
              refine (HN0.out _).mono ?_
              rintro e w' ⟨rfl, rfl⟩
              have CC := Lib.hid (copyS_any a0 (ss.take p) p cap w3 HR03.out HL0.out (by rw [← HL0.out]; omega))
              go_wp2_with fail
              refine (CC.out).mono ?_
              rintro e w4 ⟨v4, rfl, ho4, hb4⟩
              have HO4 := Lib.hid ho4
              have HB4 := Lib.hid hb4
              have HNX := Lib.hid (show ∀ v5 w5 v6 w6, Below w3.heap.size w3 w5 → GrewS w3.heap.size w5 v5 (ss.take p ++ [k]) (ss.drop p) v6 w6 → _ from fun v5 w5 v6 w6 h5 h6 => mem_next HM3.out.chain (by have := HNS.out; omega) (by rw [← HSA.out, ← HSB.out]; exact HLi.out) HM3.out.bel h5 h6)
              have hlen1 : ((ss.take p).length + 1) * 16 ≤ 140737488355328 := by rw [← HL0.out]; omega
              have hlen2 : ((ss.take p ++ [k]).length + (ss.drop p).length) * 16 ≤ 140737488355328 := by rw [List.length_append, ← HL0.out, ← HLp.out, List.length_singleton]; have h1 := HLp.out; have h2 := HNS.out; rw [List.length_drop] at h1; omega
              clear CC ho4 hb4
              go_wp2_with (first
                | (at_builtin
                   refine wpS_one rfl _ _ rfl w3.heap.size w4 v4 (ss.take p) k rfl HO4.out rfl hlen1 HB4.out.size ?_
                   intro v5 w5 hg5
                   have HO5 := Lib.hid hg5.own
                   have HB5 : Hid (Below w3.heap.size w3 w5) := hg5.bel _ _ HB4.out (Nat.le_refl _) HB4.out.size
                   clear hg5 HO4 HB4)
                | (at_builtin
                   refine wpS_row rfl _ _ rfl w3.heap.size w5 v5 (ss.take p ++ [k]) (ss.drop p) ap np cp HLp.out rfl HO5.out rfl (HRp3.out.below HB5.out (Nat.le_refl _)) hlen2 HB5.out.size ?_
                   intro v6 w6 hg6
                   obtain ⟨a6, c6, rfl, hI6⟩ := HNX.out v5 w5 v6 w6 HB5.out hg6
                   rw [← HNS.out] at hI6 ⊢
                   have HI6 := Lib.hid hI6
                   clear hg6 hI6))
              go_roundg (60 - (i + 1))
              case measure => omega
              case rel => exact ⟨i + 1, a6, n + 1, c6, rfl, by go_num, by omega, by omega, by omega, ⟨_, HI6.out⟩⟩
            · rw [betE_full HMay.out hr] at C
              clear hr HMay
              generalize betS sa sb = k at *
              go_wp2_with fail
              refine (CW.out _).mono ?_
              rintro e w' ⟨rfl, rfl⟩
              go_wp2_with fail
              refine (C.out).mono ?_
              rintro e w3 ⟨rfl, hb3⟩
              have HM3 := Lib.hid (HM.out.below hb3)
              clear hb3 C HM HR HR0 HRp hcl CW
              go_wp2_with fail
              refine (HN5.out _).mono ?_
              rintro e w' ⟨rfl, rfl⟩
              go_wp2
              go_roundg (60 - (i + 1))
              case measure => omega
              case rel => exact ⟨i + 1, _, n, cap, rfl, by go_num, by omega, by omega, by omega, ⟨_, HM3.out⟩⟩
          · have hqz : decide ((p : Int) < (n : Int)) = false := decide_eq_false (by omega)
            have hqy : ¬ (p : Int) < (n : Int) := by omega
            obtain ⟨sb, hsb⟩ : ∃ sb, sb = ss.getD p ⟨#[]⟩ := ⟨_, rfl⟩
            have hsbe : sb = ⟨#[]⟩ := by rw [hsb]; exact getD_far ss (by have := HNS.out; omega)
            rw [← hsb] at HMay
            have HSB := Lib.hid hsb
            clear hsb
            subst hsbe
            have C := Lib.hid (between_any sa ⟨#[]⟩ wr)
            unfold BetPost at C
            by_cases hr : (mid (strN sa) (strN ⟨#[]⟩)).length ≤ 64
            · have he := betE_of HMay.out hr
              rw [he] at C
              have HLi := Lib.hid (lies_of he)
              clear he hr HMay
              generalize betS sa ⟨#[]⟩ = k at *
              go_wp2_with fail
              refine (CW.out _).mono ?_
              rintro e w' ⟨rfl, rfl⟩
              go_wp2_with fail
              refine (C.out).mono ?_
              rintro e w3 ⟨rfl, hb3⟩
              have HM3 := Lib.hid (HM.out.below hb3)
              have HR03 : Hid (RowS w3 a0 (ss.take p)) := HR0.out.below hb3 (Nat.le_refl _)
              have HRp3 : Hid (RowS w3 ap (ss.drop p)) := HRp.out.below hb3 (Nat.le_refl _)
              clear hb3 C HM HR HR0 HRp hcl CW
              go_wp2_with fail
              refine (HN0.out _).mono ?_
              rintro e w' ⟨rfl, rfl⟩
              go_wp2_with fail
              refine (HN0.out _).mono ?_
              rintro e w' ⟨rfl, rfl⟩
              have CC := Lib.hid (copyS_any a0 (ss.take p) p cap w3 HR03.out HL0.out (by rw [← HL0.out]; omega))
              go_wp2_with fail
              refine (CC.out).mono ?_
              rintro e w4 ⟨v4, rfl, ho4, hb4⟩
              have HO4 := Lib.hid ho4
              have HB4 := Lib.hid hb4
              have HNX := Lib.hid (show ∀ v5 w5 v6 w6, Below w3.heap.size w3 w5 → GrewS w3.heap.size w5 v5 (ss.take p ++ [k]) (ss.drop p) v6 w6 → _ from fun v5 w5 v6 w6 h5 h6 => mem_next HM3.out.chain (by have := HNS.out; omega) (by rw [← HSA.out, ← HSB.out]; exact HLi.out) HM3.out.bel h5 h6)
              have hlen1 : ((ss.take p).length + 1) * 16 ≤ 140737488355328 := by rw [← HL0.out]; omega
              have hlen2 : ((ss.take p ++ [k]).length + (ss.drop p).length) * 16 ≤ 140737488355328 := by rw [List.length_append, ← HL0.out, ← HLp.out, List.length_singleton]; have h1 := HLp.out; have h2 := HNS.out; rw [List.length_drop] at h1; omega
              clear CC ho4 hb4
              go_wp2_with (first
                | (at_builtin
                   refine wpS_one rfl _ _ rfl w3.heap.size w4 v4 (ss.take p) k rfl HO4.out rfl hlen1 HB4.out.size ?_
                   intro v5 w5 hg5
                   have HO5 := Lib.hid hg5.own
                   have HB5 : Hid (Below w3.heap.size w3 w5) := hg5.bel _ _ HB4.out (Nat.le_refl _) HB4.out.size
                   clear hg5 HO4 HB4)
                | (at_builtin
                   refine wpS_row rfl _ _ rfl w3.heap.size w5 v5 (ss.take p ++ [k]) (ss.drop p) ap np cp HLp.out rfl HO5.out rfl (HRp3.out.below HB5.out (Nat.le_refl _)) hlen2 HB5.out.size ?_
                   intro v6 w6 hg6
                   obtain ⟨a6, c6, rfl, hI6⟩ := HNX.out v5 w5 v6 w6 HB5.out hg6
                   rw [← HNS.out] at hI6 ⊢
                   have HI6 := Lib.hid hI6
                   clear hg6 hI6))
              go_roundg (60 - (i + 1))
              case measure => omega
              case rel => exact ⟨i + 1, a6, n + 1, c6, rfl, by go_num, by omega, by omega, by omega, ⟨_, HI6.out⟩⟩
            · rw [betE_full HMay.out hr] at C
              clear hr HMay
              generalize betS sa ⟨#[]⟩ = k at *
              go_wp2_with fail
              refine (CW.out _).mono ?_
              rintro e w' ⟨rfl, rfl⟩
              go_wp2_with fail
              refine (C.out).mono ?_
              rintro e w3 ⟨rfl, hb3⟩
              have HM3 := Lib.hid (HM.out.below hb3)
              clear hb3 C HM HR HR0 HRp hcl CW
              go_wp2_with fail
              refine (HN5.out _).mono ?_
              rintro e w' ⟨rfl, rfl⟩
              go_wp2
              go_roundg (60 - (i + 1))
              case measure => omega
              case rel => exact ⟨i + 1, _, n, cap, rfl, by go_num, by omega, by omega, by omega, ⟨_, HM3.out⟩⟩
        · have hpz : decide ((0 : Int) < (p : Int)) = false := decide_eq_false (by omega)
          have hpy : ¬ (0 : Int) < (p : Int) := by omega
          obtain ⟨sa, hsa⟩ : ∃ sa, sa = lowAt ss p := ⟨_, rfl⟩
          have hse : sa = ⟨#[]⟩ := by rw [hsa, lowAt, if_neg hp0]
          rw [← hsa] at HMay
          have HSA := Lib.hid hsa
          clear hsa HLow
          by_cases hpl : p < n
          · have hqz : decide ((p : Int) < (n : Int)) = true := decide_eq_true (by omega)
            have hqy : (p : Int) < (n : Int) := by omega
            obtain ⟨sb, hsb⟩ : ∃ sb, sb = ss.getD p ⟨#[]⟩ := ⟨_, rfl⟩
            obtain ⟨g, off, rfl, hcb⟩ := HR.out p (by have := HNS.out; omega)
            rw [← hsb] at hcb
            rw [← hsb] at HMay
            have HSB := Lib.hid hsb
            clear hsb
            subst hse
            have C := Lib.hid (between_any ⟨#[]⟩ sb wr)
            unfold BetPost at C
            by_cases hr : (mid (strN ⟨#[]⟩) (strN sb)).length ≤ 64
            · have he := betE_of HMay.out hr
              rw [he] at C
              have HLi := Lib.hid (lies_of he)
              clear he hr HMay
              generalize betS ⟨#[]⟩ sb = k at *
              go_wp2_with fail
              refine (CW.out _).mono ?_
              rintro e w' ⟨rfl, rfl⟩
              go_wp2_with fail
              refine (C.out).mono ?_
              rintro e w3 ⟨rfl, hb3⟩
              have HM3 := Lib.hid (HM.out.below hb3)
              have HR03 : Hid (RowS w3 a0 (ss.take p)) := HR0.out.below hb3 (Nat.le_refl _)
              have HRp3 : Hid (RowS w3 ap (ss.drop p)) := HRp.out.below hb3 (Nat.le_refl _)
              clear hb3 C HM HR HR0 HRp hcl CW
              go_wp2_with fail
              refine (HN0.out _).mono ?_
              rintro e w' ⟨rfl, rfl⟩
              go_wp2_with fail
              refine (HN0.out _).mono ?_
              rintro e w' ⟨rfl, rfl⟩
              have CC := Lib.hid (copyS_any a0 (ss.take p) p cap w3 HR03.out HL0.out (by rw [← HL0.out]; omega))
              go_wp2_with fail
              refine (CC.out).mono ?_
              rintro e w4 ⟨v4, rfl, ho4, hb4⟩
              have HO4 := Lib.hid ho4
              have HB4 := Lib.hid hb4
              have HNX := Lib.hid (show ∀ v5 w5 v6 w6, Below w3.heap.size w3 w5 → GrewS w3.heap.size w5 v5 (ss.take p ++ [k]) (ss.drop p) v6 w6 → _ from fun v5 w5 v6 w6 h5 h6 => mem_next HM3.out.chain (by have := HNS.out; omega) (by rw [← HSA.out, ← HSB.out]; exact HLi.out) HM3.out.bel h5 h6)
              have hlen1 : ((ss.take p).length + 1) * 16 ≤ 140737488355328 := by rw [← HL0.out]; omega
              have hlen2 : ((ss.take p ++ [k]).length + (ss.drop p).length) * 16 ≤ 140737488355328 := by rw [List.length_append, ← HL0.out, ← HLp.out, List.length_singleton]; have h1 := HLp.out; have h2 := HNS.out; rw [List.length_drop] at h1; omega
              clear CC ho4 hb4
              go_wp2_with (first
                | (at_builtin
                   refine wpS_one rfl _ _ rfl w3.heap.size w4 v4 (ss.take p) k rfl HO4.out rfl hlen1 HB4.out.size ?_
                   intro v5 w5 hg5
                   have HO5 := Lib.hid hg5.own
                   have HB5 : Hid (Below w3.heap.size w3 w5) := hg5.bel _ _ HB4.out (Nat.le_refl _) HB4.out.size
                   clear hg5 HO4 HB4)
                | (at_builtin
                   refine wpS_row rfl _ _ rfl w3.heap.size w5 v5 (ss.take p ++ [k]) (ss.drop p) ap np cp HLp.out rfl HO5.out rfl (HRp3.out.below HB5.out (Nat.le_refl _)) hlen2 HB5.out.size ?_
                   intro v6 w6 hg6
                   obtain ⟨a6, c6, rfl, hI6⟩ := HNX.out v5 w5 v6 w6 HB5.out hg6
                   rw [← HNS.out] at hI6 ⊢
                   have HI6 := Lib.hid hI6
                   clear hg6 hI6))
              go_roundg (60 - (i + 1))
              case measure => omega
              case rel => exact ⟨i + 1, a6, n + 1, c6, rfl, by go_num, by omega, by omega, by omega, ⟨_, HI6.out⟩⟩
            · rw [betE_full HMay.out hr] at C
              clear hr HMay
              generalize betS ⟨#[]⟩ sb = k at *
              go_wp2_with fail
              refine (CW.out _).mono ?_
              rintro e w' ⟨rfl, rfl⟩
              go_wp2_with fail
              refine (C.out).mono ?_
              rintro e w3 ⟨rfl, hb3⟩
              have HM3 := Lib.hid (HM.out.below hb3)
              clear hb3 C HM HR HR0 HRp hcl CW
              go_wp2_with fail
              refine (HN5.out _).mono ?_
              rintro e w' ⟨rfl, rfl⟩
              go_wp2
              go_roundg (60 - (i + 1))
              case measure => omega
              case rel => exact ⟨i + 1, _, n, cap, rfl, by go_num, by omega, by omega, by omega, ⟨_, HM3.out⟩⟩
          · have hqz : decide ((p : Int) < (n : Int)) = false := decide_eq_false (by omega)
            have hqy : ¬ (p : Int) < (n : Int) := by omega
            obtain ⟨sb, hsb⟩ : ∃ sb, sb = ss.getD p ⟨#[]⟩ := ⟨_, rfl⟩
            have hsbe : sb = ⟨#[]⟩ := by rw [hsb]; exact getD_far ss (by have := HNS.out; omega)
            rw [← hsb] at HMay
            have HSB := Lib.hid hsb
            clear hsb
            subst hse
            subst hsbe
            have C := Lib.hid (between_any ⟨#[]⟩ ⟨#[]⟩ wr)
            unfold BetPost at C
            by_cases hr : (mid (strN ⟨#[]⟩) (strN ⟨#[]⟩)).length ≤ 64
            · have he := betE_of HMay.out hr
              rw [he] at C
              have HLi := Lib.hid (lies_of he)
              clear he hr HMay
              generalize betS ⟨#[]⟩ ⟨#[]⟩ = k at *
              go_wp2_with fail
              refine (CW.out _).mono ?_
              rintro e w' ⟨rfl, rfl⟩
              go_wp2_with fail
              refine (C.out).mono ?_
              rintro e w3 ⟨rfl, hb3⟩
              have HM3 := Lib.hid (HM.out.below hb3)
              have HR03 : Hid (RowS w3 a0 (ss.take p)) := HR0.out.below hb3 (Nat.le_refl _)
              have HRp3 : Hid (RowS w3 ap (ss.drop p)) := HRp.out.below hb3 (Nat.le_refl _)
              clear hb3 C HM HR HR0 HRp hcl CW
              go_wp2_with fail
              refine (HN0.out _).mono ?_
              rintro e w' ⟨rfl, rfl⟩
              go_wp2_with fail
              refine (HN0.out _).mono ?_
              rintro e w' ⟨rfl, rfl⟩
              have CC := Lib.hid (copyS_any a0 (ss.take p) p cap w3 HR03.out HL0.out (by rw [← HL0.out]; omega))
              go_wp2_with fail
              refine (CC.out).mono ?_
              rintro e w4 ⟨v4, rfl, ho4, hb4⟩
              have HO4 := Lib.hid ho4
              have HB4 := Lib.hid hb4
              have HNX := Lib.hid (show ∀ v5 w5 v6 w6, Below w3.heap.size w3 w5 → GrewS w3.heap.size w5 v5 (ss.take p ++ [k]) (ss.drop p) v6 w6 → _ from fun v5 w5 v6 w6 h5 h6 => mem_next HM3.out.chain (by have := HNS.out; omega) (by rw [← HSA.out, ← HSB.out]; exact HLi.out) HM3.out.bel h5 h6)
              have hlen1 : ((ss.take p).length + 1) * 16 ≤ 140737488355328 := by rw [← HL0.out]; omega
              have hlen2 : ((ss.take p ++ [k]).length + (ss.drop p).length) * 16 ≤ 140737488355328 := by rw [List.length_append, ← HL0.out, ← HLp.out, List.length_singleton]; have h1 := HLp.out; have h2 := HNS.out; rw [List.length_drop] at h1; omega
              clear CC ho4 hb4
              go_wp2_with (first
                | (at_builtin
                   refine wpS_one rfl _ _ rfl w3.heap.size w4 v4 (ss.take p) k rfl HO4.out rfl hlen1 HB4.out.size ?_
                   intro v5 w5 hg5
                   have HO5 := Lib.hid hg5.own
                   have HB5 : Hid (Below w3.heap.size w3 w5) := hg5.bel _ _ HB4.out (Nat.le_refl _) HB4.out.size
                   clear hg5 HO4 HB4)
                | (at_builtin
                   refine wpS_row rfl _ _ rfl w3.heap.size w5 v5 (ss.take p ++ [k]) (ss.drop p) ap np cp HLp.out rfl HO5.out rfl (HRp3.out.below HB5.out (Nat.le_refl _)) hlen2 HB5.out.size ?_
                   intro v6 w6 hg6
                   obtain ⟨a6, c6, rfl, hI6⟩ := HNX.out v5 w5 v6 w6 HB5.out hg6
                   rw [← HNS.out] at hI6 ⊢
                   have HI6 := Lib.hid hI6
                   clear hg6 hI6))
              go_roundg (60 - (i + 1))
              case measure => omega
              case rel => exact ⟨i + 1, a6, n + 1, c6, rfl, by go_num, by omega, by omega, by omega, ⟨_, HI6.out⟩⟩
            · rw [betE_full HMay.out hr] at C
              clear hr HMay
              generalize betS ⟨#[]⟩ ⟨#[]⟩ = k at *
              go_wp2_with fail
              refine (CW.out _).mono ?_
              rintro e w' ⟨rfl, rfl⟩
              go_wp2_with fail
              refine (C.out).mono ?_
              rintro e w3 ⟨rfl, hb3⟩
              have HM3 := Lib.hid (HM.out.below hb3)
              clear hb3 C HM HR HR0 HRp hcl CW
              go_wp2_with fail
              refine (HN5.out _).mono ?_
              rintro e w' ⟨rfl, rfl⟩
              go_wp2
              go_roundg (60 - (i + 1))
              case measure => omega
              case rel => exact ⟨i + 1, _, n, cap, rfl, by go_num, by omega, by omega, by omega, ⟨_, HM3.out⟩⟩
      · have hiz : decide ((i : Int) < 60) = false := decide_eq_false (by omega)
        have hiy : ¬ (i : Int) < 60 := by omega
        have HC := Lib.hid HM.out.chain
        have HD0 := Lib.hid HM.out.bel
        clear HM
        go_wp2
        go_loopg [11] n (fun g2 v wr2 => ∃ j : Nat, v = .int .i64 j ∧ j ≤ n ∧ n - j ≤ g2 ∧ Hid (RowS wr2 ad ss ∧ Below w.heap.size w wr2))
        case atStart => exact ⟨0, rfl, by omega, by omega, ⟨HR.out, HD0.out⟩⟩
        case round =>
          clear HR HD0
          obtain ⟨j, rfl, hjn, hg2, HD⟩ := hrel
          have HR := Lib.hid HD.out.1
          have HZ0 := Lib.hid HD.out.2
          clear HD
          by_cases hlt : j < n
          · have hltz : (j : Int) < (n : Int) := by omega
            have hltd : decide ((j : Int) < (n : Int)) = true := decide_eq_true hltz
            have hjs : j < ss.length := by have := HNS.out; omega
            have HE := Lib.hid (HC.out.err hjs)
            by_cases hj0 : 0 < j
            · have hjz : (0 : Int) < (j : Int) := by omega
              have hjd : decide ((0 : Int) < (j : Int)) = true := decide_eq_true hjz
              have hj1 : (1 : Int) ≤ (j : Int) := by omega
              have hj2 : (j : Int) - 1 < (n : Int) := by omega
              have hjt : ((j : Int) - 1).toNat = j - 1 := by omega
              have hjw : IntKind.i64.wrap ((j : Int) - 1) = (j : Int) - 1 := by
                rw [IntKind.wrap_i64]; omega
              have hle := HC.out.less hjs hj0
              obtain ⟨g, off, rfl, hc1⟩ := HR.out j hjs
              have hc2 : wr.cell? ⟨g, off + (j - 1), none⟩ = some (.string (ss.getD (j - 1) ⟨#[]⟩)) := by
                obtain ⟨g', off', e', hcb⟩ := HR.out (j - 1) (by omega)
                simp only [Option.some.injEq, Addr.mk.injEq] at e'
                obtain ⟨rfl, rfl, _⟩ := e'
                exact hcb
              clear hjs
              generalize ss.getD (j - 1) ⟨#[]⟩ = y at *
              generalize ss.getD j ⟨#[]⟩ = x at *
              have CK := Lib.hid (fun W => check_any x W)
              rw [HE.out] at CK
              go_wp2_with fail
              go_quiet (first | (go_at_call 9; exact quiet_left (CK.out _)) | (go_at_call 8; exact quiet_left (HN0.out _)))
              go_wp2
              go_roundg (n - (j + 1))
              case measure => omega
              case rel => exact ⟨j + 1, by go_num, by omega, by omega, ⟨HR.out, below_drewN HZ0.out _⟩⟩
            · have hjz : ¬ (0 : Int) < (j : Int) := by omega
              have hjd : decide ((0 : Int) < (j : Int)) = false := decide_eq_false hjz
              obtain ⟨g, off, rfl, hc1⟩ := HR.out j hjs
              clear hjs
              generalize ss.getD j ⟨#[]⟩ = x at *
              have CK := Lib.hid (fun W => check_any x W)
              rw [HE.out] at CK
              go_wp2_with fail
              go_quiet (first | (go_at_call 9; exact quiet_left (CK.out _)) | (go_at_call 8; exact quiet_left (HN0.out _)))
              go_wp2
              go_roundg (n - (j + 1))
              case measure => omega
              case rel => exact ⟨j + 1, by go_num, by omega, by omega, ⟨HR.out, below_drewN HZ0.out _⟩⟩
          · have hltz : ¬ (j : Int) < (n : Int) := by omega
            have hltd : decide ((j : Int) < (n : Int)) = false := decide_eq_false hltz
            have HW := Lib.hid (wakes_any wr)
            go_wp2_with fail
            refine (HW.out).mono ?_
            rintro e w1 ⟨rfl, hb1⟩
            have HZ : Hid (Below w.heap.size w w1) := HZ0.out.trans (hb1.mono HZ0.out.size)
            clear hb1 HW
            go_wp2
            go_ret
            exact ⟨rfl, HZ.out⟩
    · have hinz : decide ((i : Int) < (nl : Int)) = false := decide_eq_false (by omega)
      have hiny : ¬ (i : Int) < (nl : Int) := by omega
      have HC := Lib.hid HM.out.chain
      have HD0 := Lib.hid HM.out.bel
      clear HM
      go_wp2
      go_loopg [11] n (fun g2 v wr2 => ∃ j : Nat, v = .int .i64 j ∧ j ≤ n ∧ n - j ≤ g2 ∧ Hid (RowS wr2 ad ss ∧ Below w.heap.size w wr2))
      case atStart => exact ⟨0, rfl, by omega, by omega, ⟨HR.out, HD0.out⟩⟩
      case round =>
        clear HR HD0
        obtain ⟨j, rfl, hjn, hg2, HD⟩ := hrel
        have HR := Lib.hid HD.out.1
        have HZ0 := Lib.hid HD.out.2
        clear HD
        by_cases hlt : j < n
        · have hltz : (j : Int) < (n : Int) := by omega
          have hltd : decide ((j : Int) < (n : Int)) = true := decide_eq_true hltz
          have hjs : j < ss.length := by have := HNS.out; omega
          have HE := Lib.hid (HC.out.err hjs)
          by_cases hj0 : 0 < j
          · have hjz : (0 : Int) < (j : Int) := by omega
            have hjd : decide ((0 : Int) < (j : Int)) = true := decide_eq_true hjz
            have hj1 : (1 : Int) ≤ (j : Int) := by omega
            have hj2 : (j : Int) - 1 < (n : Int) := by omega
            have hjt : ((j : Int) - 1).toNat = j - 1 := by omega
            have hjw : IntKind.i64.wrap ((j : Int) - 1) = (j : Int) - 1 := by
              rw [IntKind.wrap_i64]; omega
            have hle := HC.out.less hjs hj0
            obtain ⟨g, off, rfl, hc1⟩ := HR.out j hjs
            have hc2 : wr.cell? ⟨g, off + (j - 1), none⟩ = some (.string (ss.getD (j - 1) ⟨#[]⟩)) := by
              obtain ⟨g', off', e', hcb⟩ := HR.out (j - 1) (by omega)
              simp only [Option.some.injEq, Addr.mk.injEq] at e'
              obtain ⟨rfl, rfl, _⟩ := e'
              exact hcb
            clear hjs
            generalize ss.getD (j - 1) ⟨#[]⟩ = y at *
            generalize ss.getD j ⟨#[]⟩ = x at *
            have CK := Lib.hid (fun W => check_any x W)
            rw [HE.out] at CK
            go_wp2_with fail
            go_quiet (first | (go_at_call 9; exact quiet_left (CK.out _)) | (go_at_call 8; exact quiet_left (HN0.out _)))
            go_wp2
            go_roundg (n - (j + 1))
            case measure => omega
            case rel => exact ⟨j + 1, by go_num, by omega, by omega, ⟨HR.out, below_drewN HZ0.out _⟩⟩
          · have hjz : ¬ (0 : Int) < (j : Int) := by omega
            have hjd : decide ((0 : Int) < (j : Int)) = false := decide_eq_false hjz
            obtain ⟨g, off, rfl, hc1⟩ := HR.out j hjs
            clear hjs
            generalize ss.getD j ⟨#[]⟩ = x at *
            have CK := Lib.hid (fun W => check_any x W)
            rw [HE.out] at CK
            go_wp2_with fail
            go_quiet (first | (go_at_call 9; exact quiet_left (CK.out _)) | (go_at_call 8; exact quiet_left (HN0.out _)))
            go_wp2
            go_roundg (n - (j + 1))
            case measure => omega
            case rel => exact ⟨j + 1, by go_num, by omega, by omega, ⟨HR.out, below_drewN HZ0.out _⟩⟩
        · have hltz : ¬ (j : Int) < (n : Int) := by omega
          have hltd : decide ((j : Int) < (n : Int)) = false := decide_eq_false hltz
          have HW := Lib.hid (wakes_any wr)
          go_wp2_with fail
          refine (HW.out).mono ?_
          rintro e w1 ⟨rfl, hb1⟩
          have HZ : Hid (Below w.heap.size w w1) := HZ0.out.trans (hb1.mono HZ0.out.size)
          clear hb1 HW
          go_wp2
          go_ret
          exact ⟨rfl, HZ.out⟩
end Go.Proofs.Ytobnecjkanaofaa
