/- Registers: RegOrders' walk. -/
import Derived.Test.YtjpjjckokonkpaaDoorB5
namespace Go.Proofs.YtjpjjckokonkpaaDoor
open Go.RowKit Go.Lib
set_option linter.unusedVariables false

/-- registers at hand -/
structure CuR (W : World) (a : Option Addr) (n c : Nat) (xs : List RgD) : Prop where
  row : RowG W a xs
  len : n = xs.length
  cap : n ≤ c
  bnd : xs.length ≤ 20
theorem CuR.next {W W' : World} {a : Option Addr} {n c : Nat} {xs : List RgD} (h : CuR W a n c xs) (hb : Below W.heap.size W W') : CuR W' a n c xs := ⟨h.row.next hb, h.len, h.cap, h.bnd⟩
theorem CuR.nil (W : World) : CuR W none 0 0 [] := ⟨RowG.nil _ _, rfl, Nat.le_refl _, by simp⟩
theorem CuR.of {W : World} {base : Nat} {v : Value} {xs : List RgD} (h : OwnG W base v xs) (hb : xs.length ≤ 20) : ∃ a n c, v = .slice a n c ∧ CuR W a n c xs := by
  obtain ⟨a, n, c, rfl, h1, h2, h3⟩ := h.form
  exact ⟨a, n, c, rfl, h3, h1, h2, hb⟩
def SetCu (w : World) (xs : List RgD) (e : Ending) (w' : World) : Prop := ∃ a n c, e = .returned (.tuple #[.slice a n c, .int .i64 0]) ∧ CuR w' a n c xs ∧ Below w.heap.size w w'
theorem set_cu {a : Option Addr} {n c : Nat} {X Y : List RgD} {x : RgD} {w : World} (ht : Pr.Tab w) (h : CuR w a n c X) (h1 : regsB X = true) (h2 : regB x = true) (hy : mergeG X [x] = Y) (hl : Y.length ≤ 20) : Calls Tryd.prog 15 #[.slice a n c, .int .i64 x.p, .int .i64 x.v, .agg #[.int .i64 x.t, .int .i64 x.r]] w (SetCu w Y) := by
  refine (set_yes a X n c x w ht h.row h.len h.cap (by have := h.bnd; omega) (by rw [h1, h2]; rfl)).mono ?_
  rintro e w' ⟨v, rfl, ho, hb⟩
  rw [hy] at ho
  obtain ⟨a', n', c', rfl, hc⟩ := CuR.of ho hl
  exact ⟨a', n', c', rfl, hc, hb⟩
theorem merge_cu {a b : Option Addr} {n c m d : Nat} {X Y Z : List RgD} {w : World} (ht : Pr.Tab w) (h : CuR w a n c X) (h' : CuR w b m d Y) (h1 : regsB X = true) (h2 : regsB Y = true) (hy : mergeG X Y = Z) (hl : Z.length ≤ 20) : Calls Tryd.prog 20 #[.slice a n c, .slice b m d] w (SetCu w Z) := by
  refine (merge_yes a X n c b Y m d w ht h.row h'.row h.len h'.len h.cap h'.cap (by have := h.bnd; have := h'.bnd; omega) h1 h2).mono ?_
  rintro e w' ⟨v, rfl, ho, hb⟩
  rw [hy] at ho
  obtain ⟨a', n', c', rfl, hc⟩ := CuR.of ho hl
  exact ⟨a', n', c', rfl, hc, hb⟩
theorem eq_cu {a b : Option Addr} {n c m d : Nat} {X : List RgD} {w : World} (h : CuR w a n c X) (h' : CuR w b m d X) : Calls Tryd.prog 16 #[.slice a n c, .slice b m d] w (BoolPost w true) := eqRegs_yes a b X n m c d w h.row h'.row h.len h'.len (by have := h.bnd; omega)
theorem within16 (z : Int) (w : World) : Calls Tryd.prog 23 #[.int .i64 z, .int .i64 16] w fun e w' => ∃ r : Int, e = .returned (.int .i64 r) ∧ 0 ≤ r ∧ r < 16 ∧ w = w' := by
  refine (Ky.withinN_any z 16 w (by decide) (by decide)).mono ?_
  rintro e w' ⟨rfl, hw⟩
  refine ⟨_, rfl, by omega, ?_, hw⟩
  have : Ky.modN z 16 < 16 := by unfold Ky.modN; omega
  omega
set_option maxHeartbeats 8000000 in
set_option maxRecDepth 100000 in
theorem regOrders_walk (ra : Option Addr) (rs : List RgD) (rn rc : Nat) (qa : Option Addr) (qs : List RgD) (qn qc : Nat) (la : Option Addr) (ls : List RgD) (ln lc : Nat) (w : World) (ht : Pr.Tab w) (h : ScG w ra rs rn rc qa qs qn qc la ls ln lc) :
    Calls Tryd.prog 4 #[.agg #[.slice ra rn rc, .slice qa qn qc, .slice la ln lc]] w (BoolPost w true) := by
  have mixed : Tryd.prog.follows .mixedOrders = true := by kernel_rfl
  have HT := Lib.hid (fun W (hb : Below w.heap.size w W) => ht.below hb ht.lt)
  have HB0 := Lib.hid (bel1 w (scG ra rn rc qa qn qc la ln lc))
  have HS0 := Lib.hid (ScB.new w ra rn rc qa qn qc la ln lc)
  have HR := Lib.hid h
  have CH := Lib.hid (heavy15_any ra rs rn rc qa qs qn qc la ls ln lc _ (h.below HB0.out))
  have CW := Lib.hid (fun W (hb : Below w.heap.size w W) => wakes15_any W (HT.out W hb))
  clear ht h
  go_enter Tryd.func4, Tryd.ntmps4
  go_wp2_with fail
  generalize w.alloc (scG ra rn rc qa qn qc la ln lc) = W0 at *
  generalize hg : w.heap.size = g at HS0 ⊢
  clear hg
  refine (CH.out).mono ?_
  rintro e w0 ⟨rfl, hb⟩
  have HB := Lib.hid (HB0.out.trans (hb.mono HB0.out.size))
  have HS := Lib.hid (HS0.out.next hb)
  clear hb CH HS0 HB0
  by_cases hv : 2000 < rn + qn + ln
  · have hvd : decide (2000 < rn + qn + ln) = true := decide_eq_true hv
    go_wp2
    go_ret
    exact ⟨rfl, HB.out⟩
  · have hvd : decide (2000 < rn + qn + ln) = false := decide_eq_false hv
    rw [hvd]
    have hrn : rn ≤ 2000 := by omega
    have hqn : qn ≤ 2000 := by omega
    have hln : ln ≤ 2000 := by omega
    clear hv hvd
    have hs0 := HS.out
    obtain ⟨s0, s1, s2⟩ := hs0
    have HKB : Hid (∀ W, Below w0.heap.size w0 W → Below w.heap.size w W) := fun W hb => HB.out.trans (hb.mono HB.out.size)
    have HO0 : Hid (OwnH w0 w0.heap.size (.slice none 0 0) []) := OwnH.nil _ _
    have C23 := Lib.hid (fun z W => within16 z W)
    clear hrn hqn
    go_wp2_with fail
    clear s0 s1 s2
    go_loopg [3, 4, 5] 20 (fun gg s3 s4 _ wr => ∃ (i : Nat) (l : List RgD), s4 = .int .i64 i ∧ i ≤ 20 ∧ 20 - i ≤ gg ∧ Hid (ActsG l i) ∧ Hid (OwnH wr w0.heap.size s3 l) ∧ Hid (Below w0.heap.size w0 wr))
    case atStart => exact ⟨0, [], rfl, by omega, by omega, ActsG.nil, HO0.out, Below.refl _ _⟩
    case round =>
      obtain ⟨i, l, rfl, hi20, hgk, HA, HO, HI⟩ := hrel
      clear HO0
      have HBi := Lib.hid (HKB.out _ HI.out)
      obtain ⟨s0, s1, s2⟩ := HS.out.next HI.out
      by_cases hin : i < ln
      · have hinz : decide ((i : Int) < (ln : Int)) = true := decide_eq_true (by omega)
        have hiny : (i : Int) < (ln : Int) := by omega
        by_cases hi : i < 20
        · have hiz : decide ((i : Int) < 20) = true := decide_eq_true (by omega)
          have hiy : (i : Int) < 20 := by omega
          obtain ⟨x, hx⟩ : ∃ x, ls[i]? = some x := ⟨_, List.getElem?_eq_getElem (by rw [← HR.out.ll]; exact hin)⟩
          obtain ⟨b, off, rfl, hat⟩ := (HR.out.lr.below HBi.out (Nat.le_refl _)) i x hx
          obtain ⟨l0, l1, l2, l3⟩ := hat
          have hw1 : IntKind.i64.wrap ((i : Int) + 1) = (i : Int) + 1 := IntWalk.i64_in _ (by omega)
          have hw2 : wrap64 ((i : Int) + 1) = (i : Int) + 1 := IntWalk.wrap64_in _ (by omega)
          have hbd := fun r => St.st_build ((i : Int) + 1) r
          obtain ⟨e0, he0⟩ : ∃ e0, Pr.errP x.p x.v = e0 := ⟨_, rfl⟩
          have D := Lib.hid (fun W => Pr.refCheck_any x.p x.v W)
          rw [he0] at D
          have HE0 := Lib.hid he0
          clear hx he0
          go_wp2_with fail
          refine (C23.out _ _).mono ?_
          rintro e wn ⟨r, rfl, hr0, hr16, rfl⟩
          go_wp2_with fail
          refine (D.out _).mono ?_
          rintro e wn ⟨rfl, rfl⟩
          have HBX : Hid (Below wr.heap.size wr (wr.alloc (objH ⟨x.p, x.v, (i : Int) + 1, r⟩))) := bel1 wr _
          have HI2 := Lib.hid (HI.out.trans (HBX.out.mono HI.out.size))
          have HO2 := Lib.hid (HO.out.alloc (objH ⟨x.p, x.v, (i : Int) + 1, r⟩))
          have HSZ : Hid (w0.heap.size ≤ (wr.alloc (objH ⟨x.p, x.v, (i : Int) + 1, r⟩)).heap.size) := HI2.out.size
          have HLE : Hid ((l.length + 1) * 32 ≤ 140737488355328) := by have := HA.out.len; show _ ≤ _; omega
          by_cases hz : e0 = 0
          · subst hz
            have HRB : Hid (regB ⟨x.p, x.v, (i : Int) + 1, r⟩ = true) := by show _ = _; unfold regB; rw [HE0.out]; unfold St.stB; simp; omega
            have HA2 := Lib.hid (HA.out.push HRB.out rfl)
            clear hr0 hr16 l0 l1 l2 l3 s0 s1 s2
            go_wp2_with (at_builtin
                         refine wpH_one rfl _ _ rfl w0.heap.size (wr.alloc (objH ⟨x.p, x.v, (i : Int) + 1, r⟩)) u3 l ⟨x.p, x.v, (i : Int) + 1, r⟩ rfl HO2.out _ rfl (by simp) HLE.out HSZ.out ?_
                         intro v6 w6 hp6
                         have HO6 := Lib.hid hp6.own
                         have HI6 := Lib.hid (hp6.bel HI2.out (Nat.le_refl _) HI2.out.size)
                         clear hp6)
            go_roundg (20 - (i + 1))
            case measure => omega
            case rel => exact ⟨i + 1, _, by go_num, by omega, by omega, HA2.out, HO6.out, HI6.out⟩
          · have hz1 : (e0 == 0) = false := by simpa using hz
            clear hr0 hr16 l0 l1 l2 l3 s0 s1 s2
            go_wp2_with fail
            go_roundg (20 - (i + 1))
            case measure => omega
            case rel => exact ⟨i + 1, l, by go_num, by omega, by omega, HA.out.more, HO2.out, HI2.out⟩
        · have hiz : decide ((i : Int) < 20) = false := decide_eq_false (by omega)
          have hiy : ¬ (i : Int) < 20 := by omega
          obtain ⟨w5, hw5⟩ : ∃ w5, w5 = wr := ⟨_, rfl⟩
          subst hw5
          obtain ⟨la2, n, c2, rfl, hn, -, hrow⟩ := HO.out.form
          have HLR := Lib.hid hrow
          have HN := Lib.hid hn
          have HN20 : Hid (n ≤ 20) := by have := HA.out.len; show _ ≤ _; omega
          have hn20 : n ≤ 20 := HN20.out
          have HKC : Hid (∀ W, Below w5.heap.size w5 W → Below w.heap.size w W) := fun W hb => HBi.out.trans (hb.mono HBi.out.size)
          have HRG : Hid (∀ xs : List RgD, (∀ x ∈ xs, x ∈ l) → regsB (setsG xs) = true) := fun xs h => setsG_regs fun x hx => HA.out.ok x (h x hx)
          clear hn hrow HO HBi
          go_wp2_with fail
          clear s0 s1 s2
          go_loopg [6, 7, 8, 9, 10, 11, 12, 13, 14, 15, 16] n (fun gg s6 s7 s8 s9 s10 _ _ _ _ _ _ wr => ∃ (k : Nat) (ua : Option Addr) (un uc : Nat) (da : Option Addr) (dn dc : Nat) (oa : Option Addr) (on oc : Nat) (ea : Option Addr) (en ec : Nat), s6 = .slice ua un uc ∧ s7 = .slice da dn dc ∧ s8 = .slice oa on oc ∧ s9 = .slice ea en ec ∧ s10 = .int .i64 k ∧ k ≤ n ∧ n - k ≤ gg ∧ Hid (CuR wr ua un uc (setsG (l.take k))) ∧ Hid (CuR wr da dn dc (setsG (l.drop (n - k)).reverse)) ∧ Hid (CuR wr oa on oc (setsG (odL l k))) ∧ Hid (CuR wr ea en ec (setsG (evL l k))) ∧ Hid (Below w5.heap.size w5 wr))
          case atStart => exact ⟨0, none, 0, 0, none, 0, 0, none, 0, 0, none, 0, 0, rfl, rfl, rfl, rfl, rfl, Nat.zero_le _, by omega, by rw [List.take_zero]; exact CuR.nil _, by rw [Nat.sub_zero, HN.out, List.drop_length]; exact CuR.nil _, CuR.nil _, CuR.nil _, Below.refl _ _⟩
          case round =>
            obtain ⟨k, ua, un, uc, da, dn, dc, oa, on, oc, ea, en, ec, rfl, rfl, rfl, rfl, rfl, hk, hgk2, HU, HD, HOD, HEV, HJ⟩ := hrel
            have HBj := Lib.hid (HKC.out _ HJ.out)
            by_cases hkn : k < n
            · have hknz : (k : Int) < (n : Int) := by omega
              obtain ⟨m, hm⟩ : ∃ m, n - 1 - k = m := ⟨_, rfl⟩
              have hmn : m < n := by omega
              have hmnz : (m : Int) < (n : Int) := by omega
              have hm0 : (0 : Int) ≤ (m : Int) := by omega
              have hmz : (n : Int) - 1 - (k : Int) = (m : Int) := by omega
              have hq1 : IntKind.i64.wrap ((n : Int) - 1) = (n : Int) - 1 := IntWalk.i64_in _ (by omega)
              have hq2 : wrap64 ((n : Int) - 1) = (n : Int) - 1 := IntWalk.wrap64_in _ (by omega)
              have hq3 : IntKind.i64.wrap ((n : Int) - 1 - (k : Int)) = (m : Int) := by rw [hmz]; exact IntWalk.i64_in _ (by omega)
              have hq4 : wrap64 ((n : Int) - 1 - (k : Int)) = (m : Int) := by rw [hmz]; exact IntWalk.wrap64_in _ (by omega)
              have HM : Hid (l.length - 1 - k = m) := by rw [← HN.out]; exact hm
              obtain ⟨y, hy⟩ : ∃ y, l[k]? = some y := ⟨_, List.getElem?_eq_getElem (by rw [← HN.out]; exact hkn)⟩
              obtain ⟨z, hz⟩ : ∃ z, l[m]? = some z := ⟨_, List.getElem?_eq_getElem (by rw [← HN.out]; exact hmn)⟩
              obtain ⟨b5, o5, rfl, hat1⟩ := (HLR.out.next HJ.out) k y hy
              obtain ⟨b6, o6, eb, hat2⟩ := (HLR.out.next HJ.out) m z hz
              simp only [Option.some.injEq, Addr.mk.injEq] at eb
              obtain ⟨rfl, rfl, -⟩ := eb
              have HY := Lib.hid hy
              have HZZ := Lib.hid hz
              obtain ⟨a0, a1, a2, a3⟩ := hat1
              obtain ⟨b0, b1, b2, b3⟩ := hat2
              have HNU : Hid (setsG (l.take (k + 1)) = mergeG (setsG (l.take k)) [y]) := by show _ = _; rw [take_moreG hy, sets_push]
              have HND : Hid (setsG (l.drop (n - (k + 1))).reverse = mergeG (setsG (l.drop (n - k)).reverse) [z]) := by show _ = _; rw [HN.out, drop_rev (by rw [← HN.out]; exact hkn) (by rw [HM.out]; exact hz), sets_push]
              have HYB := Lib.hid (HA.out.ok y (List.mem_of_getElem? hy))
              have HZB := Lib.hid (HA.out.ok z (List.mem_of_getElem? hz))
              have HLU : Hid ((setsG (l.take (k + 1))).length ≤ 20) := Nat.le_trans (setsG_len _) (by rw [List.length_take]; omega)
              have HLD : Hid ((setsG (l.drop (n - (k + 1))).reverse).length ≤ 20) := Nat.le_trans (setsG_len _) (by rw [List.length_reverse, List.length_drop]; have := HN.out; omega)
              clear hy hz hm hmz
              have HC8 : Hid (∀ W, Below wr.heap.size wr W → W.cell? ⟨b5, o5 + k * 4, none⟩ = some (.int .i64 y.p) ∧ W.cell? ⟨b5, o5 + k * 4 + 1, none⟩ = some (.int .i64 y.v) ∧ W.cell? ⟨b5, o5 + k * 4 + 2, none⟩ = some (.int .i64 y.t) ∧ W.cell? ⟨b5, o5 + k * 4 + 3, none⟩ = some (.int .i64 y.r) ∧ W.cell? ⟨b5, o5 + m * 4, none⟩ = some (.int .i64 z.p) ∧ W.cell? ⟨b5, o5 + m * 4 + 1, none⟩ = some (.int .i64 z.v) ∧ W.cell? ⟨b5, o5 + m * 4 + 2, none⟩ = some (.int .i64 z.t) ∧ W.cell? ⟨b5, o5 + m * 4 + 3, none⟩ = some (.int .i64 z.r)) := by
                intro W hb
                have f : ∀ (i : Nat) (u : Value), wr.cell? ⟨b5, i, none⟩ = some u → W.cell? ⟨b5, i, none⟩ = some u := fun i u h => (hb.cell (p := ⟨b5, i, none⟩) (World.block_lt_of_cell? _ _ h)).trans h
                exact ⟨f _ _ a0, f _ _ a1, f _ _ a2, f _ _ a3, f _ _ b0, f _ _ b1, f _ _ b2, f _ _ b3⟩
              have hW0 := HC8.out wr.drew ((Below.refl wr.heap.size wr)).drew
              obtain ⟨hw0_0, hw0_1, hw0_2, hw0_3, hw0_4, hw0_5, hw0_6, hw0_7⟩ := hW0
              have hW1 := HC8.out (wr.alloc (.cells #[.int .i64 0, .int .i64 0, .int .i64 0, .int .i64 0] 31)).drew (((Below.refl wr.heap.size wr).alloc ((Below.refl wr.heap.size wr)).size (.cells #[.int .i64 0, .int .i64 0, .int .i64 0, .int .i64 0] 31))).drew
              obtain ⟨hw1_0, hw1_1, hw1_2, hw1_3, hw1_4, hw1_5, hw1_6, hw1_7⟩ := hW1
              have hW2 := HC8.out (wr.alloc (objH y)).drew (((Below.refl wr.heap.size wr).alloc ((Below.refl wr.heap.size wr)).size (objH y))).drew
              obtain ⟨hw2_0, hw2_1, hw2_2, hw2_3, hw2_4, hw2_5, hw2_6, hw2_7⟩ := hW2
              have hW3 := HC8.out (wr.alloc (objH z)).drew (((Below.refl wr.heap.size wr).alloc ((Below.refl wr.heap.size wr)).size (objH z))).drew
              obtain ⟨hw3_0, hw3_1, hw3_2, hw3_3, hw3_4, hw3_5, hw3_6, hw3_7⟩ := hW3
              have hW4 := HC8.out ((wr.alloc (.cells #[.int .i64 0, .int .i64 0, .int .i64 0, .int .i64 0] 31)).alloc (.cells #[.int .i64 0, .int .i64 0, .int .i64 0, .int .i64 0] 31)).drew ((((Below.refl wr.heap.size wr).alloc ((Below.refl wr.heap.size wr)).size (.cells #[.int .i64 0, .int .i64 0, .int .i64 0, .int .i64 0] 31)).alloc (((Below.refl wr.heap.size wr).alloc ((Below.refl wr.heap.size wr)).size (.cells #[.int .i64 0, .int .i64 0, .int .i64 0, .int .i64 0] 31))).size (.cells #[.int .i64 0, .int .i64 0, .int .i64 0, .int .i64 0] 31))).drew
              obtain ⟨hw4_0, hw4_1, hw4_2, hw4_3, hw4_4, hw4_5, hw4_6, hw4_7⟩ := hW4
              have hW5 := HC8.out ((wr.alloc (objH y)).alloc (.cells #[.int .i64 0, .int .i64 0, .int .i64 0, .int .i64 0] 31)).drew ((((Below.refl wr.heap.size wr).alloc ((Below.refl wr.heap.size wr)).size (objH y)).alloc (((Below.refl wr.heap.size wr).alloc ((Below.refl wr.heap.size wr)).size (objH y))).size (.cells #[.int .i64 0, .int .i64 0, .int .i64 0, .int .i64 0] 31))).drew
              obtain ⟨hw5_0, hw5_1, hw5_2, hw5_3, hw5_4, hw5_5, hw5_6, hw5_7⟩ := hW5
              have hW6 := HC8.out ((wr.alloc (.cells #[.int .i64 0, .int .i64 0, .int .i64 0, .int .i64 0] 31)).alloc (objH z)).drew ((((Below.refl wr.heap.size wr).alloc ((Below.refl wr.heap.size wr)).size (.cells #[.int .i64 0, .int .i64 0, .int .i64 0, .int .i64 0] 31)).alloc (((Below.refl wr.heap.size wr).alloc ((Below.refl wr.heap.size wr)).size (.cells #[.int .i64 0, .int .i64 0, .int .i64 0, .int .i64 0] 31))).size (objH z))).drew
              obtain ⟨hw6_0, hw6_1, hw6_2, hw6_3, hw6_4, hw6_5, hw6_6, hw6_7⟩ := hW6
              have hW7 := HC8.out ((wr.alloc (objH y)).alloc (objH z)).drew ((((Below.refl wr.heap.size wr).alloc ((Below.refl wr.heap.size wr)).size (objH y)).alloc (((Below.refl wr.heap.size wr).alloc ((Below.refl wr.heap.size wr)).size (objH y))).size (objH z))).drew
              obtain ⟨hw7_0, hw7_1, hw7_2, hw7_3, hw7_4, hw7_5, hw7_6, hw7_7⟩ := hW7
              have hW8 := HC8.out ((wr.alloc (objH z)).alloc (.cells #[.int .i64 0, .int .i64 0, .int .i64 0, .int .i64 0] 31)).drew ((((Below.refl wr.heap.size wr).alloc ((Below.refl wr.heap.size wr)).size (objH z)).alloc (((Below.refl wr.heap.size wr).alloc ((Below.refl wr.heap.size wr)).size (objH z))).size (.cells #[.int .i64 0, .int .i64 0, .int .i64 0, .int .i64 0] 31))).drew
              obtain ⟨hw8_0, hw8_1, hw8_2, hw8_3, hw8_4, hw8_5, hw8_6, hw8_7⟩ := hW8
              have hW9 := HC8.out ((wr.alloc (.cells #[.int .i64 0, .int .i64 0, .int .i64 0, .int .i64 0] 31)).alloc (objH y)).drew ((((Below.refl wr.heap.size wr).alloc ((Below.refl wr.heap.size wr)).size (.cells #[.int .i64 0, .int .i64 0, .int .i64 0, .int .i64 0] 31)).alloc (((Below.refl wr.heap.size wr).alloc ((Below.refl wr.heap.size wr)).size (.cells #[.int .i64 0, .int .i64 0, .int .i64 0, .int .i64 0] 31))).size (objH y))).drew
              obtain ⟨hw9_0, hw9_1, hw9_2, hw9_3, hw9_4, hw9_5, hw9_6, hw9_7⟩ := hW9
              have hW10 := HC8.out ((wr.alloc (objH z)).alloc (objH y)).drew ((((Below.refl wr.heap.size wr).alloc ((Below.refl wr.heap.size wr)).size (objH z)).alloc (((Below.refl wr.heap.size wr).alloc ((Below.refl wr.heap.size wr)).size (objH z))).size (objH y))).drew
              obtain ⟨hw10_0, hw10_1, hw10_2, hw10_3, hw10_4, hw10_5, hw10_6, hw10_7⟩ := hW10
              go_wp2_with fail
              go_region
              · have hba := bel1 wr (objH y)
                have hbb := bel1 (wr.alloc (objH y)) (objH z)
                have HBW : Hid (Below wr.heap.size wr ((wr.alloc (objH y)).alloc (objH z)).drew) := (hba.trans (hbb.mono hba.size)).drew
                have HG1 : Hid (RgAt ((wr.alloc (objH y)).alloc (objH z)).drew wr.heap.size 0 y) := by
                  have h := (actH_new wr y).next hbb
                  exact ⟨h.c0, h.c1, h.c2, h.c3⟩
                have HG2 : Hid (RgAt ((wr.alloc (objH y)).alloc (objH z)).drew (wr.heap.size + 1) 0 z) := by
                  have h := actH_new (wr.alloc (objH y)) z
                  rw [World.size_alloc] at h
                  exact ⟨h.c0, h.c1, h.c2, h.c3⟩
                clear hba hbb HC8 hw0_0 hw0_1 hw0_2 hw0_3 hw0_4 hw0_5 hw0_6 hw0_7 hw1_0 hw1_1 hw1_2 hw1_3 hw1_4 hw1_5 hw1_6 hw1_7 hw2_0 hw2_1 hw2_2 hw2_3 hw2_4 hw2_5 hw2_6 hw2_7 hw3_0 hw3_1 hw3_2 hw3_3 hw3_4 hw3_5 hw3_6 hw3_7 hw4_0 hw4_1 hw4_2 hw4_3 hw4_4 hw4_5 hw4_6 hw4_7 hw5_0 hw5_1 hw5_2 hw5_3 hw5_4 hw5_5 hw5_6 hw5_7 hw6_0 hw6_1 hw6_2 hw6_3 hw6_4 hw6_5 hw6_6 hw6_7 hw7_0 hw7_1 hw7_2 hw7_3 hw7_4 hw7_5 hw7_6 hw7_7 hw8_0 hw8_1 hw8_2 hw8_3 hw8_4 hw8_5 hw8_6 hw8_7 hw9_0 hw9_1 hw9_2 hw9_3 hw9_4 hw9_5 hw9_6 hw9_7 hw10_0 hw10_1 hw10_2 hw10_3 hw10_4 hw10_5 hw10_6 hw10_7
                generalize ((wr.alloc (objH y)).alloc (objH z)).drew = W2 at *
                generalize hg2 : wr.heap.size + 1 = gb at HG2 ⊢
                generalize hg1 : wr.heap.size = ga at HG1 ⊢
                clear hg1 hg2
                have HJx := Lib.hid (HJ.out.trans (HBW.out.mono HJ.out.size))
                clear HJ
                have HJ := HJx
                clear HJx
                have HBjx := Lib.hid (HBj.out.trans (HBW.out.mono HBj.out.size))
                clear HBj
                have HBj := HBjx
                clear HBjx
                have HUx := Lib.hid (HU.out.next HBW.out)
                clear HU
                have HU := HUx
                clear HUx
                have HDx := Lib.hid (HD.out.next HBW.out)
                clear HD
                have HD := HDx
                clear HDx
                have HODx := Lib.hid (HOD.out.next HBW.out)
                clear HOD
                have HOD := HODx
                clear HODx
                have HEVx := Lib.hid (HEV.out.next HBW.out)
                clear HEV
                have HEV := HEVx
                clear HEVx
                obtain ⟨x0, x1, x2, x3⟩ := HG1.out
                obtain ⟨y0, y1, y2, y3⟩ := HG2.out
                go_wp2_with fail
                refine (set_cu (HT.out _ (HBj.out)) HU.out (HRG.out _ fun x hx => List.mem_of_mem_take hx) HYB.out HNU.out.symm HLU.out).mono ?_
                rintro e v1 ⟨nua, nun, nuc, rfl, hcu, hb⟩
                clear x0 x1 x2 x3 y0 y1 y2 y3 HU
                have HJx := Lib.hid (HJ.out.trans (hb.mono HJ.out.size))
                have HBjx := Lib.hid (HBj.out.trans (hb.mono HBj.out.size))
                have HDx := Lib.hid (HD.out.next hb)
                have HODx := Lib.hid (HOD.out.next hb)
                have HEVx := Lib.hid (HEV.out.next hb)
                have HG1x := Lib.hid (HG1.out.next hb)
                have HG2x := Lib.hid (HG2.out.next hb)
                clear HJ HBj HD HOD HEV HG1 HG2
                have HJ := HJx
                have HBj := HBjx
                have HD := HDx
                have HOD := HODx
                have HEV := HEVx
                have HG1 := HG1x
                have HG2 := HG2x
                clear HJx HBjx HDx HODx HEVx HG1x HG2x
                have HU2 := Lib.hid hcu
                clear hb hcu
                obtain ⟨x0, x1, x2, x3⟩ := HG1.out
                obtain ⟨y0, y1, y2, y3⟩ := HG2.out
                go_wp2_with fail
                refine (set_cu (HT.out _ (HBj.out)) HD.out (HRG.out _ fun x hx => List.mem_of_mem_drop (List.mem_reverse.1 hx)) HZB.out HND.out.symm HLD.out).mono ?_
                rintro e v2 ⟨nda, ndn, ndc, rfl, hcu, hb⟩
                clear x0 x1 x2 x3 y0 y1 y2 y3 HD
                have HJx := Lib.hid (HJ.out.trans (hb.mono HJ.out.size))
                have HBjx := Lib.hid (HBj.out.trans (hb.mono HBj.out.size))
                have HODx := Lib.hid (HOD.out.next hb)
                have HEVx := Lib.hid (HEV.out.next hb)
                have HG1x := Lib.hid (HG1.out.next hb)
                have HG2x := Lib.hid (HG2.out.next hb)
                have HU2x := Lib.hid (HU2.out.next hb)
                clear HJ HBj HOD HEV HG1 HG2 HU2
                have HJ := HJx
                have HBj := HBjx
                have HOD := HODx
                have HEV := HEVx
                have HG1 := HG1x
                have HG2 := HG2x
                have HU2 := HU2x
                clear HJx HBjx HODx HEVx HG1x HG2x HU2x
                have HD2 := Lib.hid hcu
                clear hb hcu
                go_wp2_with fail
                refine (num15_any 0 _).mono ?_
                rintro e wn ⟨rfl, rfl⟩
                go_wp2_with fail
                refine (num15_any 0 _).mono ?_
                rintro e wn ⟨rfl, rfl⟩
                by_cases hp : k % 2 = 0
                · have hpar : (k : Int).tmod 2 = 0 := by rw [Int.tmod_eq_emod_of_nonneg (by omega)]; omega
                  have HEE : Hid (setsG (evL l (k + 1)) = mergeG (setsG (evL l k)) [y] ∧ setsG (odL l (k + 1)) = setsG (odL l k)) := ⟨by rw [(evL_yes HY.out hp).1, sets_push], by rw [(evL_yes HY.out hp).2]⟩
                  obtain ⟨x0, x1, x2, x3⟩ := HG1.out
                  obtain ⟨y0, y1, y2, y3⟩ := HG2.out
                  go_wp2_with fail
                  refine (set_cu (HT.out _ (HBj.out)) HEV.out (HRG.out _ fun x hx => ev_sub hx) HYB.out HEE.out.1.symm (Nat.le_trans (setsG_len _) (Nat.le_trans (ev_len l (k + 1)).1 (by omega)))).mono ?_
                  rintro e v3 ⟨nea, nen, nec, rfl, hcu, hb⟩
                  clear x0 x1 x2 x3 y0 y1 y2 y3 HEV
                  have HJx := Lib.hid (HJ.out.trans (hb.mono HJ.out.size))
                  have HBjx := Lib.hid (HBj.out.trans (hb.mono HBj.out.size))
                  have HODx := Lib.hid (HOD.out.next hb)
                  have HG1x := Lib.hid (HG1.out.next hb)
                  have HG2x := Lib.hid (HG2.out.next hb)
                  have HU2x := Lib.hid (HU2.out.next hb)
                  have HD2x := Lib.hid (HD2.out.next hb)
                  clear HJ HBj HOD HG1 HG2 HU2 HD2
                  have HJ := HJx
                  have HBj := HBjx
                  have HOD := HODx
                  have HG1 := HG1x
                  have HG2 := HG2x
                  have HU2 := HU2x
                  have HD2 := HD2x
                  clear HJx HBjx HODx HG1x HG2x HU2x HD2x
                  have HEV2 := Lib.hid hcu
                  clear hb hcu
                  go_wp2_with fail
                  refine (num15_any 0 _).mono ?_
                  rintro e wn ⟨rfl, rfl⟩
                  go_wp2_with fail
                  go_roundg (n - (k + 1))
                  case measure => omega
                  case rel => exact ⟨k + 1, nua, nun, nuc, nda, ndn, ndc, oa, on, oc, nea, nen, nec, rfl, rfl, rfl, rfl, by go_num, by omega, by omega, HU2.out, HD2.out, by rw [HEE.out.2]; exact HOD.out, HEV2.out, HJ.out⟩
                · have hpar : (k : Int).tmod 2 = 1 := by rw [Int.tmod_eq_emod_of_nonneg (by omega)]; omega
                  have HEE : Hid (setsG (odL l (k + 1)) = mergeG (setsG (odL l k)) [y] ∧ setsG (evL l (k + 1)) = setsG (evL l k)) := ⟨by rw [(evL_no HY.out hp).2, sets_push], by rw [(evL_no HY.out hp).1]⟩
                  obtain ⟨x0, x1, x2, x3⟩ := HG1.out
                  obtain ⟨y0, y1, y2, y3⟩ := HG2.out
                  go_wp2_with fail
                  refine (set_cu (HT.out _ (HBj.out)) HOD.out (HRG.out _ fun x hx => od_sub hx) HYB.out HEE.out.1.symm (Nat.le_trans (setsG_len _) (Nat.le_trans (ev_len l (k + 1)).2 (by omega)))).mono ?_
                  rintro e v3 ⟨noa, non, noc, rfl, hcu, hb⟩
                  clear x0 x1 x2 x3 y0 y1 y2 y3 HOD
                  have HJx := Lib.hid (HJ.out.trans (hb.mono HJ.out.size))
                  have HBjx := Lib.hid (HBj.out.trans (hb.mono HBj.out.size))
                  have HEVx := Lib.hid (HEV.out.next hb)
                  have HG1x := Lib.hid (HG1.out.next hb)
                  have HG2x := Lib.hid (HG2.out.next hb)
                  have HU2x := Lib.hid (HU2.out.next hb)
                  have HD2x := Lib.hid (HD2.out.next hb)
                  clear HJ HBj HEV HG1 HG2 HU2 HD2
                  have HJ := HJx
                  have HBj := HBjx
                  have HEV := HEVx
                  have HG1 := HG1x
                  have HG2 := HG2x
                  have HU2 := HU2x
                  have HD2 := HD2x
                  clear HJx HBjx HEVx HG1x HG2x HU2x HD2x
                  have HOD2 := Lib.hid hcu
                  clear hb hcu
                  go_wp2_with fail
                  refine (num15_any 0 _).mono ?_
                  rintro e wn ⟨rfl, rfl⟩
                  go_wp2_with fail
                  go_roundg (n - (k + 1))
                  case measure => omega
                  case rel => exact ⟨k + 1, nua, nun, nuc, nda, ndn, ndc, noa, non, noc, ea, en, ec, rfl, rfl, rfl, rfl, by go_num, by omega, by omega, HU2.out, HD2.out, HOD2.out, by rw [HEE.out.2]; exact HEV.out, HJ.out⟩
              · have hba := bel1 wr (objH z)
                have hbb := bel1 (wr.alloc (objH z)) (objH y)
                have HBW : Hid (Below wr.heap.size wr ((wr.alloc (objH z)).alloc (objH y)).drew) := (hba.trans (hbb.mono hba.size)).drew
                have HG2 : Hid (RgAt ((wr.alloc (objH z)).alloc (objH y)).drew wr.heap.size 0 z) := by
                  have h := (actH_new wr z).next hbb
                  exact ⟨h.c0, h.c1, h.c2, h.c3⟩
                have HG1 : Hid (RgAt ((wr.alloc (objH z)).alloc (objH y)).drew (wr.heap.size + 1) 0 y) := by
                  have h := actH_new (wr.alloc (objH z)) y
                  rw [World.size_alloc] at h
                  exact ⟨h.c0, h.c1, h.c2, h.c3⟩
                clear hba hbb HC8 hw0_0 hw0_1 hw0_2 hw0_3 hw0_4 hw0_5 hw0_6 hw0_7 hw1_0 hw1_1 hw1_2 hw1_3 hw1_4 hw1_5 hw1_6 hw1_7 hw2_0 hw2_1 hw2_2 hw2_3 hw2_4 hw2_5 hw2_6 hw2_7 hw3_0 hw3_1 hw3_2 hw3_3 hw3_4 hw3_5 hw3_6 hw3_7 hw4_0 hw4_1 hw4_2 hw4_3 hw4_4 hw4_5 hw4_6 hw4_7 hw5_0 hw5_1 hw5_2 hw5_3 hw5_4 hw5_5 hw5_6 hw5_7 hw6_0 hw6_1 hw6_2 hw6_3 hw6_4 hw6_5 hw6_6 hw6_7 hw7_0 hw7_1 hw7_2 hw7_3 hw7_4 hw7_5 hw7_6 hw7_7 hw8_0 hw8_1 hw8_2 hw8_3 hw8_4 hw8_5 hw8_6 hw8_7 hw9_0 hw9_1 hw9_2 hw9_3 hw9_4 hw9_5 hw9_6 hw9_7 hw10_0 hw10_1 hw10_2 hw10_3 hw10_4 hw10_5 hw10_6 hw10_7
                generalize ((wr.alloc (objH z)).alloc (objH y)).drew = W2 at *
                generalize hg2 : wr.heap.size + 1 = gb at HG1 ⊢
                generalize hg1 : wr.heap.size = ga at HG2 ⊢
                clear hg1 hg2
                have HJx := Lib.hid (HJ.out.trans (HBW.out.mono HJ.out.size))
                clear HJ
                have HJ := HJx
                clear HJx
                have HBjx := Lib.hid (HBj.out.trans (HBW.out.mono HBj.out.size))
                clear HBj
                have HBj := HBjx
                clear HBjx
                have HUx := Lib.hid (HU.out.next HBW.out)
                clear HU
                have HU := HUx
                clear HUx
                have HDx := Lib.hid (HD.out.next HBW.out)
                clear HD
                have HD := HDx
                clear HDx
                have HODx := Lib.hid (HOD.out.next HBW.out)
                clear HOD
                have HOD := HODx
                clear HODx
                have HEVx := Lib.hid (HEV.out.next HBW.out)
                clear HEV
                have HEV := HEVx
                clear HEVx
                obtain ⟨x0, x1, x2, x3⟩ := HG1.out
                obtain ⟨y0, y1, y2, y3⟩ := HG2.out
                go_wp2_with fail
                refine (set_cu (HT.out _ (HBj.out)) HU.out (HRG.out _ fun x hx => List.mem_of_mem_take hx) HYB.out HNU.out.symm HLU.out).mono ?_
                rintro e v1 ⟨nua, nun, nuc, rfl, hcu, hb⟩
                clear x0 x1 x2 x3 y0 y1 y2 y3 HU
                have HJx := Lib.hid (HJ.out.trans (hb.mono HJ.out.size))
                have HBjx := Lib.hid (HBj.out.trans (hb.mono HBj.out.size))
                have HDx := Lib.hid (HD.out.next hb)
                have HODx := Lib.hid (HOD.out.next hb)
                have HEVx := Lib.hid (HEV.out.next hb)
                have HG1x := Lib.hid (HG1.out.next hb)
                have HG2x := Lib.hid (HG2.out.next hb)
                clear HJ HBj HD HOD HEV HG1 HG2
                have HJ := HJx
                have HBj := HBjx
                have HD := HDx
                have HOD := HODx
                have HEV := HEVx
                have HG1 := HG1x
                have HG2 := HG2x
                clear HJx HBjx HDx HODx HEVx HG1x HG2x
                have HU2 := Lib.hid hcu
                clear hb hcu
                obtain ⟨x0, x1, x2, x3⟩ := HG1.out
                obtain ⟨y0, y1, y2, y3⟩ := HG2.out
                go_wp2_with fail
                refine (set_cu (HT.out _ (HBj.out)) HD.out (HRG.out _ fun x hx => List.mem_of_mem_drop (List.mem_reverse.1 hx)) HZB.out HND.out.symm HLD.out).mono ?_
                rintro e v2 ⟨nda, ndn, ndc, rfl, hcu, hb⟩
                clear x0 x1 x2 x3 y0 y1 y2 y3 HD
                have HJx := Lib.hid (HJ.out.trans (hb.mono HJ.out.size))
                have HBjx := Lib.hid (HBj.out.trans (hb.mono HBj.out.size))
                have HODx := Lib.hid (HOD.out.next hb)
                have HEVx := Lib.hid (HEV.out.next hb)
                have HG1x := Lib.hid (HG1.out.next hb)
                have HG2x := Lib.hid (HG2.out.next hb)
                have HU2x := Lib.hid (HU2.out.next hb)
                clear HJ HBj HOD HEV HG1 HG2 HU2
                have HJ := HJx
                have HBj := HBjx
                have HOD := HODx
                have HEV := HEVx
                have HG1 := HG1x
                have HG2 := HG2x
                have HU2 := HU2x
                clear HJx HBjx HODx HEVx HG1x HG2x HU2x
                have HD2 := Lib.hid hcu
                clear hb hcu
                go_wp2_with fail
                refine (num15_any 0 _).mono ?_
                rintro e wn ⟨rfl, rfl⟩
                go_wp2_with fail
                refine (num15_any 0 _).mono ?_
                rintro e wn ⟨rfl, rfl⟩
                by_cases hp : k % 2 = 0
                · have hpar : (k : Int).tmod 2 = 0 := by rw [Int.tmod_eq_emod_of_nonneg (by omega)]; omega
                  have HEE : Hid (setsG (evL l (k + 1)) = mergeG (setsG (evL l k)) [y] ∧ setsG (odL l (k + 1)) = setsG (odL l k)) := ⟨by rw [(evL_yes HY.out hp).1, sets_push], by rw [(evL_yes HY.out hp).2]⟩
                  obtain ⟨x0, x1, x2, x3⟩ := HG1.out
                  obtain ⟨y0, y1, y2, y3⟩ := HG2.out
                  go_wp2_with fail
                  refine (set_cu (HT.out _ (HBj.out)) HEV.out (HRG.out _ fun x hx => ev_sub hx) HYB.out HEE.out.1.symm (Nat.le_trans (setsG_len _) (Nat.le_trans (ev_len l (k + 1)).1 (by omega)))).mono ?_
                  rintro e v3 ⟨nea, nen, nec, rfl, hcu, hb⟩
                  clear x0 x1 x2 x3 y0 y1 y2 y3 HEV
                  have HJx := Lib.hid (HJ.out.trans (hb.mono HJ.out.size))
                  have HBjx := Lib.hid (HBj.out.trans (hb.mono HBj.out.size))
                  have HODx := Lib.hid (HOD.out.next hb)
                  have HG1x := Lib.hid (HG1.out.next hb)
                  have HG2x := Lib.hid (HG2.out.next hb)
                  have HU2x := Lib.hid (HU2.out.next hb)
                  have HD2x := Lib.hid (HD2.out.next hb)
                  clear HJ HBj HOD HG1 HG2 HU2 HD2
                  have HJ := HJx
                  have HBj := HBjx
                  have HOD := HODx
                  have HG1 := HG1x
                  have HG2 := HG2x
                  have HU2 := HU2x
                  have HD2 := HD2x
                  clear HJx HBjx HODx HG1x HG2x HU2x HD2x
                  have HEV2 := Lib.hid hcu
                  clear hb hcu
                  go_wp2_with fail
                  refine (num15_any 0 _).mono ?_
                  rintro e wn ⟨rfl, rfl⟩
                  go_wp2_with fail
                  go_roundg (n - (k + 1))
                  case measure => omega
                  case rel => exact ⟨k + 1, nua, nun, nuc, nda, ndn, ndc, oa, on, oc, nea, nen, nec, rfl, rfl, rfl, rfl, by go_num, by omega, by omega, HU2.out, HD2.out, by rw [HEE.out.2]; exact HOD.out, HEV2.out, HJ.out⟩
                · have hpar : (k : Int).tmod 2 = 1 := by rw [Int.tmod_eq_emod_of_nonneg (by omega)]; omega
                  have HEE : Hid (setsG (odL l (k + 1)) = mergeG (setsG (odL l k)) [y] ∧ setsG (evL l (k + 1)) = setsG (evL l k)) := ⟨by rw [(evL_no HY.out hp).2, sets_push], by rw [(evL_no HY.out hp).1]⟩
                  obtain ⟨x0, x1, x2, x3⟩ := HG1.out
                  obtain ⟨y0, y1, y2, y3⟩ := HG2.out
                  go_wp2_with fail
                  refine (set_cu (HT.out _ (HBj.out)) HOD.out (HRG.out _ fun x hx => od_sub hx) HYB.out HEE.out.1.symm (Nat.le_trans (setsG_len _) (Nat.le_trans (ev_len l (k + 1)).2 (by omega)))).mono ?_
                  rintro e v3 ⟨noa, non, noc, rfl, hcu, hb⟩
                  clear x0 x1 x2 x3 y0 y1 y2 y3 HOD
                  have HJx := Lib.hid (HJ.out.trans (hb.mono HJ.out.size))
                  have HBjx := Lib.hid (HBj.out.trans (hb.mono HBj.out.size))
                  have HEVx := Lib.hid (HEV.out.next hb)
                  have HG1x := Lib.hid (HG1.out.next hb)
                  have HG2x := Lib.hid (HG2.out.next hb)
                  have HU2x := Lib.hid (HU2.out.next hb)
                  have HD2x := Lib.hid (HD2.out.next hb)
                  clear HJ HBj HEV HG1 HG2 HU2 HD2
                  have HJ := HJx
                  have HBj := HBjx
                  have HEV := HEVx
                  have HG1 := HG1x
                  have HG2 := HG2x
                  have HU2 := HU2x
                  have HD2 := HD2x
                  clear HJx HBjx HEVx HG1x HG2x HU2x HD2x
                  have HOD2 := Lib.hid hcu
                  clear hb hcu
                  go_wp2_with fail
                  refine (num15_any 0 _).mono ?_
                  rintro e wn ⟨rfl, rfl⟩
                  go_wp2_with fail
                  go_roundg (n - (k + 1))
                  case measure => omega
                  case rel => exact ⟨k + 1, nua, nun, nuc, nda, ndn, ndc, noa, non, noc, ea, en, ec, rfl, rfl, rfl, rfl, by go_num, by omega, by omega, HU2.out, HD2.out, HOD2.out, by rw [HEE.out.2]; exact HEV.out, HJ.out⟩
            · obtain rfl : n = k := by omega
              have hknz : ¬ (n : Int) < (n : Int) := by omega
              obtain ⟨w6, hw6⟩ : ∃ w6, w6 = wr := ⟨_, rfl⟩
              subst hw6
              have HORD := Lib.hid (orders HA.out.dist)
              have HU3 : Hid (CuR w6 ua un uc (setsG l)) := by have h := HU.out; rw [List.take_of_length_le (by rw [HN.out]; exact Nat.le_refl _)] at h; exact h
              have HD3 : Hid (CuR w6 da dn dc (setsG l)) := by have h := HD.out; rw [Nat.sub_self, List.drop_zero, HORD.out.1] at h; exact h
              have HO3 : Hid (CuR w6 oa on oc (setsG (odL l l.length))) := by have h := HOD.out; rw [HN.out] at h; exact h
              have HE3 : Hid (CuR w6 ea en ec (setsG (evL l l.length))) := by have h := HEV.out; rw [HN.out] at h; exact h
              have HLL : Hid ((setsG l).length ≤ 20) := Nat.le_trans (setsG_len _) (by rw [← HN.out]; exact hn20)
              have HR1 := Lib.hid (HRG.out l fun x hx => hx)
              have HR2 := Lib.hid (HRG.out (evL l l.length) fun x hx => ev_sub hx)
              have HR3 := Lib.hid (HRG.out (odL l l.length) fun x hx => od_sub hx)
              have HRL := Lib.hid (HLR.out.next HJ.out)
              clear HU HD HOD HEV HJ
              go_wp2_with fail
              refine (merge_cu (HT.out _ HBj.out) HE3.out HO3.out HR2.out HR3.out HORD.out.2.1 HLL.out).mono ?_
              rintro e v1 ⟨ma, mn, mc, rfl, hcu, hb⟩
              have HBjx := Lib.hid (HBj.out.trans (hb.mono HBj.out.size))
              have HU3x := Lib.hid (HU3.out.next hb)
              have HD3x := Lib.hid (HD3.out.next hb)
              have HO3x := Lib.hid (HO3.out.next hb)
              have HE3x := Lib.hid (HE3.out.next hb)
              have HRLx := Lib.hid (HRL.out.next hb)
              clear HBj HU3 HD3 HO3 HE3 HRL
              have HBj := HBjx
              have HU3 := HU3x
              have HD3 := HD3x
              have HO3 := HO3x
              have HE3 := HE3x
              have HRL := HRLx
              clear HBjx HU3x HD3x HO3x HE3x HRLx
              have HM1 := Lib.hid hcu
              clear hb hcu
              go_wp2_with fail
              refine (merge_cu (HT.out _ HBj.out) HO3.out HE3.out HR3.out HR2.out HORD.out.2.2 HLL.out).mono ?_
              rintro e v2 ⟨wa, wn, wc, rfl, hcu, hb⟩
              have HBjx := Lib.hid (HBj.out.trans (hb.mono HBj.out.size))
              have HU3x := Lib.hid (HU3.out.next hb)
              have HD3x := Lib.hid (HD3.out.next hb)
              have HO3x := Lib.hid (HO3.out.next hb)
              have HE3x := Lib.hid (HE3.out.next hb)
              have HRLx := Lib.hid (HRL.out.next hb)
              have HM1x := Lib.hid (HM1.out.next hb)
              clear HBj HU3 HD3 HO3 HE3 HRL HM1
              have HBj := HBjx
              have HU3 := HU3x
              have HD3 := HD3x
              have HO3 := HO3x
              have HE3 := HE3x
              have HRL := HRLx
              have HM1 := HM1x
              clear HBjx HU3x HD3x HO3x HE3x HRLx HM1x
              have HM2 := Lib.hid hcu
              clear hb hcu
              go_wp2_with fail
              refine (num15_any 0 _).mono ?_
              rintro e wn ⟨rfl, rfl⟩
              go_wp2_with fail
              refine (num15_any 0 _).mono ?_
              rintro e wn ⟨rfl, rfl⟩
              go_wp2_with fail
              refine (eq_cu HU3.out HD3.out).mono ?_
              rintro e v3 ⟨rfl, hb⟩
              have HBjx := Lib.hid (HBj.out.trans (hb.mono HBj.out.size))
              have HU3x := Lib.hid (HU3.out.next hb)
              have HD3x := Lib.hid (HD3.out.next hb)
              have HO3x := Lib.hid (HO3.out.next hb)
              have HE3x := Lib.hid (HE3.out.next hb)
              have HRLx := Lib.hid (HRL.out.next hb)
              have HM1x := Lib.hid (HM1.out.next hb)
              have HM2x := Lib.hid (HM2.out.next hb)
              clear HBj HU3 HD3 HO3 HE3 HRL HM1 HM2
              have HBj := HBjx
              have HU3 := HU3x
              have HD3 := HD3x
              have HO3 := HO3x
              have HE3 := HE3x
              have HRL := HRLx
              have HM1 := HM1x
              have HM2 := HM2x
              clear HBjx HU3x HD3x HO3x HE3x HRLx HM1x HM2x
              clear hb
              go_wp2_with fail
              refine (eq_cu HM1.out HU3.out).mono ?_
              rintro e v4 ⟨rfl, hb⟩
              have HBjx := Lib.hid (HBj.out.trans (hb.mono HBj.out.size))
              have HU3x := Lib.hid (HU3.out.next hb)
              have HD3x := Lib.hid (HD3.out.next hb)
              have HO3x := Lib.hid (HO3.out.next hb)
              have HE3x := Lib.hid (HE3.out.next hb)
              have HRLx := Lib.hid (HRL.out.next hb)
              have HM1x := Lib.hid (HM1.out.next hb)
              have HM2x := Lib.hid (HM2.out.next hb)
              clear HBj HU3 HD3 HO3 HE3 HRL HM1 HM2
              have HBj := HBjx
              have HU3 := HU3x
              have HD3 := HD3x
              have HO3 := HO3x
              have HE3 := HE3x
              have HRL := HRLx
              have HM1 := HM1x
              have HM2 := HM2x
              clear HBjx HU3x HD3x HO3x HE3x HRLx HM1x HM2x
              clear hb
              go_wp2_with fail
              refine (eq_cu HM2.out HU3.out).mono ?_
              rintro e v5 ⟨rfl, hb⟩
              have HBjx := Lib.hid (HBj.out.trans (hb.mono HBj.out.size))
              have HU3x := Lib.hid (HU3.out.next hb)
              have HD3x := Lib.hid (HD3.out.next hb)
              have HO3x := Lib.hid (HO3.out.next hb)
              have HE3x := Lib.hid (HE3.out.next hb)
              have HRLx := Lib.hid (HRL.out.next hb)
              have HM1x := Lib.hid (HM1.out.next hb)
              have HM2x := Lib.hid (HM2.out.next hb)
              clear HBj HU3 HD3 HO3 HE3 HRL HM1 HM2
              have HBj := HBjx
              have HU3 := HU3x
              have HD3 := HD3x
              have HO3 := HO3x
              have HE3 := HE3x
              have HRL := HRLx
              have HM1 := HM1x
              have HM2 := HM2x
              clear HBjx HU3x HD3x HO3x HE3x HRLx HM1x HM2x
              clear hb
              clear HD3 HO3 HE3 HM1 HM2
              go_wp2_with fail
              go_loopg [21, 22, 23, 24, 25] 19 (fun gg s21 _ _ _ _ wr => ∃ q : Nat, s21 = .int .i64 q ∧ q ≤ 19 ∧ 19 - q ≤ gg ∧ Hid (Below v5.heap.size v5 wr))
              case atStart => exact ⟨0, rfl, by omega, by omega, Below.refl _ _⟩
              case round =>
                obtain ⟨q, rfl, hq19, hgk3, HQ⟩ := hrel
                obtain ⟨w8, hw8⟩ : ∃ w8, w8 = wr := ⟨_, rfl⟩
                subst hw8
                have HB8 := Lib.hid (HBj.out.trans (HQ.out.mono HBj.out.size))
                by_cases hq : q < 19
                · have hqz : (q : Int) < 19 := by omega
                  go_wp2_with fail
                  go_loopg [22, 23] n (fun gg s22 s23 wr => ∃ (k2 : Nat) (z2 : Int), s23 = .int .i64 k2 ∧ s22 = .int .i64 z2 ∧ k2 ≤ n ∧ n - k2 ≤ gg ∧ Hid (LastG l q k2 z2) ∧ Hid (Below w8.heap.size w8 wr))
                  case atStart => exact ⟨0, -1, rfl, rfl, Nat.zero_le _, by omega, LastG.zero _ _, Below.refl _ _⟩
                  case round =>
                    obtain ⟨k2, z2, rfl, rfl, hk2, hgk4, HL2, HP⟩ := hrel
                    have HPQ := Lib.hid (HQ.out.trans (HP.out.mono HQ.out.size))
                    by_cases hk2n : k2 < n
                    · have hk2z : (k2 : Int) < (n : Int) := by omega
                      obtain ⟨y, hy⟩ : ∃ y, l[k2]? = some y := ⟨_, List.getElem?_eq_getElem (by rw [← HN.out]; exact hk2n)⟩
                      obtain ⟨b7, o7, rfl, hat⟩ := (HRL.out.next HPQ.out) k2 y hy
                      have HY := Lib.hid hy
                      obtain ⟨a0, a1, a2, a3⟩ := hat
                      clear hy
                      by_cases hyp : y.p = q
                      · have hyb : (y.p == (q : Int)) = true := by simpa using hyp
                        have HL3 := Lib.hid (HL2.out.yes HY.out hyp)
                        go_wp2_with fail
                        go_roundg (n - (k2 + 1))
                        case measure => omega
                        case rel => exact ⟨k2 + 1, k2, by go_num, rfl, by omega, by omega, HL3.out, HP.out⟩
                      · have hyb : (y.p == (q : Int)) = false := by simpa using hyp
                        have HL3 := Lib.hid (HL2.out.no HY.out hyp)
                        go_wp2_with fail
                        go_roundg (n - (k2 + 1))
                        case measure => omega
                        case rel => exact ⟨k2 + 1, z2, by go_num, rfl, by omega, by omega, HL3.out, HP.out⟩
                    · obtain rfl : n = k2 := by omega
                      have hk2z : ¬ (n : Int) < (n : Int) := by omega
                      have HUQ := Lib.hid (HU3.out.next HPQ.out)
                      have HBQ := Lib.hid (HBj.out.trans (HPQ.out.mono HBj.out.size))
                      have CG := Lib.hid (get_yes ua (setsG l) un uc q wr (HT.out _ HBQ.out) HUQ.out.row HUQ.out.len (by have := HUQ.out.bnd; have := HUQ.out.len; omega) HR1.out)
                      rcases last_top (p := (q : Int)) HA.out (by have h := HL2.out; rw [HN.out] at h; exact h) with ⟨rfl, ho⟩ | ⟨j, y, rfl, hy, ho⟩
                      · rw [ho] at CG
                        clear ho
                        go_wp2_with fail
                        refine (CG.out).mono ?_
                        rintro e w9 ⟨rfl, hb⟩
                        have HQ9 := Lib.hid (HPQ.out.trans (hb.mono HPQ.out.size))
                        clear hb CG
                        simp only [valZ, errZ]
                        go_wp2_with fail
                        refine (num15_any 3 _).mono ?_
                        rintro e wn ⟨rfl, rfl⟩
                        go_wp2_with fail
                        go_roundg (19 - (q + 1))
                        case measure => omega
                        case rel => exact ⟨q + 1, by go_num, by omega, by omega, HQ9.out⟩
                      · rw [ho] at CG
                        clear ho
                        have hj0 : decide ((j : Int) < 0) = false := decide_eq_false (by omega)
                        have hj0' : ¬ (j : Int) < 0 := by omega
                        have hj1 : decide (0 ≤ (j : Int)) = true := decide_eq_true (by omega)
                        have hjn : (j : Int) < (n : Int) := by have h1 := (List.getElem?_eq_some_iff.1 hy).1; have h2 := HN.out; omega
                        have hjn' : j < n := by omega
                        have hvv : (y.v != y.v) = false := by simp
                        have HY := Lib.hid hy
                        clear hy
                        go_wp2_with fail
                        refine (CG.out).mono ?_
                        rintro e w9 ⟨rfl, hb⟩
                        have HQ9 := Lib.hid (HPQ.out.trans (hb.mono HPQ.out.size))
                        clear hb CG
                        obtain ⟨b7, o7, rfl, hat⟩ := (HRL.out.next HQ9.out) j y HY.out
                        obtain ⟨a0, a1, a2, a3⟩ := hat
                        simp only [valZ, errZ]
                        go_wp2_with fail
                        refine (num15_any 0 _).mono ?_
                        rintro e wn ⟨rfl, rfl⟩
                        go_wp2_with fail
                        go_roundg (19 - (q + 1))
                        case measure => omega
                        case rel => exact ⟨q + 1, by go_num, by omega, by omega, HQ9.out⟩
                · have hqz : ¬ (q : Int) < 19 := by omega
                  have HB := HB8
                  go_wp2_with fail
                  refine (CW.out _ HB.out).mono ?_
                  rintro e wz ⟨rfl, hb⟩
                  have HBz := Lib.hid (HB.out.trans (hb.mono HB.out.size))
                  clear hb
                  go_wp2
                  go_ret
                  exact ⟨rfl, HBz.out⟩
      · have hinz : decide ((i : Int) < (ln : Int)) = false := decide_eq_false (by omega)
        have hiny : ¬ (i : Int) < (ln : Int) := by omega
        obtain ⟨w5, hw5⟩ : ∃ w5, w5 = wr := ⟨_, rfl⟩
        subst hw5
        obtain ⟨la2, n, c2, rfl, hn, -, hrow⟩ := HO.out.form
        have HLR := Lib.hid hrow
        have HN := Lib.hid hn
        have HN20 : Hid (n ≤ 20) := by have := HA.out.len; show _ ≤ _; omega
        have hn20 : n ≤ 20 := HN20.out
        have HKC : Hid (∀ W, Below w5.heap.size w5 W → Below w.heap.size w W) := fun W hb => HBi.out.trans (hb.mono HBi.out.size)
        have HRG : Hid (∀ xs : List RgD, (∀ x ∈ xs, x ∈ l) → regsB (setsG xs) = true) := fun xs h => setsG_regs fun x hx => HA.out.ok x (h x hx)
        clear hn hrow HO HBi
        go_wp2_with fail
        clear s0 s1 s2
        go_loopg [6, 7, 8, 9, 10, 11, 12, 13, 14, 15, 16] n (fun gg s6 s7 s8 s9 s10 _ _ _ _ _ _ wr => ∃ (k : Nat) (ua : Option Addr) (un uc : Nat) (da : Option Addr) (dn dc : Nat) (oa : Option Addr) (on oc : Nat) (ea : Option Addr) (en ec : Nat), s6 = .slice ua un uc ∧ s7 = .slice da dn dc ∧ s8 = .slice oa on oc ∧ s9 = .slice ea en ec ∧ s10 = .int .i64 k ∧ k ≤ n ∧ n - k ≤ gg ∧ Hid (CuR wr ua un uc (setsG (l.take k))) ∧ Hid (CuR wr da dn dc (setsG (l.drop (n - k)).reverse)) ∧ Hid (CuR wr oa on oc (setsG (odL l k))) ∧ Hid (CuR wr ea en ec (setsG (evL l k))) ∧ Hid (Below w5.heap.size w5 wr))
        case atStart => exact ⟨0, none, 0, 0, none, 0, 0, none, 0, 0, none, 0, 0, rfl, rfl, rfl, rfl, rfl, Nat.zero_le _, by omega, by rw [List.take_zero]; exact CuR.nil _, by rw [Nat.sub_zero, HN.out, List.drop_length]; exact CuR.nil _, CuR.nil _, CuR.nil _, Below.refl _ _⟩
        case round =>
          obtain ⟨k, ua, un, uc, da, dn, dc, oa, on, oc, ea, en, ec, rfl, rfl, rfl, rfl, rfl, hk, hgk2, HU, HD, HOD, HEV, HJ⟩ := hrel
          have HBj := Lib.hid (HKC.out _ HJ.out)
          by_cases hkn : k < n
          · have hknz : (k : Int) < (n : Int) := by omega
            obtain ⟨m, hm⟩ : ∃ m, n - 1 - k = m := ⟨_, rfl⟩
            have hmn : m < n := by omega
            have hmnz : (m : Int) < (n : Int) := by omega
            have hm0 : (0 : Int) ≤ (m : Int) := by omega
            have hmz : (n : Int) - 1 - (k : Int) = (m : Int) := by omega
            have hq1 : IntKind.i64.wrap ((n : Int) - 1) = (n : Int) - 1 := IntWalk.i64_in _ (by omega)
            have hq2 : wrap64 ((n : Int) - 1) = (n : Int) - 1 := IntWalk.wrap64_in _ (by omega)
            have hq3 : IntKind.i64.wrap ((n : Int) - 1 - (k : Int)) = (m : Int) := by rw [hmz]; exact IntWalk.i64_in _ (by omega)
            have hq4 : wrap64 ((n : Int) - 1 - (k : Int)) = (m : Int) := by rw [hmz]; exact IntWalk.wrap64_in _ (by omega)
            have HM : Hid (l.length - 1 - k = m) := by rw [← HN.out]; exact hm
            obtain ⟨y, hy⟩ : ∃ y, l[k]? = some y := ⟨_, List.getElem?_eq_getElem (by rw [← HN.out]; exact hkn)⟩
            obtain ⟨z, hz⟩ : ∃ z, l[m]? = some z := ⟨_, List.getElem?_eq_getElem (by rw [← HN.out]; exact hmn)⟩
            obtain ⟨b5, o5, rfl, hat1⟩ := (HLR.out.next HJ.out) k y hy
            obtain ⟨b6, o6, eb, hat2⟩ := (HLR.out.next HJ.out) m z hz
            simp only [Option.some.injEq, Addr.mk.injEq] at eb
            obtain ⟨rfl, rfl, -⟩ := eb
            have HY := Lib.hid hy
            have HZZ := Lib.hid hz
            obtain ⟨a0, a1, a2, a3⟩ := hat1
            obtain ⟨b0, b1, b2, b3⟩ := hat2
            have HNU : Hid (setsG (l.take (k + 1)) = mergeG (setsG (l.take k)) [y]) := by show _ = _; rw [take_moreG hy, sets_push]
            have HND : Hid (setsG (l.drop (n - (k + 1))).reverse = mergeG (setsG (l.drop (n - k)).reverse) [z]) := by show _ = _; rw [HN.out, drop_rev (by rw [← HN.out]; exact hkn) (by rw [HM.out]; exact hz), sets_push]
            have HYB := Lib.hid (HA.out.ok y (List.mem_of_getElem? hy))
            have HZB := Lib.hid (HA.out.ok z (List.mem_of_getElem? hz))
            have HLU : Hid ((setsG (l.take (k + 1))).length ≤ 20) := Nat.le_trans (setsG_len _) (by rw [List.length_take]; omega)
            have HLD : Hid ((setsG (l.drop (n - (k + 1))).reverse).length ≤ 20) := Nat.le_trans (setsG_len _) (by rw [List.length_reverse, List.length_drop]; have := HN.out; omega)
            clear hy hz hm hmz
            have HC8 : Hid (∀ W, Below wr.heap.size wr W → W.cell? ⟨b5, o5 + k * 4, none⟩ = some (.int .i64 y.p) ∧ W.cell? ⟨b5, o5 + k * 4 + 1, none⟩ = some (.int .i64 y.v) ∧ W.cell? ⟨b5, o5 + k * 4 + 2, none⟩ = some (.int .i64 y.t) ∧ W.cell? ⟨b5, o5 + k * 4 + 3, none⟩ = some (.int .i64 y.r) ∧ W.cell? ⟨b5, o5 + m * 4, none⟩ = some (.int .i64 z.p) ∧ W.cell? ⟨b5, o5 + m * 4 + 1, none⟩ = some (.int .i64 z.v) ∧ W.cell? ⟨b5, o5 + m * 4 + 2, none⟩ = some (.int .i64 z.t) ∧ W.cell? ⟨b5, o5 + m * 4 + 3, none⟩ = some (.int .i64 z.r)) := by
              intro W hb
              have f : ∀ (i : Nat) (u : Value), wr.cell? ⟨b5, i, none⟩ = some u → W.cell? ⟨b5, i, none⟩ = some u := fun i u h => (hb.cell (p := ⟨b5, i, none⟩) (World.block_lt_of_cell? _ _ h)).trans h
              exact ⟨f _ _ a0, f _ _ a1, f _ _ a2, f _ _ a3, f _ _ b0, f _ _ b1, f _ _ b2, f _ _ b3⟩
            have hW0 := HC8.out wr.drew ((Below.refl wr.heap.size wr)).drew
            obtain ⟨hw0_0, hw0_1, hw0_2, hw0_3, hw0_4, hw0_5, hw0_6, hw0_7⟩ := hW0
            have hW1 := HC8.out (wr.alloc (.cells #[.int .i64 0, .int .i64 0, .int .i64 0, .int .i64 0] 31)).drew (((Below.refl wr.heap.size wr).alloc ((Below.refl wr.heap.size wr)).size (.cells #[.int .i64 0, .int .i64 0, .int .i64 0, .int .i64 0] 31))).drew
            obtain ⟨hw1_0, hw1_1, hw1_2, hw1_3, hw1_4, hw1_5, hw1_6, hw1_7⟩ := hW1
            have hW2 := HC8.out (wr.alloc (objH y)).drew (((Below.refl wr.heap.size wr).alloc ((Below.refl wr.heap.size wr)).size (objH y))).drew
            obtain ⟨hw2_0, hw2_1, hw2_2, hw2_3, hw2_4, hw2_5, hw2_6, hw2_7⟩ := hW2
            have hW3 := HC8.out (wr.alloc (objH z)).drew (((Below.refl wr.heap.size wr).alloc ((Below.refl wr.heap.size wr)).size (objH z))).drew
            obtain ⟨hw3_0, hw3_1, hw3_2, hw3_3, hw3_4, hw3_5, hw3_6, hw3_7⟩ := hW3
            have hW4 := HC8.out ((wr.alloc (.cells #[.int .i64 0, .int .i64 0, .int .i64 0, .int .i64 0] 31)).alloc (.cells #[.int .i64 0, .int .i64 0, .int .i64 0, .int .i64 0] 31)).drew ((((Below.refl wr.heap.size wr).alloc ((Below.refl wr.heap.size wr)).size (.cells #[.int .i64 0, .int .i64 0, .int .i64 0, .int .i64 0] 31)).alloc (((Below.refl wr.heap.size wr).alloc ((Below.refl wr.heap.size wr)).size (.cells #[.int .i64 0, .int .i64 0, .int .i64 0, .int .i64 0] 31))).size (.cells #[.int .i64 0, .int .i64 0, .int .i64 0, .int .i64 0] 31))).drew
            obtain ⟨hw4_0, hw4_1, hw4_2, hw4_3, hw4_4, hw4_5, hw4_6, hw4_7⟩ := hW4
            have hW5 := HC8.out ((wr.alloc (objH y)).alloc (.cells #[.int .i64 0, .int .i64 0, .int .i64 0, .int .i64 0] 31)).drew ((((Below.refl wr.heap.size wr).alloc ((Below.refl wr.heap.size wr)).size (objH y)).alloc (((Below.refl wr.heap.size wr).alloc ((Below.refl wr.heap.size wr)).size (objH y))).size (.cells #[.int .i64 0, .int .i64 0, .int .i64 0, .int .i64 0] 31))).drew
            obtain ⟨hw5_0, hw5_1, hw5_2, hw5_3, hw5_4, hw5_5, hw5_6, hw5_7⟩ := hW5
            have hW6 := HC8.out ((wr.alloc (.cells #[.int .i64 0, .int .i64 0, .int .i64 0, .int .i64 0] 31)).alloc (objH z)).drew ((((Below.refl wr.heap.size wr).alloc ((Below.refl wr.heap.size wr)).size (.cells #[.int .i64 0, .int .i64 0, .int .i64 0, .int .i64 0] 31)).alloc (((Below.refl wr.heap.size wr).alloc ((Below.refl wr.heap.size wr)).size (.cells #[.int .i64 0, .int .i64 0, .int .i64 0, .int .i64 0] 31))).size (objH z))).drew
            obtain ⟨hw6_0, hw6_1, hw6_2, hw6_3, hw6_4, hw6_5, hw6_6, hw6_7⟩ := hW6
            have hW7 := HC8.out ((wr.alloc (objH y)).alloc (objH z)).drew ((((Below.refl wr.heap.size wr).alloc ((Below.refl wr.heap.size wr)).size (objH y)).alloc (((Below.refl wr.heap.size wr).alloc ((Below.refl wr.heap.size wr)).size (objH y))).size (objH z))).drew
            obtain ⟨hw7_0, hw7_1, hw7_2, hw7_3, hw7_4, hw7_5, hw7_6, hw7_7⟩ := hW7
            have hW8 := HC8.out ((wr.alloc (objH z)).alloc (.cells #[.int .i64 0, .int .i64 0, .int .i64 0, .int .i64 0] 31)).drew ((((Below.refl wr.heap.size wr).alloc ((Below.refl wr.heap.size wr)).size (objH z)).alloc (((Below.refl wr.heap.size wr).alloc ((Below.refl wr.heap.size wr)).size (objH z))).size (.cells #[.int .i64 0, .int .i64 0, .int .i64 0, .int .i64 0] 31))).drew
            obtain ⟨hw8_0, hw8_1, hw8_2, hw8_3, hw8_4, hw8_5, hw8_6, hw8_7⟩ := hW8
            have hW9 := HC8.out ((wr.alloc (.cells #[.int .i64 0, .int .i64 0, .int .i64 0, .int .i64 0] 31)).alloc (objH y)).drew ((((Below.refl wr.heap.size wr).alloc ((Below.refl wr.heap.size wr)).size (.cells #[.int .i64 0, .int .i64 0, .int .i64 0, .int .i64 0] 31)).alloc (((Below.refl wr.heap.size wr).alloc ((Below.refl wr.heap.size wr)).size (.cells #[.int .i64 0, .int .i64 0, .int .i64 0, .int .i64 0] 31))).size (objH y))).drew
            obtain ⟨hw9_0, hw9_1, hw9_2, hw9_3, hw9_4, hw9_5, hw9_6, hw9_7⟩ := hW9
            have hW10 := HC8.out ((wr.alloc (objH z)).alloc (objH y)).drew ((((Below.refl wr.heap.size wr).alloc ((Below.refl wr.heap.size wr)).size (objH z)).alloc (((Below.refl wr.heap.size wr).alloc ((Below.refl wr.heap.size wr)).size (objH z))).size (objH y))).drew
            obtain ⟨hw10_0, hw10_1, hw10_2, hw10_3, hw10_4, hw10_5, hw10_6, hw10_7⟩ := hW10
            go_wp2_with fail
            go_region
            · have hba := bel1 wr (objH y)
              have hbb := bel1 (wr.alloc (objH y)) (objH z)
              have HBW : Hid (Below wr.heap.size wr ((wr.alloc (objH y)).alloc (objH z)).drew) := (hba.trans (hbb.mono hba.size)).drew
              have HG1 : Hid (RgAt ((wr.alloc (objH y)).alloc (objH z)).drew wr.heap.size 0 y) := by
                have h := (actH_new wr y).next hbb
                exact ⟨h.c0, h.c1, h.c2, h.c3⟩
              have HG2 : Hid (RgAt ((wr.alloc (objH y)).alloc (objH z)).drew (wr.heap.size + 1) 0 z) := by
                have h := actH_new (wr.alloc (objH y)) z
                rw [World.size_alloc] at h
                exact ⟨h.c0, h.c1, h.c2, h.c3⟩
              clear hba hbb HC8 hw0_0 hw0_1 hw0_2 hw0_3 hw0_4 hw0_5 hw0_6 hw0_7 hw1_0 hw1_1 hw1_2 hw1_3 hw1_4 hw1_5 hw1_6 hw1_7 hw2_0 hw2_1 hw2_2 hw2_3 hw2_4 hw2_5 hw2_6 hw2_7 hw3_0 hw3_1 hw3_2 hw3_3 hw3_4 hw3_5 hw3_6 hw3_7 hw4_0 hw4_1 hw4_2 hw4_3 hw4_4 hw4_5 hw4_6 hw4_7 hw5_0 hw5_1 hw5_2 hw5_3 hw5_4 hw5_5 hw5_6 hw5_7 hw6_0 hw6_1 hw6_2 hw6_3 hw6_4 hw6_5 hw6_6 hw6_7 hw7_0 hw7_1 hw7_2 hw7_3 hw7_4 hw7_5 hw7_6 hw7_7 hw8_0 hw8_1 hw8_2 hw8_3 hw8_4 hw8_5 hw8_6 hw8_7 hw9_0 hw9_1 hw9_2 hw9_3 hw9_4 hw9_5 hw9_6 hw9_7 hw10_0 hw10_1 hw10_2 hw10_3 hw10_4 hw10_5 hw10_6 hw10_7
              generalize ((wr.alloc (objH y)).alloc (objH z)).drew = W2 at *
              generalize hg2 : wr.heap.size + 1 = gb at HG2 ⊢
              generalize hg1 : wr.heap.size = ga at HG1 ⊢
              clear hg1 hg2
              have HJx := Lib.hid (HJ.out.trans (HBW.out.mono HJ.out.size))
              clear HJ
              have HJ := HJx
              clear HJx
              have HBjx := Lib.hid (HBj.out.trans (HBW.out.mono HBj.out.size))
              clear HBj
              have HBj := HBjx
              clear HBjx
              have HUx := Lib.hid (HU.out.next HBW.out)
              clear HU
              have HU := HUx
              clear HUx
              have HDx := Lib.hid (HD.out.next HBW.out)
              clear HD
              have HD := HDx
              clear HDx
              have HODx := Lib.hid (HOD.out.next HBW.out)
              clear HOD
              have HOD := HODx
              clear HODx
              have HEVx := Lib.hid (HEV.out.next HBW.out)
              clear HEV
              have HEV := HEVx
              clear HEVx
              obtain ⟨x0, x1, x2, x3⟩ := HG1.out
              obtain ⟨y0, y1, y2, y3⟩ := HG2.out
              go_wp2_with fail
              refine (set_cu (HT.out _ (HBj.out)) HU.out (HRG.out _ fun x hx => List.mem_of_mem_take hx) HYB.out HNU.out.symm HLU.out).mono ?_
              rintro e v1 ⟨nua, nun, nuc, rfl, hcu, hb⟩
              clear x0 x1 x2 x3 y0 y1 y2 y3 HU
              have HJx := Lib.hid (HJ.out.trans (hb.mono HJ.out.size))
              have HBjx := Lib.hid (HBj.out.trans (hb.mono HBj.out.size))
              have HDx := Lib.hid (HD.out.next hb)
              have HODx := Lib.hid (HOD.out.next hb)
              have HEVx := Lib.hid (HEV.out.next hb)
              have HG1x := Lib.hid (HG1.out.next hb)
              have HG2x := Lib.hid (HG2.out.next hb)
              clear HJ HBj HD HOD HEV HG1 HG2
              have HJ := HJx
              have HBj := HBjx
              have HD := HDx
              have HOD := HODx
              have HEV := HEVx
              have HG1 := HG1x
              have HG2 := HG2x
              clear HJx HBjx HDx HODx HEVx HG1x HG2x
              have HU2 := Lib.hid hcu
              clear hb hcu
              obtain ⟨x0, x1, x2, x3⟩ := HG1.out
              obtain ⟨y0, y1, y2, y3⟩ := HG2.out
              go_wp2_with fail
              refine (set_cu (HT.out _ (HBj.out)) HD.out (HRG.out _ fun x hx => List.mem_of_mem_drop (List.mem_reverse.1 hx)) HZB.out HND.out.symm HLD.out).mono ?_
              rintro e v2 ⟨nda, ndn, ndc, rfl, hcu, hb⟩
              clear x0 x1 x2 x3 y0 y1 y2 y3 HD
              have HJx := Lib.hid (HJ.out.trans (hb.mono HJ.out.size))
              have HBjx := Lib.hid (HBj.out.trans (hb.mono HBj.out.size))
              have HODx := Lib.hid (HOD.out.next hb)
              have HEVx := Lib.hid (HEV.out.next hb)
              have HG1x := Lib.hid (HG1.out.next hb)
              have HG2x := Lib.hid (HG2.out.next hb)
              have HU2x := Lib.hid (HU2.out.next hb)
              clear HJ HBj HOD HEV HG1 HG2 HU2
              have HJ := HJx
              have HBj := HBjx
              have HOD := HODx
              have HEV := HEVx
              have HG1 := HG1x
              have HG2 := HG2x
              have HU2 := HU2x
              clear HJx HBjx HODx HEVx HG1x HG2x HU2x
              have HD2 := Lib.hid hcu
              clear hb hcu
              go_wp2_with fail
              refine (num15_any 0 _).mono ?_
              rintro e wn ⟨rfl, rfl⟩
              go_wp2_with fail
              refine (num15_any 0 _).mono ?_
              rintro e wn ⟨rfl, rfl⟩
              by_cases hp : k % 2 = 0
              · have hpar : (k : Int).tmod 2 = 0 := by rw [Int.tmod_eq_emod_of_nonneg (by omega)]; omega
                have HEE : Hid (setsG (evL l (k + 1)) = mergeG (setsG (evL l k)) [y] ∧ setsG (odL l (k + 1)) = setsG (odL l k)) := ⟨by rw [(evL_yes HY.out hp).1, sets_push], by rw [(evL_yes HY.out hp).2]⟩
                obtain ⟨x0, x1, x2, x3⟩ := HG1.out
                obtain ⟨y0, y1, y2, y3⟩ := HG2.out
                go_wp2_with fail
                refine (set_cu (HT.out _ (HBj.out)) HEV.out (HRG.out _ fun x hx => ev_sub hx) HYB.out HEE.out.1.symm (Nat.le_trans (setsG_len _) (Nat.le_trans (ev_len l (k + 1)).1 (by omega)))).mono ?_
                rintro e v3 ⟨nea, nen, nec, rfl, hcu, hb⟩
                clear x0 x1 x2 x3 y0 y1 y2 y3 HEV
                have HJx := Lib.hid (HJ.out.trans (hb.mono HJ.out.size))
                have HBjx := Lib.hid (HBj.out.trans (hb.mono HBj.out.size))
                have HODx := Lib.hid (HOD.out.next hb)
                have HG1x := Lib.hid (HG1.out.next hb)
                have HG2x := Lib.hid (HG2.out.next hb)
                have HU2x := Lib.hid (HU2.out.next hb)
                have HD2x := Lib.hid (HD2.out.next hb)
                clear HJ HBj HOD HG1 HG2 HU2 HD2
                have HJ := HJx
                have HBj := HBjx
                have HOD := HODx
                have HG1 := HG1x
                have HG2 := HG2x
                have HU2 := HU2x
                have HD2 := HD2x
                clear HJx HBjx HODx HG1x HG2x HU2x HD2x
                have HEV2 := Lib.hid hcu
                clear hb hcu
                go_wp2_with fail
                refine (num15_any 0 _).mono ?_
                rintro e wn ⟨rfl, rfl⟩
                go_wp2_with fail
                go_roundg (n - (k + 1))
                case measure => omega
                case rel => exact ⟨k + 1, nua, nun, nuc, nda, ndn, ndc, oa, on, oc, nea, nen, nec, rfl, rfl, rfl, rfl, by go_num, by omega, by omega, HU2.out, HD2.out, by rw [HEE.out.2]; exact HOD.out, HEV2.out, HJ.out⟩
              · have hpar : (k : Int).tmod 2 = 1 := by rw [Int.tmod_eq_emod_of_nonneg (by omega)]; omega
                have HEE : Hid (setsG (odL l (k + 1)) = mergeG (setsG (odL l k)) [y] ∧ setsG (evL l (k + 1)) = setsG (evL l k)) := ⟨by rw [(evL_no HY.out hp).2, sets_push], by rw [(evL_no HY.out hp).1]⟩
                obtain ⟨x0, x1, x2, x3⟩ := HG1.out
                obtain ⟨y0, y1, y2, y3⟩ := HG2.out
                go_wp2_with fail
                refine (set_cu (HT.out _ (HBj.out)) HOD.out (HRG.out _ fun x hx => od_sub hx) HYB.out HEE.out.1.symm (Nat.le_trans (setsG_len _) (Nat.le_trans (ev_len l (k + 1)).2 (by omega)))).mono ?_
                rintro e v3 ⟨noa, non, noc, rfl, hcu, hb⟩
                clear x0 x1 x2 x3 y0 y1 y2 y3 HOD
                have HJx := Lib.hid (HJ.out.trans (hb.mono HJ.out.size))
                have HBjx := Lib.hid (HBj.out.trans (hb.mono HBj.out.size))
                have HEVx := Lib.hid (HEV.out.next hb)
                have HG1x := Lib.hid (HG1.out.next hb)
                have HG2x := Lib.hid (HG2.out.next hb)
                have HU2x := Lib.hid (HU2.out.next hb)
                have HD2x := Lib.hid (HD2.out.next hb)
                clear HJ HBj HEV HG1 HG2 HU2 HD2
                have HJ := HJx
                have HBj := HBjx
                have HEV := HEVx
                have HG1 := HG1x
                have HG2 := HG2x
                have HU2 := HU2x
                have HD2 := HD2x
                clear HJx HBjx HEVx HG1x HG2x HU2x HD2x
                have HOD2 := Lib.hid hcu
                clear hb hcu
                go_wp2_with fail
                refine (num15_any 0 _).mono ?_
                rintro e wn ⟨rfl, rfl⟩
                go_wp2_with fail
                go_roundg (n - (k + 1))
                case measure => omega
                case rel => exact ⟨k + 1, nua, nun, nuc, nda, ndn, ndc, noa, non, noc, ea, en, ec, rfl, rfl, rfl, rfl, by go_num, by omega, by omega, HU2.out, HD2.out, HOD2.out, by rw [HEE.out.2]; exact HEV.out, HJ.out⟩
            · have hba := bel1 wr (objH z)
              have hbb := bel1 (wr.alloc (objH z)) (objH y)
              have HBW : Hid (Below wr.heap.size wr ((wr.alloc (objH z)).alloc (objH y)).drew) := (hba.trans (hbb.mono hba.size)).drew
              have HG2 : Hid (RgAt ((wr.alloc (objH z)).alloc (objH y)).drew wr.heap.size 0 z) := by
                have h := (actH_new wr z).next hbb
                exact ⟨h.c0, h.c1, h.c2, h.c3⟩
              have HG1 : Hid (RgAt ((wr.alloc (objH z)).alloc (objH y)).drew (wr.heap.size + 1) 0 y) := by
                have h := actH_new (wr.alloc (objH z)) y
                rw [World.size_alloc] at h
                exact ⟨h.c0, h.c1, h.c2, h.c3⟩
              clear hba hbb HC8 hw0_0 hw0_1 hw0_2 hw0_3 hw0_4 hw0_5 hw0_6 hw0_7 hw1_0 hw1_1 hw1_2 hw1_3 hw1_4 hw1_5 hw1_6 hw1_7 hw2_0 hw2_1 hw2_2 hw2_3 hw2_4 hw2_5 hw2_6 hw2_7 hw3_0 hw3_1 hw3_2 hw3_3 hw3_4 hw3_5 hw3_6 hw3_7 hw4_0 hw4_1 hw4_2 hw4_3 hw4_4 hw4_5 hw4_6 hw4_7 hw5_0 hw5_1 hw5_2 hw5_3 hw5_4 hw5_5 hw5_6 hw5_7 hw6_0 hw6_1 hw6_2 hw6_3 hw6_4 hw6_5 hw6_6 hw6_7 hw7_0 hw7_1 hw7_2 hw7_3 hw7_4 hw7_5 hw7_6 hw7_7 hw8_0 hw8_1 hw8_2 hw8_3 hw8_4 hw8_5 hw8_6 hw8_7 hw9_0 hw9_1 hw9_2 hw9_3 hw9_4 hw9_5 hw9_6 hw9_7 hw10_0 hw10_1 hw10_2 hw10_3 hw10_4 hw10_5 hw10_6 hw10_7
              generalize ((wr.alloc (objH z)).alloc (objH y)).drew = W2 at *
              generalize hg2 : wr.heap.size + 1 = gb at HG1 ⊢
              generalize hg1 : wr.heap.size = ga at HG2 ⊢
              clear hg1 hg2
              have HJx := Lib.hid (HJ.out.trans (HBW.out.mono HJ.out.size))
              clear HJ
              have HJ := HJx
              clear HJx
              have HBjx := Lib.hid (HBj.out.trans (HBW.out.mono HBj.out.size))
              clear HBj
              have HBj := HBjx
              clear HBjx
              have HUx := Lib.hid (HU.out.next HBW.out)
              clear HU
              have HU := HUx
              clear HUx
              have HDx := Lib.hid (HD.out.next HBW.out)
              clear HD
              have HD := HDx
              clear HDx
              have HODx := Lib.hid (HOD.out.next HBW.out)
              clear HOD
              have HOD := HODx
              clear HODx
              have HEVx := Lib.hid (HEV.out.next HBW.out)
              clear HEV
              have HEV := HEVx
              clear HEVx
              obtain ⟨x0, x1, x2, x3⟩ := HG1.out
              obtain ⟨y0, y1, y2, y3⟩ := HG2.out
              go_wp2_with fail
              refine (set_cu (HT.out _ (HBj.out)) HU.out (HRG.out _ fun x hx => List.mem_of_mem_take hx) HYB.out HNU.out.symm HLU.out).mono ?_
              rintro e v1 ⟨nua, nun, nuc, rfl, hcu, hb⟩
              clear x0 x1 x2 x3 y0 y1 y2 y3 HU
              have HJx := Lib.hid (HJ.out.trans (hb.mono HJ.out.size))
              have HBjx := Lib.hid (HBj.out.trans (hb.mono HBj.out.size))
              have HDx := Lib.hid (HD.out.next hb)
              have HODx := Lib.hid (HOD.out.next hb)
              have HEVx := Lib.hid (HEV.out.next hb)
              have HG1x := Lib.hid (HG1.out.next hb)
              have HG2x := Lib.hid (HG2.out.next hb)
              clear HJ HBj HD HOD HEV HG1 HG2
              have HJ := HJx
              have HBj := HBjx
              have HD := HDx
              have HOD := HODx
              have HEV := HEVx
              have HG1 := HG1x
              have HG2 := HG2x
              clear HJx HBjx HDx HODx HEVx HG1x HG2x
              have HU2 := Lib.hid hcu
              clear hb hcu
              obtain ⟨x0, x1, x2, x3⟩ := HG1.out
              obtain ⟨y0, y1, y2, y3⟩ := HG2.out
              go_wp2_with fail
              refine (set_cu (HT.out _ (HBj.out)) HD.out (HRG.out _ fun x hx => List.mem_of_mem_drop (List.mem_reverse.1 hx)) HZB.out HND.out.symm HLD.out).mono ?_
              rintro e v2 ⟨nda, ndn, ndc, rfl, hcu, hb⟩
              clear x0 x1 x2 x3 y0 y1 y2 y3 HD
              have HJx := Lib.hid (HJ.out.trans (hb.mono HJ.out.size))
              have HBjx := Lib.hid (HBj.out.trans (hb.mono HBj.out.size))
              have HODx := Lib.hid (HOD.out.next hb)
              have HEVx := Lib.hid (HEV.out.next hb)
              have HG1x := Lib.hid (HG1.out.next hb)
              have HG2x := Lib.hid (HG2.out.next hb)
              have HU2x := Lib.hid (HU2.out.next hb)
              clear HJ HBj HOD HEV HG1 HG2 HU2
              have HJ := HJx
              have HBj := HBjx
              have HOD := HODx
              have HEV := HEVx
              have HG1 := HG1x
              have HG2 := HG2x
              have HU2 := HU2x
              clear HJx HBjx HODx HEVx HG1x HG2x HU2x
              have HD2 := Lib.hid hcu
              clear hb hcu
              go_wp2_with fail
              refine (num15_any 0 _).mono ?_
              rintro e wn ⟨rfl, rfl⟩
              go_wp2_with fail
              refine (num15_any 0 _).mono ?_
              rintro e wn ⟨rfl, rfl⟩
              by_cases hp : k % 2 = 0
              · have hpar : (k : Int).tmod 2 = 0 := by rw [Int.tmod_eq_emod_of_nonneg (by omega)]; omega
                have HEE : Hid (setsG (evL l (k + 1)) = mergeG (setsG (evL l k)) [y] ∧ setsG (odL l (k + 1)) = setsG (odL l k)) := ⟨by rw [(evL_yes HY.out hp).1, sets_push], by rw [(evL_yes HY.out hp).2]⟩
                obtain ⟨x0, x1, x2, x3⟩ := HG1.out
                obtain ⟨y0, y1, y2, y3⟩ := HG2.out
                go_wp2_with fail
                refine (set_cu (HT.out _ (HBj.out)) HEV.out (HRG.out _ fun x hx => ev_sub hx) HYB.out HEE.out.1.symm (Nat.le_trans (setsG_len _) (Nat.le_trans (ev_len l (k + 1)).1 (by omega)))).mono ?_
                rintro e v3 ⟨nea, nen, nec, rfl, hcu, hb⟩
                clear x0 x1 x2 x3 y0 y1 y2 y3 HEV
                have HJx := Lib.hid (HJ.out.trans (hb.mono HJ.out.size))
                have HBjx := Lib.hid (HBj.out.trans (hb.mono HBj.out.size))
                have HODx := Lib.hid (HOD.out.next hb)
                have HG1x := Lib.hid (HG1.out.next hb)
                have HG2x := Lib.hid (HG2.out.next hb)
                have HU2x := Lib.hid (HU2.out.next hb)
                have HD2x := Lib.hid (HD2.out.next hb)
                clear HJ HBj HOD HG1 HG2 HU2 HD2
                have HJ := HJx
                have HBj := HBjx
                have HOD := HODx
                have HG1 := HG1x
                have HG2 := HG2x
                have HU2 := HU2x
                have HD2 := HD2x
                clear HJx HBjx HODx HG1x HG2x HU2x HD2x
                have HEV2 := Lib.hid hcu
                clear hb hcu
                go_wp2_with fail
                refine (num15_any 0 _).mono ?_
                rintro e wn ⟨rfl, rfl⟩
                go_wp2_with fail
                go_roundg (n - (k + 1))
                case measure => omega
                case rel => exact ⟨k + 1, nua, nun, nuc, nda, ndn, ndc, oa, on, oc, nea, nen, nec, rfl, rfl, rfl, rfl, by go_num, by omega, by omega, HU2.out, HD2.out, by rw [HEE.out.2]; exact HOD.out, HEV2.out, HJ.out⟩
              · have hpar : (k : Int).tmod 2 = 1 := by rw [Int.tmod_eq_emod_of_nonneg (by omega)]; omega
                have HEE : Hid (setsG (odL l (k + 1)) = mergeG (setsG (odL l k)) [y] ∧ setsG (evL l (k + 1)) = setsG (evL l k)) := ⟨by rw [(evL_no HY.out hp).2, sets_push], by rw [(evL_no HY.out hp).1]⟩
                obtain ⟨x0, x1, x2, x3⟩ := HG1.out
                obtain ⟨y0, y1, y2, y3⟩ := HG2.out
                go_wp2_with fail
                refine (set_cu (HT.out _ (HBj.out)) HOD.out (HRG.out _ fun x hx => od_sub hx) HYB.out HEE.out.1.symm (Nat.le_trans (setsG_len _) (Nat.le_trans (ev_len l (k + 1)).2 (by omega)))).mono ?_
                rintro e v3 ⟨noa, non, noc, rfl, hcu, hb⟩
                clear x0 x1 x2 x3 y0 y1 y2 y3 HOD
                have HJx := Lib.hid (HJ.out.trans (hb.mono HJ.out.size))
                have HBjx := Lib.hid (HBj.out.trans (hb.mono HBj.out.size))
                have HEVx := Lib.hid (HEV.out.next hb)
                have HG1x := Lib.hid (HG1.out.next hb)
                have HG2x := Lib.hid (HG2.out.next hb)
                have HU2x := Lib.hid (HU2.out.next hb)
                have HD2x := Lib.hid (HD2.out.next hb)
                clear HJ HBj HEV HG1 HG2 HU2 HD2
                have HJ := HJx
                have HBj := HBjx
                have HEV := HEVx
                have HG1 := HG1x
                have HG2 := HG2x
                have HU2 := HU2x
                have HD2 := HD2x
                clear HJx HBjx HEVx HG1x HG2x HU2x HD2x
                have HOD2 := Lib.hid hcu
                clear hb hcu
                go_wp2_with fail
                refine (num15_any 0 _).mono ?_
                rintro e wn ⟨rfl, rfl⟩
                go_wp2_with fail
                go_roundg (n - (k + 1))
                case measure => omega
                case rel => exact ⟨k + 1, nua, nun, nuc, nda, ndn, ndc, noa, non, noc, ea, en, ec, rfl, rfl, rfl, rfl, by go_num, by omega, by omega, HU2.out, HD2.out, HOD2.out, by rw [HEE.out.2]; exact HEV.out, HJ.out⟩
          · obtain rfl : n = k := by omega
            have hknz : ¬ (n : Int) < (n : Int) := by omega
            obtain ⟨w6, hw6⟩ : ∃ w6, w6 = wr := ⟨_, rfl⟩
            subst hw6
            have HORD := Lib.hid (orders HA.out.dist)
            have HU3 : Hid (CuR w6 ua un uc (setsG l)) := by have h := HU.out; rw [List.take_of_length_le (by rw [HN.out]; exact Nat.le_refl _)] at h; exact h
            have HD3 : Hid (CuR w6 da dn dc (setsG l)) := by have h := HD.out; rw [Nat.sub_self, List.drop_zero, HORD.out.1] at h; exact h
            have HO3 : Hid (CuR w6 oa on oc (setsG (odL l l.length))) := by have h := HOD.out; rw [HN.out] at h; exact h
            have HE3 : Hid (CuR w6 ea en ec (setsG (evL l l.length))) := by have h := HEV.out; rw [HN.out] at h; exact h
            have HLL : Hid ((setsG l).length ≤ 20) := Nat.le_trans (setsG_len _) (by rw [← HN.out]; exact hn20)
            have HR1 := Lib.hid (HRG.out l fun x hx => hx)
            have HR2 := Lib.hid (HRG.out (evL l l.length) fun x hx => ev_sub hx)
            have HR3 := Lib.hid (HRG.out (odL l l.length) fun x hx => od_sub hx)
            have HRL := Lib.hid (HLR.out.next HJ.out)
            clear HU HD HOD HEV HJ
            go_wp2_with fail
            refine (merge_cu (HT.out _ HBj.out) HE3.out HO3.out HR2.out HR3.out HORD.out.2.1 HLL.out).mono ?_
            rintro e v1 ⟨ma, mn, mc, rfl, hcu, hb⟩
            have HBjx := Lib.hid (HBj.out.trans (hb.mono HBj.out.size))
            have HU3x := Lib.hid (HU3.out.next hb)
            have HD3x := Lib.hid (HD3.out.next hb)
            have HO3x := Lib.hid (HO3.out.next hb)
            have HE3x := Lib.hid (HE3.out.next hb)
            have HRLx := Lib.hid (HRL.out.next hb)
            clear HBj HU3 HD3 HO3 HE3 HRL
            have HBj := HBjx
            have HU3 := HU3x
            have HD3 := HD3x
            have HO3 := HO3x
            have HE3 := HE3x
            have HRL := HRLx
            clear HBjx HU3x HD3x HO3x HE3x HRLx
            have HM1 := Lib.hid hcu
            clear hb hcu
            go_wp2_with fail
            refine (merge_cu (HT.out _ HBj.out) HO3.out HE3.out HR3.out HR2.out HORD.out.2.2 HLL.out).mono ?_
            rintro e v2 ⟨wa, wn, wc, rfl, hcu, hb⟩
            have HBjx := Lib.hid (HBj.out.trans (hb.mono HBj.out.size))
            have HU3x := Lib.hid (HU3.out.next hb)
            have HD3x := Lib.hid (HD3.out.next hb)
            have HO3x := Lib.hid (HO3.out.next hb)
            have HE3x := Lib.hid (HE3.out.next hb)
            have HRLx := Lib.hid (HRL.out.next hb)
            have HM1x := Lib.hid (HM1.out.next hb)
            clear HBj HU3 HD3 HO3 HE3 HRL HM1
            have HBj := HBjx
            have HU3 := HU3x
            have HD3 := HD3x
            have HO3 := HO3x
            have HE3 := HE3x
            have HRL := HRLx
            have HM1 := HM1x
            clear HBjx HU3x HD3x HO3x HE3x HRLx HM1x
            have HM2 := Lib.hid hcu
            clear hb hcu
            go_wp2_with fail
            refine (num15_any 0 _).mono ?_
            rintro e wn ⟨rfl, rfl⟩
            go_wp2_with fail
            refine (num15_any 0 _).mono ?_
            rintro e wn ⟨rfl, rfl⟩
            go_wp2_with fail
            refine (eq_cu HU3.out HD3.out).mono ?_
            rintro e v3 ⟨rfl, hb⟩
            have HBjx := Lib.hid (HBj.out.trans (hb.mono HBj.out.size))
            have HU3x := Lib.hid (HU3.out.next hb)
            have HD3x := Lib.hid (HD3.out.next hb)
            have HO3x := Lib.hid (HO3.out.next hb)
            have HE3x := Lib.hid (HE3.out.next hb)
            have HRLx := Lib.hid (HRL.out.next hb)
            have HM1x := Lib.hid (HM1.out.next hb)
            have HM2x := Lib.hid (HM2.out.next hb)
            clear HBj HU3 HD3 HO3 HE3 HRL HM1 HM2
            have HBj := HBjx
            have HU3 := HU3x
            have HD3 := HD3x
            have HO3 := HO3x
            have HE3 := HE3x
            have HRL := HRLx
            have HM1 := HM1x
            have HM2 := HM2x
            clear HBjx HU3x HD3x HO3x HE3x HRLx HM1x HM2x
            clear hb
            go_wp2_with fail
            refine (eq_cu HM1.out HU3.out).mono ?_
            rintro e v4 ⟨rfl, hb⟩
            have HBjx := Lib.hid (HBj.out.trans (hb.mono HBj.out.size))
            have HU3x := Lib.hid (HU3.out.next hb)
            have HD3x := Lib.hid (HD3.out.next hb)
            have HO3x := Lib.hid (HO3.out.next hb)
            have HE3x := Lib.hid (HE3.out.next hb)
            have HRLx := Lib.hid (HRL.out.next hb)
            have HM1x := Lib.hid (HM1.out.next hb)
            have HM2x := Lib.hid (HM2.out.next hb)
            clear HBj HU3 HD3 HO3 HE3 HRL HM1 HM2
            have HBj := HBjx
            have HU3 := HU3x
            have HD3 := HD3x
            have HO3 := HO3x
            have HE3 := HE3x
            have HRL := HRLx
            have HM1 := HM1x
            have HM2 := HM2x
            clear HBjx HU3x HD3x HO3x HE3x HRLx HM1x HM2x
            clear hb
            go_wp2_with fail
            refine (eq_cu HM2.out HU3.out).mono ?_
            rintro e v5 ⟨rfl, hb⟩
            have HBjx := Lib.hid (HBj.out.trans (hb.mono HBj.out.size))
            have HU3x := Lib.hid (HU3.out.next hb)
            have HD3x := Lib.hid (HD3.out.next hb)
            have HO3x := Lib.hid (HO3.out.next hb)
            have HE3x := Lib.hid (HE3.out.next hb)
            have HRLx := Lib.hid (HRL.out.next hb)
            have HM1x := Lib.hid (HM1.out.next hb)
            have HM2x := Lib.hid (HM2.out.next hb)
            clear HBj HU3 HD3 HO3 HE3 HRL HM1 HM2
            have HBj := HBjx
            have HU3 := HU3x
            have HD3 := HD3x
            have HO3 := HO3x
            have HE3 := HE3x
            have HRL := HRLx
            have HM1 := HM1x
            have HM2 := HM2x
            clear HBjx HU3x HD3x HO3x HE3x HRLx HM1x HM2x
            clear hb
            clear HD3 HO3 HE3 HM1 HM2
            go_wp2_with fail
            go_loopg [21, 22, 23, 24, 25] 19 (fun gg s21 _ _ _ _ wr => ∃ q : Nat, s21 = .int .i64 q ∧ q ≤ 19 ∧ 19 - q ≤ gg ∧ Hid (Below v5.heap.size v5 wr))
            case atStart => exact ⟨0, rfl, by omega, by omega, Below.refl _ _⟩
            case round =>
              obtain ⟨q, rfl, hq19, hgk3, HQ⟩ := hrel
              obtain ⟨w8, hw8⟩ : ∃ w8, w8 = wr := ⟨_, rfl⟩
              subst hw8
              have HB8 := Lib.hid (HBj.out.trans (HQ.out.mono HBj.out.size))
              by_cases hq : q < 19
              · have hqz : (q : Int) < 19 := by omega
                go_wp2_with fail
                go_loopg [22, 23] n (fun gg s22 s23 wr => ∃ (k2 : Nat) (z2 : Int), s23 = .int .i64 k2 ∧ s22 = .int .i64 z2 ∧ k2 ≤ n ∧ n - k2 ≤ gg ∧ Hid (LastG l q k2 z2) ∧ Hid (Below w8.heap.size w8 wr))
                case atStart => exact ⟨0, -1, rfl, rfl, Nat.zero_le _, by omega, LastG.zero _ _, Below.refl _ _⟩
                case round =>
                  obtain ⟨k2, z2, rfl, rfl, hk2, hgk4, HL2, HP⟩ := hrel
                  have HPQ := Lib.hid (HQ.out.trans (HP.out.mono HQ.out.size))
                  by_cases hk2n : k2 < n
                  · have hk2z : (k2 : Int) < (n : Int) := by omega
                    obtain ⟨y, hy⟩ : ∃ y, l[k2]? = some y := ⟨_, List.getElem?_eq_getElem (by rw [← HN.out]; exact hk2n)⟩
                    obtain ⟨b7, o7, rfl, hat⟩ := (HRL.out.next HPQ.out) k2 y hy
                    have HY := Lib.hid hy
                    obtain ⟨a0, a1, a2, a3⟩ := hat
                    clear hy
                    by_cases hyp : y.p = q
                    · have hyb : (y.p == (q : Int)) = true := by simpa using hyp
                      have HL3 := Lib.hid (HL2.out.yes HY.out hyp)
                      go_wp2_with fail
                      go_roundg (n - (k2 + 1))
                      case measure => omega
                      case rel => exact ⟨k2 + 1, k2, by go_num, rfl, by omega, by omega, HL3.out, HP.out⟩
                    · have hyb : (y.p == (q : Int)) = false := by simpa using hyp
                      have HL3 := Lib.hid (HL2.out.no HY.out hyp)
                      go_wp2_with fail
                      go_roundg (n - (k2 + 1))
                      case measure => omega
                      case rel => exact ⟨k2 + 1, z2, by go_num, rfl, by omega, by omega, HL3.out, HP.out⟩
                  · obtain rfl : n = k2 := by omega
                    have hk2z : ¬ (n : Int) < (n : Int) := by omega
                    have HUQ := Lib.hid (HU3.out.next HPQ.out)
                    have HBQ := Lib.hid (HBj.out.trans (HPQ.out.mono HBj.out.size))
                    have CG := Lib.hid (get_yes ua (setsG l) un uc q wr (HT.out _ HBQ.out) HUQ.out.row HUQ.out.len (by have := HUQ.out.bnd; have := HUQ.out.len; omega) HR1.out)
                    rcases last_top (p := (q : Int)) HA.out (by have h := HL2.out; rw [HN.out] at h; exact h) with ⟨rfl, ho⟩ | ⟨j, y, rfl, hy, ho⟩
                    · rw [ho] at CG
                      clear ho
                      go_wp2_with fail
                      refine (CG.out).mono ?_
                      rintro e w9 ⟨rfl, hb⟩
                      have HQ9 := Lib.hid (HPQ.out.trans (hb.mono HPQ.out.size))
                      clear hb CG
                      simp only [valZ, errZ]
                      go_wp2_with fail
                      refine (num15_any 3 _).mono ?_
                      rintro e wn ⟨rfl, rfl⟩
                      go_wp2_with fail
                      go_roundg (19 - (q + 1))
                      case measure => omega
                      case rel => exact ⟨q + 1, by go_num, by omega, by omega, HQ9.out⟩
                    · rw [ho] at CG
                      clear ho
                      have hj0 : decide ((j : Int) < 0) = false := decide_eq_false (by omega)
                      have hj0' : ¬ (j : Int) < 0 := by omega
                      have hj1 : decide (0 ≤ (j : Int)) = true := decide_eq_true (by omega)
                      have hjn : (j : Int) < (n : Int) := by have h1 := (List.getElem?_eq_some_iff.1 hy).1; have h2 := HN.out; omega
                      have hjn' : j < n := by omega
                      have hvv : (y.v != y.v) = false := by simp
                      have HY := Lib.hid hy
                      clear hy
                      go_wp2_with fail
                      refine (CG.out).mono ?_
                      rintro e w9 ⟨rfl, hb⟩
                      have HQ9 := Lib.hid (HPQ.out.trans (hb.mono HPQ.out.size))
                      clear hb CG
                      obtain ⟨b7, o7, rfl, hat⟩ := (HRL.out.next HQ9.out) j y HY.out
                      obtain ⟨a0, a1, a2, a3⟩ := hat
                      simp only [valZ, errZ]
                      go_wp2_with fail
                      refine (num15_any 0 _).mono ?_
                      rintro e wn ⟨rfl, rfl⟩
                      go_wp2_with fail
                      go_roundg (19 - (q + 1))
                      case measure => omega
                      case rel => exact ⟨q + 1, by go_num, by omega, by omega, HQ9.out⟩
              · have hqz : ¬ (q : Int) < 19 := by omega
                have HB := HB8
                go_wp2_with fail
                refine (CW.out _ HB.out).mono ?_
                rintro e wz ⟨rfl, hb⟩
                have HBz := Lib.hid (HB.out.trans (hb.mono HB.out.size))
                clear hb
                go_wp2
                go_ret
                exact ⟨rfl, HBz.out⟩
end Go.Proofs.YtjpjjckokonkpaaDoor
