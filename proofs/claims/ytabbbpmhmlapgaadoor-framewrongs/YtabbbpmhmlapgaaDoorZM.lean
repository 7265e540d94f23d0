/- Joined: G14 G15 G16 G17 G18 G19. -/
import Derived.Test.YtabbbpmhmlapgaaDoorZL
import Derived.Test.YtabbbpmhmlapgaaDoorZK
import Derived.Test.YtabbbpmhmlapgaaDoorO18
import Derived.Lib.QuietBelow

/- Which frame bytes are: the program's. -/
namespace Go.Proofs.YtabbbpmhmlapgaaDoor
open Go.RowKit Go.Lib
set_option linter.unusedVariables false


theorem FrO.read {w : World} {base : Nat} {F : FrD} {h o : Value} {dl : List Value} (k : FrO w base F h o dl) : ∃ ha hn hc oa on oc, h = .slice ha hn hc ∧ o = .slice oa on oc ∧ FrR w ha F.hs hn oa F.os on := by
  obtain ⟨ha, hn, hc, e1, e2, hr, _⟩ := k.hv.form'
  obtain ⟨oa, on, oc, e3, e4, _, hro⟩ := k.ov.row k.dv.read
  exact ⟨ha, hn, hc, oa, on, oc, e1, e3, hr, e2, by have := k.hl; omega, hro, e4, by have := k.ol; omega⟩
def ParseT (X : FrD × Int) (w : World) (e : Ending) (w' : World) : Prop := ∃ h o dl, e = .returned (.tuple #[.agg #[.int .i64 X.1.fr, .int .i64 X.1.tu, .int .i64 X.1.k, h, o], .int .i64 X.2]) ∧ FrO w' w.heap.size X.1 h o dl ∧ Below w.heap.size w w' ∧ (h = .slice none 0 0 ∨ X.1.k = 1)
theorem parseT_of {bs : List Int} {X : FrD × Int} (h : prsF bs = X) {w w' : World} {e : Ending} (k : ParseT X w e w') : ParseT (prsF bs) w e w' := by rw [h]; exact k
theorem parseT_zero {x : Int} {w w' : World} (h : Below w.heap.size w w') : ParseT (zF, x) w (.returned (.tuple #[.agg #[.int .i64 0, .int .i64 0, .int .i64 0, .slice none 0 0, .slice none 0 0], .int .i64 x])) w' := ⟨_, _, [], rfl, FrO.zero _ _, h, .inl rfl⟩
theorem prsF_7 {bs : List Int} (h : bs.length < 4) : prsF bs = (zF, 7) := by unfold prsF; rw [if_pos h]
theorem prsF_8 {bs : List Int} (h : ¬ bs.length < 4) (h2 : ¬ bs.take 4 = be4 (crc (bs.drop 4))) : prsF bs = (zF, 8) := by unfold prsF; rw [if_neg h, if_pos h2]
theorem prsF_1 {bs : List Int} (h : ¬ bs.length < 4) (h2 : bs.take 4 = be4 (crc (bs.drop 4))) {F : FrD} {k : Nat} {x : Int} (hr : runB (bs.drop 4) 4 = (F, k, x)) (h3 : x ≠ 0 ∨ k < (bs.drop 4).length ∨ F.ok = false) : prsF bs = (zF, 1) := by
  unfold prsF
  rw [if_neg h, if_neg (by simpa using h2), hr, if_pos h3]
theorem prsF_0 {bs : List Int} (h : ¬ bs.length < 4) (h2 : bs.take 4 = be4 (crc (bs.drop 4))) {F : FrD} {k : Nat} (hr : runB (bs.drop 4) 4 = (F, k, 0)) (h3 : ¬ k < (bs.drop 4).length) (h4 : F.ok = true) : prsF bs = (F, 0) := by
  unfold prsF
  rw [if_neg h, if_neg (by simpa using h2), hr, if_neg (by simp only [not_or]; exact ⟨by simp, h3, by simp [h4]⟩)]

set_option maxHeartbeats 4000000 in
set_option maxRecDepth 100000 in
theorem parse_any (a : Option Addr) (bs : List Int) (n cap : Nat) (w : World) (ht : Pr.Tab w) (hn : n = bs.length) (hr : RowK .u8 w a bs) (hb : IsB bs) (hcap : bs.length ≤ cap) (hlen : bs.length ≤ 140737488355328) : Calls Tryd.prog 25 #[.slice a n cap] w (ParseT (prsF bs) w) := by
  have mixed : Tryd.prog.follows .mixedOrders = true := by kernel_rfl
  have HT := Lib.hid ht
  have HN := Lib.hid hn
  have HR := Lib.hid hr
  have HB := Lib.hid hb
  have HCAP := Lib.hid hcap
  have HLEN := Lib.hid hlen
  obtain ⟨g, hg⟩ : ∃ g, w.heap.size = g := ⟨_, rfl⟩
  have HG : Hid (w.heap.size = g) := hg
  have HB0 : Hid (Blk (w.alloc (.cells #[.int .i64 0, .int .i64 0, .int .i64 0, .slice none 0 0, .slice none 0 0] 39)) g (zF.cells (.slice none 0 0) (.slice none 0 0))) := hg ▸ fblk_new w
  have HL0 := Lib.hid (box_bel w (.cells #[.int .i64 0, .int .i64 0, .int .i64 0, .slice none 0 0, .slice none 0 0] 39))
  have HS0 : Hid ((w.alloc (.cells #[.int .i64 0, .int .i64 0, .int .i64 0, .slice none 0 0, .slice none 0 0] 39)).heap.size = g + 1) := by show _ = _; rw [World.size_alloc, hg]
  clear ht hn hr hb hcap hlen
  by_cases h4 : bs.length < 4
  · -- MA
    have hd : (n : Int) < 4 := by have := HN.out; omega
    have hd' : decide ((n : Int) < 4) = true := decide_eq_true hd
    have HE := Lib.hid (prsF_7 h4)
    clear h4
    go_enter Tryd.func25, Tryd.ntmps25
    go_wp2_with fail
    generalize w.alloc (.cells #[.int .i64 0, .int .i64 0, .int .i64 0, .slice none 0 0, .slice none 0 0] 39) = WX at *
    clear hg
    have e0 := HB0.out.cell 0 _ rfl
    have f0 := HB0.out.free 0 _ rfl
    have e1 := HB0.out.cell 1 _ rfl
    have f1 := HB0.out.free 1 _ rfl
    have e2 := HB0.out.cell 2 _ rfl
    have f2 := HB0.out.free 2 _ rfl
    have e3 := HB0.out.cell 3 _ rfl
    have f3 := HB0.out.free 3 _ rfl
    have e4 := HB0.out.cell 4 _ rfl
    have f4 := HB0.out.free 4 _ rfl
    go_wp2
    refine bodyPost_ret (v := .tuple #[.agg #[.int .i64 0, .int .i64 0, .int .i64 0, .slice none 0 0, .slice none 0 0], .int .i64 7]) (by simp [results, Tryd.results25, go_sem, zF, e0, e1, e2, e3, e4]) rfl ?_
    exact parseT_of HE.out (parseT_zero HL0.out)
  · have hd : ¬ (n : Int) < 4 := by have := HN.out; omega
    have hd' : decide ((n : Int) < 4) = false := decide_eq_false hd
    have H4 := Lib.hid h4
    have HROW := Lib.hid (HR.out.alloc (.cells #[.int .i64 0, .int .i64 0, .int .i64 0, .slice none 0 0, .slice none 0 0] 39))
    have hsl : ∀ W, (Instr.slice 33 (.slice a n cap) (some (.int .i64 4)) none none).run Tryd.prog W = .ok (.slice (partA a 4 cap) (n - 4) (cap - 4)) W := fun W => slice_l W a n cap 4 4 rfl (by have := HN.out; omega)
    have hsh : ∀ W, (Instr.slice 33 (.slice a n cap) none (some (.int .i64 4)) none).run Tryd.prog W = .ok (.slice (partA a 0 cap) 4 cap) W := fun W => slice_h W a n cap 4 4 rfl (by have := HN.out; have := HCAP.out; omega)
    clear h4
    go_enter Tryd.func25, Tryd.ntmps25
    go_wp2_with fail
    generalize w.alloc (.cells #[.int .i64 0, .int .i64 0, .int .i64 0, .slice none 0 0, .slice none 0 0] 39) = WX at *
    clear hg
    obtain ⟨bd, hbd⟩ : ∃ l, bs.drop 4 = l := ⟨_, rfl⟩
    have HBD := Lib.hid hbd
    have HRB : Hid (∀ W, Below WX.heap.size WX W → RowK .u8 W (partA a 4 cap) bd) := fun W h => by rw [← hbd]; exact (HROW.out.below h (Nat.le_refl _)).rest 4 cap HCAP.out
    have HNB : Hid (n - 4 = bd.length) := by show _ = _; rw [← hbd, List.length_drop, HN.out]
    have HBB : Hid (IsB bd) := by show IsB bd; rw [← hbd]; exact HB.out.drop 4
    have HLB : Hid (bd.length ≤ 140737488355328) := by have := HLEN.out; show _ ≤ _; rw [← hbd, List.length_drop]; omega
    have HRT : Hid (∀ W, Below WX.heap.size WX W → RowK .u8 W (partA a 0 cap) (bs.take 4)) := fun W h => (HROW.out.below h (Nat.le_refl _)).first 4 cap HCAP.out
    have HN4 : Hid (4 = (bs.take 4).length) := by have := H4.out; show 4 = _; rw [List.length_take]; omega
    have HBT : Hid (IsB (bs.take 4)) := fun z hz => HB.out z (List.mem_of_mem_take hz)
    have C45 : Hid (∀ W, Hid (Below WX.heap.size WX W) → Calls Tryd.prog 22 #[.slice (partA a 4 cap) (n - 4) (cap - 4)] W fun e w' => ∃ v', e = .returned v' ∧ OwnK .u8 5 w' W.heap.size v' (be4 (crc bd)) ∧ Below W.heap.size W w' ∧ Hid (Below WX.heap.size WX w')) := fun W h => by
      refine (sumBytes_any _ bd _ _ W HNB.out (HRB.out W h.out) HBB.out HLB.out).mono ?_
      rintro e w' ⟨v', e1, e2, e3⟩
      exact ⟨v', e1, e2, e3, h.out.trans (e3.mono h.out.size)⟩
    obtain ⟨bq, hbq⟩ : ∃ b, decide (bs.take 4 = be4 (crc bd)) = b := ⟨_, rfl⟩
    have HBQ := Lib.hid hbq
    have C50 : Hid (∀ W a8 n8 c8, Hid (Below WX.heap.size WX W) → n8 = (be4 (crc bd)).length → RowK .u8 W a8 (be4 (crc bd)) → Calls Tryd.prog 41 #[.slice (partA a 0 cap) 4 cap, .slice a8 n8 c8] W fun e w' => e = .returned (.bool bq) ∧ W = w') := fun W a8 n8 c8 h h8 hr8 => by rw [← hbq]; exact bytesEq_any _ a8 (bs.take 4) (be4 (crc bd)) 4 cap n8 c8 W HN4.out h8 (HRT.out W h.out) hr8 HBT.out (be4_isB (crc_lt HBB.out))
    have hS0 : Hid (Below WX.heap.size WX WX.drew) := (Below.refl WX.heap.size WX).drew
    clear hbd hbq
    go_region_held3 (fun w' => Hid (Below WX.heap.size WX w')) (with_reducible assumption) (first
      | (go_at_call 22
         (with_reducible refine (C45.out _ (by with_reducible assumption)).mono ?_)
         rintro e w8 ⟨v8, rfl, ho8, hb8, hx8⟩
         obtain ⟨a8, n8, c8, rfl, hn8, hr8, hc8⟩ := ho8.form'
         have HR8 := Lib.hid hr8
         have HN8 := Lib.hid hn8
         have HX8 := Lib.hid hx8
         clear ho8 hn8 hr8 hc8 hb8)
      | (go_at_call 41
         (with_reducible refine (C50.out _ _ _ _ (by with_reducible assumption) HN8.out HR8.out).mono ?_)
         rintro e w7 ⟨rfl, rfl⟩))
    have HB8 := Lib.hid (HB0.out.below HX8.out.out (by have := HS0.out; omega))
    have HL8 := Lib.hid (HL0.out.trans (HX8.out.out.mono HL0.out.size))
    have HSZ8 := Lib.hid HX8.out.out.size
    cases bq with
    | false =>
      -- MB
      have HE : Hid (prsF bs = (zF, 8)) := prsF_8 H4.out (by rw [HBD.out]; exact of_decide_eq_false HBQ.out)
      have e0 := HB8.out.cell 0 _ rfl
      have f0 := HB8.out.free 0 _ rfl
      have e1 := HB8.out.cell 1 _ rfl
      have f1 := HB8.out.free 1 _ rfl
      have e2 := HB8.out.cell 2 _ rfl
      have f2 := HB8.out.free 2 _ rfl
      have e3 := HB8.out.cell 3 _ rfl
      have f3 := HB8.out.free 3 _ rfl
      have e4 := HB8.out.cell 4 _ rfl
      have f4 := HB8.out.free 4 _ rfl
      have hb0 := fr_build0
      go_wp2
      have HZ := (((((HB8.out.set 0 (.int .i64 0)).set 1 (.int .i64 0)).set 2 (.int .i64 0)).set 3 (.slice none 0 0)).set 4 (.slice none 0 0))
      have z0 := HZ.cell 0 _ rfl
      have z1 := HZ.cell 1 _ rfl
      have z2 := HZ.cell 2 _ rfl
      have z3 := HZ.cell 3 _ rfl
      have z4 := HZ.cell 4 _ rfl
      clear HZ e0 f0 e1 f1 e2 f2 e3 f3 e4 f4
      refine bodyPost_ret (v := .tuple #[.agg #[.int .i64 0, .int .i64 0, .int .i64 0, .slice none 0 0, .slice none 0 0], .int .i64 8]) (by simp [results, Tryd.results25, go_sem, z0, z1, z2, z3, z4]) rfl ?_
      exact parseT_of HE.out (parseT_zero (((((HL8.out.setCell (p := ⟨g, 0, none⟩) (Nat.le_of_eq HG.out) _).setCell (p := ⟨g, 1, none⟩) (Nat.le_of_eq HG.out) _).setCell (p := ⟨g, 2, none⟩) (Nat.le_of_eq HG.out) _).setCell (p := ⟨g, 3, none⟩) (Nat.le_of_eq HG.out) _).setCell (p := ⟨g, 4, none⟩) (Nat.le_of_eq HG.out) _))
    | true =>
      have HQ : Hid (bs.take 4 = be4 (crc (bs.drop 4))) := by show _ = _; rw [HBD.out]; exact of_decide_eq_true HBQ.out
      obtain ⟨⟨F, k, x⟩, hx⟩ : ∃ Z, runB bd 4 = Z := ⟨_, rfl⟩
      have HX : Hid (runB (bs.drop 4) 4 = (F, k, x)) := by show _ = _; rw [HBD.out]; exact hx
      have C51 := Lib.hid (takeBody_any (partA a 4 cap) bd (n - 4) (cap - 4) w8 (HT.out.below HL8.out HT.out.lt) HNB.out (HRB.out w8 HX8.out.out) HBB.out (by have h1 := HNB.out; have h2 := HCAP.out; have h3 := HN.out; omega) HLB.out)
      rw [hx] at C51
      unfold BodyT at C51
      clear hx
      go_wp2_with fail
      refine (C51.out).mono ?_
      rintro e w9 ⟨h9, o9, dl9, rfl, hF9, hb9, hn9⟩
      obtain ⟨ha, hn, hc, oa, on, oc, rfl, rfl, hR9⟩ := hF9.read
      have HF9 := Lib.hid hF9
      have HR9 := Lib.hid hR9
      have HN9 := Lib.hid hn9
      have HB9 := Lib.hid (HB8.out.next hb9)
      have HL9 := Lib.hid (HL8.out.trans (hb9.mono HL8.out.size))
      have HS9 := Lib.hid hb9.size
      clear hF9 hR9 hn9 hb9 C51
      simp only
      have HBA := Lib.hid (HB9.out.next (box_bel w9 (.cells #[.int .i64 F.fr, .int .i64 F.tu, .int .i64 F.k, .slice ha hn hc, .slice oa on oc] 39)))
      have HLA := Lib.hid (HL9.out.trans ((box_bel w9 (.cells #[.int .i64 F.fr, .int .i64 F.tu, .int .i64 F.k, .slice ha hn hc, .slice oa on oc] 39)).mono HL9.out.size))
      have HAT := Lib.hid (FrAt.new w9 F.fr F.tu F.k ha hn hc oa on oc)
      by_cases hx0 : x = 0
      · subst hx0
        by_cases hk : k < bd.length
        · -- MC
          have hkz : (k : Int) < ((n - 4 : Nat) : Int) := by have := HNB.out; omega
          have hkd : decide ((k : Int) < ((n - 4 : Nat) : Int)) = true := decide_eq_true hkz
          have HE : Hid (prsF bs = (zF, 1)) := prsF_1 H4.out HQ.out HX.out (.inr (.inl (by rw [HBD.out]; exact hk)))
          clear hk
          have e0 := HBA.out.cell 0 _ rfl
          have f0 := HBA.out.free 0 _ rfl
          have e1 := HBA.out.cell 1 _ rfl
          have f1 := HBA.out.free 1 _ rfl
          have e2 := HBA.out.cell 2 _ rfl
          have f2 := HBA.out.free 2 _ rfl
          have e3 := HBA.out.cell 3 _ rfl
          have f3 := HBA.out.free 3 _ rfl
          have e4 := HBA.out.cell 4 _ rfl
          have f4 := HBA.out.free 4 _ rfl
          have hb0 := fr_build0
          go_wp2
          have HZ := (((((HBA.out.set 0 (.int .i64 0)).set 1 (.int .i64 0)).set 2 (.int .i64 0)).set 3 (.slice none 0 0)).set 4 (.slice none 0 0))
          have z0 := HZ.cell 0 _ rfl
          have z1 := HZ.cell 1 _ rfl
          have z2 := HZ.cell 2 _ rfl
          have z3 := HZ.cell 3 _ rfl
          have z4 := HZ.cell 4 _ rfl
          clear HZ e0 f0 e1 f1 e2 f2 e3 f3 e4 f4
          refine bodyPost_ret (v := .tuple #[.agg #[.int .i64 0, .int .i64 0, .int .i64 0, .slice none 0 0, .slice none 0 0], .int .i64 1]) (by simp [results, Tryd.results25, go_sem, z0, z1, z2, z3, z4]) rfl ?_
          exact parseT_of HE.out (parseT_zero (((((HLA.out.setCell (p := ⟨g, 0, none⟩) (Nat.le_of_eq HG.out) _).setCell (p := ⟨g, 1, none⟩) (Nat.le_of_eq HG.out) _).setCell (p := ⟨g, 2, none⟩) (Nat.le_of_eq HG.out) _).setCell (p := ⟨g, 3, none⟩) (Nat.le_of_eq HG.out) _).setCell (p := ⟨g, 4, none⟩) (Nat.le_of_eq HG.out) _))
        · have hkz : ¬ (k : Int) < ((n - 4 : Nat) : Int) := by have := HNB.out; omega
          have hkd : decide ((k : Int) < ((n - 4 : Nat) : Int)) = false := decide_eq_false hkz
          have HRA := Lib.hid (HR9.out.below (box_bel w9 (.cells #[.int .i64 F.fr, .int .i64 F.tu, .int .i64 F.k, .slice ha hn hc, .slice oa on oc] 39)))
          have HTA := Lib.hid (HT.out.below HLA.out HT.out.lt)
          have HFA := Lib.hid (HF9.out.below (box_bel w9 (.cells #[.int .i64 F.fr, .int .i64 F.tu, .int .i64 F.k, .slice ha hn hc, .slice oa on oc] 39)))
          obtain ⟨c0, c1, c2, c3, c4⟩ := HAT.out
          cases hok : F.ok with
          | true =>
            -- MD
            have HE : Hid (prsF bs = (F, 0)) := prsF_0 H4.out HQ.out HX.out (by rw [HBD.out]; exact hk) hok
            have C19 := Lib.hid (frCheck_is F.fr F.tu F.k ha F.hs hn hc oa F.os on oc (w9.alloc (.cells #[.int .i64 F.fr, .int .i64 F.tu, .int .i64 F.k, .slice ha hn hc, .slice oa on oc] 39)) HTA.out HRA.out 0 (by rw [show frB F.fr F.tu F.k F.hs F.os = true from hok]; rfl))
            clear hk hok
            go_wp2_with fail
            refine (C19.out).mono ?_
            rintro e w10 ⟨rfl, hb10⟩
            clear c0 c1 c2 c3 c4
            obtain ⟨c0, c1, c2, c3, c4⟩ := HAT.out.next hb10
            have HB10 := Lib.hid (HBA.out.next hb10)
            have HL10 := Lib.hid (HLA.out.trans (hb10.mono HLA.out.size))
            have HF10 := Lib.hid (HFA.out.below hb10)
            have HGL : Hid (g < w8.heap.size) := by have h1 := HS0.out; have h2 := HSZ8.out; show _ < _; omega
            have HGM : Hid (w.heap.size ≤ w8.heap.size) := by have h1 := HGL.out; have h2 := HG.out; show _ ≤ _; omega
            have hne : ¬ g = w9.heap.size := by have h1 := HGL.out; have h2 := HS9.out; omega
            clear hb10
            have e0 := HB10.out.cell 0 _ rfl
            have f0 := HB10.out.free 0 _ rfl
            have e1 := HB10.out.cell 1 _ rfl
            have f1 := HB10.out.free 1 _ rfl
            have e2 := HB10.out.cell 2 _ rfl
            have f2 := HB10.out.free 2 _ rfl
            have e3 := HB10.out.cell 3 _ rfl
            have f3 := HB10.out.free 3 _ rfl
            have e4 := HB10.out.cell 4 _ rfl
            have f4 := HB10.out.free 4 _ rfl
            go_wp2
            have HZ := (((((HB10.out.set 0 ((.int .i64 F.fr))).set 1 ((.int .i64 F.tu))).set 2 ((.int .i64 F.k))).set 3 ((.slice ha hn hc))).set 4 ((.slice oa on oc)))
            have z0 := HZ.cell 0 _ rfl
            have z1 := HZ.cell 1 _ rfl
            have z2 := HZ.cell 2 _ rfl
            have z3 := HZ.cell 3 _ rfl
            have z4 := HZ.cell 4 _ rfl
            clear HZ e0 f0 e1 f1 e2 f2 e3 f3 e4 f4
            refine bodyPost_ret (v := .tuple #[.agg #[.int .i64 F.fr, .int .i64 F.tu, .int .i64 F.k, .slice ha hn hc, .slice oa on oc], .int .i64 0]) (by simp [results, Tryd.results25, go_sem, z0, z1, z2, z3, z4]) rfl ?_
            exact parseT_of HE.out ⟨_, _, dl9, rfl, ((((((HF10.out.far HGL.out 0 _).far HGL.out 1 _).far HGL.out 2 _).far HGL.out 3 _).far HGL.out 4 _)).mono HGM.out, (((((HL10.out.setCell (p := ⟨g, 0, none⟩) (Nat.le_of_eq HG.out) _).setCell (p := ⟨g, 1, none⟩) (Nat.le_of_eq HG.out) _).setCell (p := ⟨g, 2, none⟩) (Nat.le_of_eq HG.out) _).setCell (p := ⟨g, 3, none⟩) (Nat.le_of_eq HG.out) _).setCell (p := ⟨g, 4, none⟩) (Nat.le_of_eq HG.out) _), HN9.out⟩
          | false =>
            -- ME
            have HE : Hid (prsF bs = (zF, 1)) := prsF_1 H4.out HQ.out HX.out (.inr (.inr hok))
            have C19 := Lib.hid (frCheck_is F.fr F.tu F.k ha F.hs hn hc oa F.os on oc (w9.alloc (.cells #[.int .i64 F.fr, .int .i64 F.tu, .int .i64 F.k, .slice ha hn hc, .slice oa on oc] 39)) HTA.out HRA.out 1 (by rw [show frB F.fr F.tu F.k F.hs F.os = false from hok]; rfl))
            clear hk hok
            go_wp2_with fail
            refine (C19.out).mono ?_
            rintro e w10 ⟨rfl, hb10⟩
            clear c0 c1 c2 c3 c4
            have HB10 := Lib.hid (HBA.out.next hb10)
            have HL10 := Lib.hid (HLA.out.trans (hb10.mono HLA.out.size))
            clear hb10
            have e0 := HB10.out.cell 0 _ rfl
            have f0 := HB10.out.free 0 _ rfl
            have e1 := HB10.out.cell 1 _ rfl
            have f1 := HB10.out.free 1 _ rfl
            have e2 := HB10.out.cell 2 _ rfl
            have f2 := HB10.out.free 2 _ rfl
            have e3 := HB10.out.cell 3 _ rfl
            have f3 := HB10.out.free 3 _ rfl
            have e4 := HB10.out.cell 4 _ rfl
            have f4 := HB10.out.free 4 _ rfl
            have hb0 := fr_build0
            go_wp2
            have HZ := (((((HB10.out.set 0 (.int .i64 0)).set 1 (.int .i64 0)).set 2 (.int .i64 0)).set 3 (.slice none 0 0)).set 4 (.slice none 0 0))
            have z0 := HZ.cell 0 _ rfl
            have z1 := HZ.cell 1 _ rfl
            have z2 := HZ.cell 2 _ rfl
            have z3 := HZ.cell 3 _ rfl
            have z4 := HZ.cell 4 _ rfl
            clear HZ e0 f0 e1 f1 e2 f2 e3 f3 e4 f4
            refine bodyPost_ret (v := .tuple #[.agg #[.int .i64 0, .int .i64 0, .int .i64 0, .slice none 0 0, .slice none 0 0], .int .i64 1]) (by simp [results, Tryd.results25, go_sem, z0, z1, z2, z3, z4]) rfl ?_
            exact parseT_of HE.out (parseT_zero (((((HL10.out.setCell (p := ⟨g, 0, none⟩) (Nat.le_of_eq HG.out) _).setCell (p := ⟨g, 1, none⟩) (Nat.le_of_eq HG.out) _).setCell (p := ⟨g, 2, none⟩) (Nat.le_of_eq HG.out) _).setCell (p := ⟨g, 3, none⟩) (Nat.le_of_eq HG.out) _).setCell (p := ⟨g, 4, none⟩) (Nat.le_of_eq HG.out) _))
      · -- MF
        have hxz : (x == 0) = false := by simpa using hx0
        have HE : Hid (prsF bs = (zF, 1)) := prsF_1 H4.out HQ.out HX.out (.inl hx0)
        have e0 := HBA.out.cell 0 _ rfl
        have f0 := HBA.out.free 0 _ rfl
        have e1 := HBA.out.cell 1 _ rfl
        have f1 := HBA.out.free 1 _ rfl
        have e2 := HBA.out.cell 2 _ rfl
        have f2 := HBA.out.free 2 _ rfl
        have e3 := HBA.out.cell 3 _ rfl
        have f3 := HBA.out.free 3 _ rfl
        have e4 := HBA.out.cell 4 _ rfl
        have f4 := HBA.out.free 4 _ rfl
        have hb0 := fr_build0
        go_wp2
        have HZ := (((((HBA.out.set 0 (.int .i64 0)).set 1 (.int .i64 0)).set 2 (.int .i64 0)).set 3 (.slice none 0 0)).set 4 (.slice none 0 0))
        have z0 := HZ.cell 0 _ rfl
        have z1 := HZ.cell 1 _ rfl
        have z2 := HZ.cell 2 _ rfl
        have z3 := HZ.cell 3 _ rfl
        have z4 := HZ.cell 4 _ rfl
        clear HZ e0 f0 e1 f1 e2 f2 e3 f3 e4 f4
        refine bodyPost_ret (v := .tuple #[.agg #[.int .i64 0, .int .i64 0, .int .i64 0, .slice none 0 0, .slice none 0 0], .int .i64 1]) (by simp [results, Tryd.results25, go_sem, z0, z1, z2, z3, z4]) rfl ?_
        exact parseT_of HE.out (parseT_zero (((((HLA.out.setCell (p := ⟨g, 0, none⟩) (Nat.le_of_eq HG.out) _).setCell (p := ⟨g, 1, none⟩) (Nat.le_of_eq HG.out) _).setCell (p := ⟨g, 2, none⟩) (Nat.le_of_eq HG.out) _).setCell (p := ⟨g, 3, none⟩) (Nat.le_of_eq HG.out) _).setCell (p := ⟨g, 4, none⟩) (Nat.le_of_eq HG.out) _))

end Go.Proofs.YtabbbpmhmlapgaaDoor

/- Rows of operations, and frames, held against each other: the same. -/
namespace Go.Proofs.YtabbbpmhmlapgaaDoor
open Go.RowKit Go.Lib
set_option linter.unusedVariables false


theorem held2_mk {WX : World} {b1 o1 b2 o2 k : Nat} {t r q : Int} {da da' : Option Addr} {dn dc dc' : Nat} {kd nt nr pt pr : Int} {s : ByteArray} {p v : Int} {W : World} (h1 : OpAt WX b1 (o1 + k * 12) t r q da dn dc kd nt nr pt pr s p v) (h2 : OpAt WX b2 (o2 + k * 12) t r q da' dn dc' kd nt nr pt pr s p v) (hb : Below WX.heap.size WX W) : W.cell? ⟨b1, o1 + k * 12, none⟩ = some (.int .i64 t) ∧ W.cell? ⟨b1, o1 + k * 12 + 1, none⟩ = some (.int .i64 r) ∧ W.cell? ⟨b1, o1 + k * 12 + 2, none⟩ = some (.int .i64 q) ∧ W.cell? ⟨b1, o1 + k * 12 + 3, none⟩ = some (.slice da dn dc) ∧ W.cell? ⟨b1, o1 + k * 12 + 4, none⟩ = some (.int .i64 kd) ∧ W.cell? ⟨b1, o1 + k * 12 + 5, none⟩ = some (.int .i64 nt) ∧ W.cell? ⟨b1, o1 + k * 12 + 6, none⟩ = some (.int .i64 nr) ∧ W.cell? ⟨b1, o1 + k * 12 + 7, none⟩ = some (.int .i64 pt) ∧ W.cell? ⟨b1, o1 + k * 12 + 8, none⟩ = some (.int .i64 pr) ∧ W.cell? ⟨b1, o1 + k * 12 + 9, none⟩ = some (.string s) ∧ W.cell? ⟨b1, o1 + k * 12 + 10, none⟩ = some (.int .i64 p) ∧ W.cell? ⟨b1, o1 + k * 12 + 11, none⟩ = some (.int .i64 v) ∧ W.cell? ⟨b2, o2 + k * 12, none⟩ = some (.int .i64 t) ∧ W.cell? ⟨b2, o2 + k * 12 + 1, none⟩ = some (.int .i64 r) ∧ W.cell? ⟨b2, o2 + k * 12 + 2, none⟩ = some (.int .i64 q) ∧ W.cell? ⟨b2, o2 + k * 12 + 3, none⟩ = some (.slice da' dn dc') ∧ W.cell? ⟨b2, o2 + k * 12 + 4, none⟩ = some (.int .i64 kd) ∧ W.cell? ⟨b2, o2 + k * 12 + 5, none⟩ = some (.int .i64 nt) ∧ W.cell? ⟨b2, o2 + k * 12 + 6, none⟩ = some (.int .i64 nr) ∧ W.cell? ⟨b2, o2 + k * 12 + 7, none⟩ = some (.int .i64 pt) ∧ W.cell? ⟨b2, o2 + k * 12 + 8, none⟩ = some (.int .i64 pr) ∧ W.cell? ⟨b2, o2 + k * 12 + 9, none⟩ = some (.string s) ∧ W.cell? ⟨b2, o2 + k * 12 + 10, none⟩ = some (.int .i64 p) ∧ W.cell? ⟨b2, o2 + k * 12 + 11, none⟩ = some (.int .i64 v) ∧ Hid (Below WX.heap.size WX W) := by
  have a := h1.next hb
  have b := h2.next hb
  exact ⟨a.c0, a.c1, a.c2, a.c3, a.c4, a.c5, a.c6, a.c7, a.c8, a.c9, a.c10, a.c11, b.c0, b.c1, b.c2, b.c3, b.c4, b.c5, b.c6, b.c7, b.c8, b.c9, b.c10, b.c11, hb⟩
set_option maxHeartbeats 2000000 in
set_option maxRecDepth 100000 in
theorem eqOps_yes (a b : Option Addr) (os : List OpD) (n1 n2 c1 c2 : Nat) (w : World) (ha : RowO w a os) (hb : RowO w b os) (h1 : n1 = os.length) (h2 : n2 = os.length) (hl : os.length ≤ 140737488355328) :
    Calls Tryd.prog 43 #[.slice a n1 c1, .slice b n2 c2] w (BoolPost w true) := by
  have mixed : Tryd.prog.follows .mixedOrders = true := by kernel_rfl
  have e12 : n2 = n1 := by omega
  subst e12
  have HA := Lib.hid ha
  have HB := Lib.hid hb
  have HN := Lib.hid h1
  have hnl : n2 ≤ 140737488355328 := by omega
  clear ha hb h1 h2 hl
  go_enter Tryd.func43, Tryd.ntmps43
  go_wp2
  go_loopg [5] n2 (fun g1 v wr => ∃ k : Nat, v = .int .i64 k ∧ k ≤ n2 ∧ n2 - k ≤ g1 ∧ Hid (Below w.heap.size w wr))
  case atStart => exact ⟨0, rfl, by omega, by omega, Below.refl _ _⟩
  case round =>
    obtain ⟨k, rfl, hk, hg, HI⟩ := hrel
    by_cases hin : k < n2
    · have hinz : (k : Int) < (n2 : Int) := by omega
      obtain ⟨x, hx⟩ : ∃ x, os[k]? = some x := ⟨_, List.getElem?_eq_getElem (by rw [← HN.out]; exact hin)⟩
      obtain ⟨b1, o1, rfl, da, dc, hat1, hr1, hdm⟩ := (HA.out.below HI.out) k x hx
      obtain ⟨b2, o2, rfl, da', dc', hat2, hr2, -⟩ := (HB.out.below HI.out) k x hx
      obtain ⟨⟨t, r, ds, kd, nt, nr, pt, pr, s, p, v⟩, q⟩ := x
      simp only at hat1 hat2 hr1 hr2 hdm
      have HR1 := Lib.hid hr1
      have HR2 := Lib.hid hr2
      have HDM := Lib.hid hdm
      clear hx hr1 hr2 hdm
      generalize hdn : ds.length = dn at *
      have HDN := Lib.hid hdn
      clear hdn
      have hS0 := held2_mk hat1 hat2 (Below.refl wr.heap.size wr).drew
      have HS := Lib.hid (fun W (h : Below wr.heap.size wr W) => held2_mk hat1 hat2 h)
      have C : Hid (∀ W, Below wr.heap.size wr W → Calls Tryd.prog 20 #[.agg #[.int .i64 t, .int .i64 r, .int .i64 q, .slice da dn dc, .int .i64 kd, .int .i64 nt, .int .i64 nr, .int .i64 pt, .int .i64 pr, .string s, .int .i64 p, .int .i64 v], .agg #[.int .i64 t, .int .i64 r, .int .i64 q, .slice da' dn dc', .int .i64 kd, .int .i64 nt, .int .i64 nr, .int .i64 pt, .int .i64 pr, .string s, .int .i64 p, .int .i64 v]] W (BoolPost W true)) := fun W h => eqOp_bel t r q da ds dn dc kd nt nr pt pr s p v da' dn dc' W (HR1.out.below h (Nat.le_refl _)) HDN.out.symm (by have := HDM.out; have := HDN.out; omega) (HR2.out.below h (Nat.le_refl _)) HDN.out.symm
      clear hat1 hat2
      go_wp2_with fail
      go_region_held3 (fun w' => w'.cell? ⟨b1, o1 + k * 12, none⟩ = some (.int .i64 t) ∧ w'.cell? ⟨b1, o1 + k * 12 + 1, none⟩ = some (.int .i64 r) ∧ w'.cell? ⟨b1, o1 + k * 12 + 2, none⟩ = some (.int .i64 q) ∧ w'.cell? ⟨b1, o1 + k * 12 + 3, none⟩ = some (.slice da dn dc) ∧ w'.cell? ⟨b1, o1 + k * 12 + 4, none⟩ = some (.int .i64 kd) ∧ w'.cell? ⟨b1, o1 + k * 12 + 5, none⟩ = some (.int .i64 nt) ∧ w'.cell? ⟨b1, o1 + k * 12 + 6, none⟩ = some (.int .i64 nr) ∧ w'.cell? ⟨b1, o1 + k * 12 + 7, none⟩ = some (.int .i64 pt) ∧ w'.cell? ⟨b1, o1 + k * 12 + 8, none⟩ = some (.int .i64 pr) ∧ w'.cell? ⟨b1, o1 + k * 12 + 9, none⟩ = some (.string s) ∧ w'.cell? ⟨b1, o1 + k * 12 + 10, none⟩ = some (.int .i64 p) ∧ w'.cell? ⟨b1, o1 + k * 12 + 11, none⟩ = some (.int .i64 v) ∧ w'.cell? ⟨b2, o2 + k * 12, none⟩ = some (.int .i64 t) ∧ w'.cell? ⟨b2, o2 + k * 12 + 1, none⟩ = some (.int .i64 r) ∧ w'.cell? ⟨b2, o2 + k * 12 + 2, none⟩ = some (.int .i64 q) ∧ w'.cell? ⟨b2, o2 + k * 12 + 3, none⟩ = some (.slice da' dn dc') ∧ w'.cell? ⟨b2, o2 + k * 12 + 4, none⟩ = some (.int .i64 kd) ∧ w'.cell? ⟨b2, o2 + k * 12 + 5, none⟩ = some (.int .i64 nt) ∧ w'.cell? ⟨b2, o2 + k * 12 + 6, none⟩ = some (.int .i64 nr) ∧ w'.cell? ⟨b2, o2 + k * 12 + 7, none⟩ = some (.int .i64 pt) ∧ w'.cell? ⟨b2, o2 + k * 12 + 8, none⟩ = some (.int .i64 pr) ∧ w'.cell? ⟨b2, o2 + k * 12 + 9, none⟩ = some (.string s) ∧ w'.cell? ⟨b2, o2 + k * 12 + 10, none⟩ = some (.int .i64 p) ∧ w'.cell? ⟨b2, o2 + k * 12 + 11, none⟩ = some (.int .i64 v) ∧ Hid (Below wr.heap.size wr w')) (with_reducible assumption) (first
        | (go_at_call 20
           (with_reducible refine (C.out _ ((Below.refl wr.heap.size wr).drew)).mono ?_)
           rintro e w9 ⟨rfl, hb9⟩
           have hS9 := HS.out w9 ((Below.refl wr.heap.size wr).drew.trans hb9)
           have HB9 := Lib.hid (HI.out.trans (((Below.refl wr.heap.size wr).drew.trans hb9).mono HI.out.size))
           clear hb9))
      clear hS0 hS9
      go_wp2_with fail
      go_roundg (n2 - (k + 1))
      case measure => omega
      case rel => exact ⟨k + 1, by go_num, by omega, by omega, HB9.out⟩
    · have hinz : ¬ (k : Int) < (n2 : Int) := by omega
      go_wp2
      go_ret
      exact ⟨rfl, HI.out⟩

set_option maxHeartbeats 1000000 in
set_option maxRecDepth 100000 in
theorem eqFrame_yes (fr tu k : Int) (ha : Option Addr) (hs : List Int) (hn hc : Nat) (oa : Option Addr) (os : List OpD) (on oc : Nat) (ha' : Option Addr) (hn' hc' : Nat) (oa' : Option Addr) (on' oc' : Nat) (w : World) (h : FrR w ha hs hn oa os on) (h' : FrR w ha' hs hn' oa' os on') : Calls Tryd.prog 26 #[.agg #[.int .i64 fr, .int .i64 tu, .int .i64 k, .slice ha hn hc, .slice oa on oc], .agg #[.int .i64 fr, .int .i64 tu, .int .i64 k, .slice ha' hn' hc', .slice oa' on' oc']] w (BoolPost w true) := by
  have HB := Lib.hid (St.below2 w (.cells #[.int .i64 fr, .int .i64 tu, .int .i64 k, .slice ha hn hc, .slice oa on oc] 39) (.cells #[.int .i64 fr, .int .i64 tu, .int .i64 k, .slice ha' hn' hc', .slice oa' on' oc'] 39))
  have HA1 := Lib.hid ((FrAt.new w fr tu k ha hn hc oa on oc).next (box_bel _ (.cells #[.int .i64 fr, .int .i64 tu, .int .i64 k, .slice ha' hn' hc', .slice oa' on' oc'] 39)))
  have HA2 := Lib.hid (FrAt.new (w.alloc (.cells #[.int .i64 fr, .int .i64 tu, .int .i64 k, .slice ha hn hc, .slice oa on oc] 39)) fr tu k ha' hn' hc' oa' on' oc')
  rw [World.size_alloc] at HA2
  have HF1 := Lib.hid (h.below HB.out)
  have HF2 := Lib.hid (h'.below HB.out)
  have hom : os.length ≤ 140737488355328 := by have := h.om; omega
  have C := Lib.hid (eqI_yes ha ha' hs hn hn' hc hc' ((w.alloc (.cells #[.int .i64 fr, .int .i64 tu, .int .i64 k, .slice ha hn hc, .slice oa on oc] 39)).alloc (.cells #[.int .i64 fr, .int .i64 tu, .int .i64 k, .slice ha' hn' hc', .slice oa' on' oc'] 39)) HF1.out.rh HF2.out.rh h.hl h'.hl (by have := h.hm; omega))
  have C2 := Lib.hid (fun W (hb : Below ((w.alloc (.cells #[.int .i64 fr, .int .i64 tu, .int .i64 k, .slice ha hn hc, .slice oa on oc] 39)).alloc (.cells #[.int .i64 fr, .int .i64 tu, .int .i64 k, .slice ha' hn' hc', .slice oa' on' oc'] 39)).heap.size ((w.alloc (.cells #[.int .i64 fr, .int .i64 tu, .int .i64 k, .slice ha hn hc, .slice oa on oc] 39)).alloc (.cells #[.int .i64 fr, .int .i64 tu, .int .i64 k, .slice ha' hn' hc', .slice oa' on' oc'] 39)) W) => eqOps_yes oa oa' os on on' oc oc' W (HF1.out.ro.below hb) (HF2.out.ro.below hb) h.ol h'.ol hom)
  clear h h' hom
  go_enter Tryd.func26, Tryd.ntmps26
  go_wp2_with fail
  refine (C.out).mono ?_
  rintro e w1 ⟨rfl, m, rfl⟩
  obtain ⟨c0, c1, c2, c3, c4⟩ := HA1.out
  obtain ⟨d0, d1, d2, d3, d4⟩ := HA2.out
  go_wp2_with fail
  refine (C2.out _ (below_drewN (Below.refl _ _) m)).mono ?_
  rintro e w2 ⟨rfl, hb2⟩
  have HB2 := Lib.hid ((below_drewN HB.out m).trans (hb2.mono (below_drewN HB.out m).size))
  clear hb2
  go_wp2
  go_ret
  exact ⟨rfl, HB2.out⟩
end Go.Proofs.YtabbbpmhmlapgaaDoor

/- Operations, and frames, copied. -/
namespace Go.Proofs.YtabbbpmhmlapgaaDoor
open Go.RowKit Go.Lib
set_option linter.unusedVariables false


def CopyO (os : List OpD) (w : World) (e : Ending) (w' : World) : Prop := ∃ v dl, e = .returned v ∧ OwnO w' w.heap.size v os dl ∧ DepsO w' w.heap.size os dl ∧ Below w.heap.size w w'
structure CpI (w w' : World) (os : List OpD) (v : Value) (dl : List Value) : Prop where
  own : OwnO w' w.heap.size v os dl
  dep : DepsO w' w.heap.size os dl
  bel : Below w.heap.size w w'
theorem CpI.push {w w' w1 w2 : World} {os : List OpD} {v v2 : Value} {dl : List Value} {x : OpD} {d : Value} (h : CpI w w' os v dl) (hl : x.1.ds.length ≤ 17592186044416) (hb : Below w'.heap.size w' w1) (hd : OwnK .i64 3 w1 w'.heap.size d x.1.ds) (hg : GrewO w.heap.size w1 v os dl x d v2 w2) : CpI w w2 (os ++ [x]) v2 (dl ++ [d]) := by
  have hs := h.bel.size
  refine ⟨hg.own, ?_, hg.bel (h.bel.trans (hb.mono hs)) (Nat.le_refl _) (by have := hb.size; omega)⟩
  exact DepsO.push h.dep h.own.len (hg.deps (h.dep.below hb)) (hg.row (hd.mono hs)) hl (fun g hgg => (hd.lt hgg).1)
theorem take_more {os : List OpD} {k : Nat} {x : OpD} (h : os[k]? = some x) : os.take (k + 1) = os.take k ++ [x] := by rw [List.take_add_one, h]; rfl

def CopyF (fr tu k : Int) (hs : List Int) (os : List OpD) (w : World) (e : Ending) (w' : World) : Prop := ∃ ha hn hc oa on oc, e = .returned (.agg #[.int .i64 fr, .int .i64 tu, .int .i64 k, .slice ha hn hc, .slice oa on oc]) ∧ FrR w' ha hs hn oa os on ∧ Below w.heap.size w w'
theorem FrAt.other {w : World} {g o b : Nat} {fr tu k : Int} {ha : Option Addr} {hn hc : Nat} {oa : Option Addr} {on oc : Nat} (h : FrAt w g o fr tu k ha hn hc oa on oc) (hne : b ≠ g) (i : Nat) (u : Value) : FrAt (w.setCell ⟨b, i, none⟩ u) g o fr tu k ha hn hc oa on oc := by
  have f : ∀ j, (w.setCell ⟨b, i, none⟩ u).cell? ⟨g, j, none⟩ = w.cell? ⟨g, j, none⟩ := fun j => World.cell?_setCell_far _ _ _ _ (by simpa using hne)
  exact ⟨(f _).trans h.c0, (f _).trans h.c1, (f _).trans h.c2, (f _).trans h.c3, (f _).trans h.c4⟩
theorem fblk_is (w : World) (fr tu k : Int) (ha : Option Addr) (hn hc : Nat) (oa : Option Addr) (on oc : Nat) (hs : List Int) (os : List OpD) : Blk (w.alloc (.cells #[.int .i64 fr, .int .i64 tu, .int .i64 k, .slice ha hn hc, .slice oa on oc] 39)) w.heap.size ((⟨fr, tu, k, hs, os⟩ : FrD).cells (.slice ha hn hc) (.slice oa on oc)) := by
  constructor
  · intro i u hi
    match i, hi with
    | 0, hi | 1, hi | 2, hi | 3, hi | 4, hi => simp [FrD.cells] at hi; subst hi; simp
    | _ + 5, hi => simp [FrD.cells] at hi
  · intro i u hi
    match i, hi with
    | 0, hi | 1, hi | 2, hi | 3, hi | 4, hi => simp
    | _ + 5, hi => simp [FrD.cells] at hi

end Go.Proofs.YtabbbpmhmlapgaaDoor

/- Weights; there and back. -/
namespace Go.Proofs.YtabbbpmhmlapgaaDoor
open Go.RowKit Go.Lib
set_option linter.unusedVariables false


def opW (x : OpD) : Int := wrap64 (wrap64 (1 + (x.1.ds.length : Int)) + (x.1.s.size : Int))
def wtN (os : List OpD) : Nat → Int
  | 0 => (os.length : Int)
  | k + 1 => wrap64 (wtN os k + match os[k]? with | some x => opW x | none => 0)
def wtF (os : List OpD) : Nat → Nat → Int
  | 0, k => wtN os k
  | f + 1, k => if k < os.length ∧ wtN os k < 1048576 then wtF os f (k + 1) else wtN os k
def wtO (os : List OpD) : Int := wtF os os.length 0
theorem wtN_succ {os : List OpD} {k : Nat} {x : OpD} (h : os[k]? = some x) : wtN os (k + 1) = wrap64 (wtN os k + opW x) := by rw [wtN, h]
theorem wtF_go {os : List OpD} {k : Nat} (h1 : k < os.length) (h2 : wtN os k < 1048576) : wtF os (os.length - k) k = wtF os (os.length - (k + 1)) (k + 1) := by
  obtain ⟨f, hf⟩ : ∃ f, os.length - k = f + 1 := ⟨os.length - k - 1, by omega⟩
  rw [hf, show os.length - (k + 1) = f by omega, wtF, if_pos ⟨h1, h2⟩]
theorem wtF_stop {os : List OpD} {k : Nat} (h : ¬ (k < os.length ∧ wtN os k < 1048576)) : wtF os (os.length - k) k = wtN os k := by
  cases h0 : os.length - k with
  | zero => rfl
  | succ f => rw [wtF, if_neg h]
theorem FrAt.regrown {w : World} {b o : Nat} {fr tu k : Int} {ha : Option Addr} {hn hc : Nat} {oa : Option Addr} {on oc : Nat} (h : FrAt w b o fr tu k ha hn hc oa on oc) : (∀ d os, (Go.Sort.grow (redrawn w d) os).cell? ⟨b, o, none⟩ = some (.int .i64 fr)) ∧ (∀ d os, (Go.Sort.grow (redrawn w d) os).cell? ⟨b, o + 1, none⟩ = some (.int .i64 tu)) ∧ (∀ d os, (Go.Sort.grow (redrawn w d) os).cell? ⟨b, o + 2, none⟩ = some (.int .i64 k)) ∧ (∀ d os, (Go.Sort.grow (redrawn w d) os).cell? ⟨b, o + 3, none⟩ = some (.slice ha hn hc)) ∧ (∀ d os, (Go.Sort.grow (redrawn w d) os).cell? ⟨b, o + 4, none⟩ = some (.slice oa on oc)) :=
  ⟨cell_regrown h.c0, cell_regrown h.c1, cell_regrown h.c2, cell_regrown h.c3, cell_regrown h.c4⟩
def HeavyF (nx : Nat) (w : World) (e : Ending) (w' : World) : Prop := ∃ b : Bool, e = .returned (.bool b) ∧ (b = false → nx ≤ 5000) ∧ Below w.heap.size w w'
end Go.Proofs.YtabbbpmhmlapgaaDoor

/- There and back; a frame written over. -/
namespace Go.Proofs.YtabbbpmhmlapgaaDoor
open Go.RowKit Go.Lib
set_option linter.unusedVariables false


set_option maxHeartbeats 400000 in
theorem num18_any (z : Int) (w : World) : Calls Tryd.prog 11 #[.int .i64 z] w fun e w' => e = .returned (.int .i64 z) ∧ w = w' := by
  go_enter Tryd.func11, Tryd.ntmps11
  go_wp2
  go_ret
  exact ⟨rfl, rfl⟩
def x0D : OpD := (⟨1, 0, [0], 1, 1, 0, 0, 0, ⟨#[107]⟩, 0, 0⟩, 1)
theorem rowO_one (w : World) (a1 : Option Addr) (hr : RowK .i64 w a1 [0]) : RowO (w.alloc (.cells #[.int .i64 1, .int .i64 0, .int .i64 1, .slice a1 1 1, .int .i64 1, .int .i64 1, .int .i64 0, .int .i64 0, .int .i64 0, .string ⟨#[107]⟩, .int .i64 0, .int .i64 0] 27)) (some ⟨w.heap.size, 0, none⟩) [x0D] := fun i x hi => by
  match i, hi with
  | 0, hi =>
    simp only [List.getElem?_cons_zero, Option.some.injEq] at hi
    subst hi
    exact ⟨w.heap.size, 0, rfl, a1, 1, OpAt.new w 1 0 1 a1 [0] 1 1 1 1 0 0 0 ⟨#[107]⟩ 0 0, hr.alloc _, by decide⟩
  | i + 1, hi => simp at hi
theorem x0_ok : x0D.ok = true := ok0
theorem f0_ok : frB 0 1 2 [] [x0D] = true := by
  have h : batB [x0D] = true := by unfold batB; simp [x0_ok]
  simp [frB, repB, fkB, h]
theorem f0_prs : prsF (byF 0 1 2 [] [x0D]) = (⟨0, 1, 2, [], [x0D]⟩, 0) := prsF_by (F := ⟨0, 1, 2, [], [x0D]⟩) f0_ok
theorem fr_build12 (v : Value) (a : Option Addr) (n c : Nat) (hv : v = .slice a n c) (w : World) : (Instr.build 39 #[(1, .int .i64 1), (2, .int .i64 2), (4, .slice a n c)]).run Tryd.prog w = .ok (.agg #[.int .i64 0, .int .i64 1, .int .i64 2, .slice none 0 0, .slice a n c]) w := run_build w 39 _ _ (by kernel_rfl)

set_option maxHeartbeats 2000000 in
set_option maxRecDepth 100000 in
theorem wakesF_any (w : World) (ht : Pr.Tab w) : Calls Tryd.prog 13 #[] w (BoolPost w true) := by
  have HT := Lib.hid ht
  have HM := Lib.hid (mkO_any w)
  have hbd := fun (a : Option Addr) (n c : Nat) => fr_build12 (.slice a n c) a n c rfl
  have HN := Lib.hid (fun W => num18_any 0 W)
  clear ht
  go_enter Tryd.func13, Tryd.ntmps13
  go_wp2_with fail
  refine (HM.out).mono ?_
  rintro e w1 ⟨a1, rfl, hr1, hb1⟩
  have HL : Hid (Below w.heap.size w ((w1.alloc (.cells #[.int .i64 1, .int .i64 0, .int .i64 1, .slice a1 1 1, .int .i64 1, .int .i64 1, .int .i64 0, .int .i64 0, .int .i64 0, .string ⟨#[107]⟩, .int .i64 0, .int .i64 0] 27)).alloc (.cells #[.int .i64 0, .int .i64 1, .int .i64 2, .slice none 0 0, .slice (some ⟨w1.heap.size, 0, none⟩) 1 1] 39))) := by
    have h2 := box_bel w1 (.cells #[.int .i64 1, .int .i64 0, .int .i64 1, .slice a1 1 1, .int .i64 1, .int .i64 1, .int .i64 0, .int .i64 0, .int .i64 0, .string ⟨#[107]⟩, .int .i64 0, .int .i64 0] 27)
    have h3 := box_bel (w1.alloc (.cells #[.int .i64 1, .int .i64 0, .int .i64 1, .slice a1 1 1, .int .i64 1, .int .i64 1, .int .i64 0, .int .i64 0, .int .i64 0, .string ⟨#[107]⟩, .int .i64 0, .int .i64 0] 27)) (.cells #[.int .i64 0, .int .i64 1, .int .i64 2, .slice none 0 0, .slice (some ⟨w1.heap.size, 0, none⟩) 1 1] 39)
    exact (hb1.trans (h2.mono hb1.size)).trans (h3.mono (Nat.le_trans hb1.size h2.size))
  have HR : Hid (RowO ((w1.alloc (.cells #[.int .i64 1, .int .i64 0, .int .i64 1, .slice a1 1 1, .int .i64 1, .int .i64 1, .int .i64 0, .int .i64 0, .int .i64 0, .string ⟨#[107]⟩, .int .i64 0, .int .i64 0] 27)).alloc (.cells #[.int .i64 0, .int .i64 1, .int .i64 2, .slice none 0 0, .slice (some ⟨w1.heap.size, 0, none⟩) 1 1] 39)) (some ⟨w1.heap.size, 0, none⟩) [x0D]) := (rowO_one w1 a1 hr1).alloc _
  have HA : Hid (FrAt ((w1.alloc (.cells #[.int .i64 1, .int .i64 0, .int .i64 1, .slice a1 1 1, .int .i64 1, .int .i64 1, .int .i64 0, .int .i64 0, .int .i64 0, .string ⟨#[107]⟩, .int .i64 0, .int .i64 0] 27)).alloc (.cells #[.int .i64 0, .int .i64 1, .int .i64 2, .slice none 0 0, .slice (some ⟨w1.heap.size, 0, none⟩) 1 1] 39)) (w1.heap.size + 1) 0 0 1 2 none 0 0 (some ⟨w1.heap.size, 0, none⟩) 1 1) := by
    have := FrAt.new (w1.alloc (.cells #[.int .i64 1, .int .i64 0, .int .i64 1, .slice a1 1 1, .int .i64 1, .int .i64 1, .int .i64 0, .int .i64 0, .int .i64 0, .string ⟨#[107]⟩, .int .i64 0, .int .i64 0] 27)) 0 1 2 none 0 0 (some ⟨w1.heap.size, 0, none⟩) 1 1
    rw [World.size_alloc] at this
    exact this
  clear hr1 hb1 HM
  go_wp2_with fail
  generalize (w1.alloc (.cells #[.int .i64 1, .int .i64 0, .int .i64 1, .slice a1 1 1, .int .i64 1, .int .i64 1, .int .i64 0, .int .i64 0, .int .i64 0, .string ⟨#[107]⟩, .int .i64 0, .int .i64 0] 27)).alloc (.cells #[.int .i64 0, .int .i64 1, .int .i64 2, .slice none 0 0, .slice (some ⟨w1.heap.size, 0, none⟩) 1 1] 39) = W2 at *
  generalize w1.heap.size + 1 = g at *
  generalize w1.heap.size = g1 at *
  have HF : Hid (FrR W2 none [] 0 (some ⟨g1, 0, none⟩) [x0D] 1) := ⟨RowK.nil _ _ _, rfl, by decide, HR.out, rfl, by decide⟩
  have C17 := Lib.hid (frBytes_yes 0 1 2 none [] 0 0 (some ⟨g1, 0, none⟩) [x0D] 1 1 W2 (HT.out.below HL.out HT.out.lt) HF.out f0_ok)
  refine (C17.out).mono ?_
  rintro e w3 ⟨v3, rfl, ho3, hb3⟩
  obtain ⟨a3, n3, c3, rfl, hn3, hr3, hc3⟩ := ho3.form'
  have HL3 := Lib.hid (HL.out.trans (hb3.mono HL.out.size))
  have HF3 := Lib.hid (HF.out.below hb3)
  have HA3 := Lib.hid (HA.out.next hb3)
  have C25 := Lib.hid (parse_any a3 (byF 0 1 2 [] [x0D]) n3 c3 w3 (HT.out.below HL3.out HT.out.lt) hn3 hr3 (byF_isB _ _ _ _ _) hc3 (by have := byF_len f0_ok; omega))
  rw [f0_prs] at C25
  clear ho3 hb3 hn3 hr3 hc3 C17 HF HA HR HL
  go_wp2_with fail
  refine (C25.out).mono ?_
  rintro e w4 ⟨h4, o4, dl4, rfl, hF4, hb4, -⟩
  obtain ⟨ha, hn, hc, oa, on, oc, rfl, rfl, hR4⟩ := hF4.read
  simp only at hR4
  have HL4 := Lib.hid (HL3.out.trans (hb4.mono HL3.out.size))
  have HF4 := Lib.hid (HF3.out.below hb4)
  have HR4 := Lib.hid hR4
  have HA4 := Lib.hid (HA3.out.next hb4)
  clear hF4 hb4 hR4 C25 HF3 HA3
  simp only
  have HL5 := Lib.hid (HL4.out.trans ((box_bel w4 (.cells #[.int .i64 0, .int .i64 1, .int .i64 2, .slice ha hn hc, .slice oa on oc] 39)).mono HL4.out.size))
  have HF5 := Lib.hid (HF4.out.below (box_bel w4 (.cells #[.int .i64 0, .int .i64 1, .int .i64 2, .slice ha hn hc, .slice oa on oc] 39)))
  have HR5 := Lib.hid (HR4.out.below (box_bel w4 (.cells #[.int .i64 0, .int .i64 1, .int .i64 2, .slice ha hn hc, .slice oa on oc] 39)))
  obtain ⟨c0, c1, c2, c3', c4⟩ := HA4.out.next (box_bel w4 (.cells #[.int .i64 0, .int .i64 1, .int .i64 2, .slice ha hn hc, .slice oa on oc] 39))
  obtain ⟨d0, d1, d2, d3, d4⟩ := FrAt.new w4 0 1 2 ha hn hc oa on oc
  have C21 := Lib.hid (eqFrame_yes 0 1 2 ha [] hn hc oa [x0D] on oc none 0 0 (some ⟨g1, 0, none⟩) 1 1 (w4.alloc (.cells #[.int .i64 0, .int .i64 1, .int .i64 2, .slice ha hn hc, .slice oa on oc] 39)) HR5.out HF5.out)
  go_wp2_with fail
  refine (HN.out _).mono ?_
  rintro e w' ⟨rfl, rfl⟩
  go_wp2_with fail
  refine (HN.out _).mono ?_
  rintro e w' ⟨rfl, rfl⟩
  go_wp2_with fail
  refine (C21.out).mono ?_
  rintro e w6 ⟨rfl, hb6⟩
  have HL6 := Lib.hid (HL5.out.trans (hb6.mono HL5.out.size))
  clear hb6
  go_wp2
  go_ret
  exact ⟨rfl, HL6.out⟩
end Go.Proofs.YtabbbpmhmlapgaaDoor

/- A list of asks opened, with the bound on lengths: frames. -/
namespace Go.Proofs.YtabbbpmhmlapgaaDoor
open Go.ChangeShapes Go.WideShapes Go.ChangeAt Go.RowKit Go.Deep Go.Lib
set_option linter.unusedVariables false


theorem list_of {α : Type} {P : Nat → α → Prop} : ∀ n : Nat, (∀ i, i < n → ∃ x, P i x) → ∃ l : List α, l.length = n ∧ ∀ i x, l[i]? = some x → P i x
  | 0, _ => ⟨[], rfl, fun i x h => by simp at h⟩
  | n + 1, h => by
    obtain ⟨l, hl, hp⟩ := list_of n (fun i hi => h i (by omega))
    obtain ⟨y, hy⟩ := h n (by omega)
    refine ⟨l ++ [y], by simp [hl], fun i x hi => ?_⟩
    by_cases hlt : i < l.length
    · rw [List.getElem?_append_left hlt] at hi
      exact hp i x hi
    · rw [List.getElem?_append_right (by omega)] at hi
      by_cases h0 : i - l.length = 0
      · rw [h0] at hi
        simp only [List.getElem?_cons_zero, Option.some.injEq] at hi
        subst hi
        rw [show i = n by omega]
        exact hy
      · rw [List.getElem?_eq_none (by simp; omega)] at hi
        cases hi
set_option maxHeartbeats 1000000 in
set_option maxRecDepth 100000 in
theorem ops_open {H : Type} {enc : TypeId × Value → H} {w : World} {fuel : Nat} {v : Value} {x : DataW H × List MemPlace} (h : DataW.trod enc Tryd.prog w 0 (fun _ => true) true fuel 37 [v] = some x)
    (hs : ∀ n ∈ x.1.weights Tryd.prog 37, n ≤ reachBytes) : ∃ ai os ci, v = .slice ai (List.length os) ci ∧ RowO w ai os ∧ os.length ≤ ci ∧ os.length * 120 ≤ 140737488355328 := by
  have hC : Tryd.prog.cellsOf 27 = 12 := by kernel_rfl
  rcases open_slice Tryd.underlying37 h with ⟨hcs, _⟩ | ⟨ad, l, c, m, n, D, Pl, hcs, hb, hl, hm, hmm, hx, hi⟩
  · simp only [List.cons.injEq, and_true] at hcs
    subst hcs
    exact ⟨none, [], 0, rfl, RowO.nil _ _, by simp, by simp⟩
  · simp only [List.cons.injEq, and_true] at hcs
    subst hcs
    simp only [if_true] at hmm
    have hdx : x.1 = .slice ((List.range l).map D) ((List.range (m - l)).map fun j => D (l + j)) := by rw [hx]
    have hwD : ∀ i, i < l → ∀ k ∈ (D i).weights Tryd.prog 27, k ≤ reachBytes := by
      intro i hil k hk
      apply hs
      rw [hdx]
      simp only [DataW.weights, Tryd.underlying37]
      refine List.mem_cons_of_mem _ (List.mem_append.2 (Or.inl ?_))
      exact weights_mem_all (List.mem_map.2 ⟨i, List.mem_range.2 hil, rfl⟩) k hk
    have hbig : l * 120 ≤ 140737488355328 := by
      have h1 := hs ((((List.range l).map D).length + ((List.range (m - l)).map fun j => D (l + j)).length) * Tryd.prog.bytesOf 27) (by
        rw [hdx]
        simp [DataW.weights, Tryd.underlying37])
      rw [show Tryd.prog.bytesOf 27 = 120 from by kernel_rfl] at h1
      simp only [List.length_map, List.length_range, reachBytes] at h1
      have : l * 120 ≤ (l + (m - l)) * 120 := Nat.mul_le_mul_right _ (by omega)
      omega
    have hall : ∀ i, i < l → ∃ y : OpD, ∃ b off, ad = ⟨b, off, none⟩ ∧ OpIs w b (off + i * 12) y := by
      intro i hil
      obtain ⟨b, off, spot⟩ := ad
      have hspot : spot = none := by
        obtain ⟨cs0, hc0, _⟩ := hi 0 (by omega)
        rw [hC] at hc0
        obtain ⟨_, hcl0, hat0⟩ := World.cells?_some hc0
        have h1 := hat0 0 (by omega)
        rw [List.getElem?_eq_getElem (by omega)] at h1
        have h2 := World.cell?_spot h1
        simpa [Addr.add] using h2
      subst hspot
      obtain ⟨cs', hc, ht⟩ := hi i (by omega)
      rw [hC] at hc
      obtain ⟨_, hcl, hat⟩ := World.cells?_some hc
      match cs', hcl with
      | [d0, d1, d2, d3, d4, d5, d6, d7, d8, d9, d10, d11], _ =>
        obtain ⟨t, r, q, da, ds, dc, k, nt, nr, pt, pr, s, p, v, he, hr1, hc1, hl1⟩ := op_open ht (hwD i hil)
        simp only [List.cons.injEq, and_true] at he
        obtain ⟨rfl, rfl, rfl, rfl, rfl, rfl, rfl, rfl, rfl, rfl, rfl, rfl⟩ := he
        refine ⟨(⟨t, r, ds, k, nt, nr, pt, pr, s, p, v⟩, q), b, off, rfl, da, dc, ?_, hr1, hl1⟩
        have hc0 := hat 0 (by omega)
        rw [add_add, addr_add, Nat.add_zero] at hc0
        have hc1 := hat 1 (by omega)
        rw [add_add, addr_add] at hc1
        have hc2 := hat 2 (by omega)
        rw [add_add, addr_add] at hc2
        have hc3 := hat 3 (by omega)
        rw [add_add, addr_add] at hc3
        have hc4 := hat 4 (by omega)
        rw [add_add, addr_add] at hc4
        have hc5 := hat 5 (by omega)
        rw [add_add, addr_add] at hc5
        have hc6 := hat 6 (by omega)
        rw [add_add, addr_add] at hc6
        have hc7 := hat 7 (by omega)
        rw [add_add, addr_add] at hc7
        have hc8 := hat 8 (by omega)
        rw [add_add, addr_add] at hc8
        have hc9 := hat 9 (by omega)
        rw [add_add, addr_add] at hc9
        have hc10 := hat 10 (by omega)
        rw [add_add, addr_add] at hc10
        have hc11 := hat 11 (by omega)
        rw [add_add, addr_add] at hc11
        refine ⟨?_, ?_, ?_, ?_, ?_, ?_, ?_, ?_, ?_, ?_, ?_, ?_⟩
        · rw [hc0]; rfl
        · rw [Nat.add_assoc, hc1]; rfl
        · rw [Nat.add_assoc, hc2]; rfl
        · rw [Nat.add_assoc, hc3]; rfl
        · rw [Nat.add_assoc, hc4]; rfl
        · rw [Nat.add_assoc, hc5]; rfl
        · rw [Nat.add_assoc, hc6]; rfl
        · rw [Nat.add_assoc, hc7]; rfl
        · rw [Nat.add_assoc, hc8]; rfl
        · rw [Nat.add_assoc, hc9]; rfl
        · rw [Nat.add_assoc, hc10]; rfl
        · rw [Nat.add_assoc, hc11]; rfl
    obtain ⟨os, ho1, ho2⟩ := list_of l hall
    subst ho1
    refine ⟨some ad, os, c, rfl, fun i y hy => ?_, hl, hbig⟩
    obtain ⟨b, off, e, h1⟩ := ho2 i y hy
    exact ⟨b, off, by rw [e], h1⟩
set_option maxHeartbeats 1000000 in
theorem frame_open {H : Type} {enc : TypeId × Value → H} {w : World} {fuel : Nat} {d0 d1 d2 d3 d4 : Value} {x : DataW H × List MemPlace} (h : DataW.trod enc Tryd.prog w 0 (fun _ => true) true fuel 39 [d0, d1, d2, d3, d4] = some x)
    (hs : ∀ n ∈ x.1.weights Tryd.prog 39, n ≤ reachBytes) : ∃ fr tu k ha hs hc oa os oc, [d0, d1, d2, d3, d4] = [.int .i64 fr, .int .i64 tu, .int .i64 k, .slice ha (List.length hs) hc, .slice oa (List.length os) oc] ∧ FrR w ha hs hs.length oa os os.length := by
  obtain ⟨ys, n', _, hD, _, hyl, hf'⟩ := DataW.trod_struct Tryd.underlying39 h
  have f0 : DataW.trod enc Tryd.prog w 0 (fun _ => true) true n' 3 (([d0, d1, d2, d3, d4].drop 0).take (Tryd.prog.cellsOf 3)) = ys[0]? := hf' 0 _ rfl
  have f1 : DataW.trod enc Tryd.prog w 0 (fun _ => true) true n' 3 (([d0, d1, d2, d3, d4].drop 1).take (Tryd.prog.cellsOf 3)) = ys[1]? := hf' 1 _ rfl
  have f2 : DataW.trod enc Tryd.prog w 0 (fun _ => true) true n' 3 (([d0, d1, d2, d3, d4].drop 2).take (Tryd.prog.cellsOf 3)) = ys[2]? := hf' 2 _ rfl
  have f3 : DataW.trod enc Tryd.prog w 0 (fun _ => true) true n' 25 (([d0, d1, d2, d3, d4].drop 3).take (Tryd.prog.cellsOf 25)) = ys[3]? := hf' 3 _ rfl
  have f4 : DataW.trod enc Tryd.prog w 0 (fun _ => true) true n' 37 (([d0, d1, d2, d3, d4].drop 4).take (Tryd.prog.cellsOf 37)) = ys[4]? := hf' 4 _ rfl
  rw [show Tryd.prog.cellsOf 3 = 1 from by kernel_rfl] at f0 f1 f2
  rw [show Tryd.prog.cellsOf 25 = 1 from by kernel_rfl] at f3
  rw [show Tryd.prog.cellsOf 37 = 1 from by kernel_rfl] at f4
  have hy0 : ys[0]? = some (ys[0]'(by simp at hyl; omega)) := List.getElem?_eq_getElem _
  rw [hy0] at f0
  have hy1 : ys[1]? = some (ys[1]'(by simp at hyl; omega)) := List.getElem?_eq_getElem _
  rw [hy1] at f1
  have hy2 : ys[2]? = some (ys[2]'(by simp at hyl; omega)) := List.getElem?_eq_getElem _
  rw [hy2] at f2
  have hy3 : ys[3]? = some (ys[3]'(by simp at hyl; omega)) := List.getElem?_eq_getElem _
  rw [hy3] at f3
  have hy4 : ys[4]? = some (ys[4]'(by simp at hyl; omega)) := List.getElem?_eq_getElem _
  rw [hy4] at f4
  simp only [List.drop_zero, List.drop_succ_cons, List.take_succ_cons, List.take_zero] at f0 f1 f2 f3 f4
  have hxd : x.1 = .agg (ys.map (·.1)) := by rw [hD]
  have hw3 : ∀ n ∈ (ys[3]'(by simp at hyl; omega)).1.weights Tryd.prog 25, n ≤ reachBytes := by
    intro n hn
    apply hs
    rw [hxd]
    simp only [DataW.weights, Tryd.underlying39]
    exact DataW.weights_mem_each (j := 3) (t := 25) (d := (ys[3]'(by simp at hyl; omega)).1) rfl (by rw [List.getElem?_map, hy3]; rfl) n hn
  have hw4 : ∀ n ∈ (ys[4]'(by simp at hyl; omega)).1.weights Tryd.prog 37, n ≤ reachBytes := by
    intro n hn
    apply hs
    rw [hxd]
    simp only [DataW.weights, Tryd.underlying39]
    exact DataW.weights_mem_each (j := 4) (t := 37) (d := (ys[4]'(by simp at hyl; omega)).1) rfl (by rw [List.getElem?_map, hy4]; rfl) n hn
  obtain ⟨fr, h0, _, _⟩ := DataW.trod_int Tryd.underlying3 f0
  obtain ⟨tu, h1, _, _⟩ := DataW.trod_int Tryd.underlying3 f1
  obtain ⟨k, h2, _, _⟩ := DataW.trod_int Tryd.underlying3 f2
  obtain ⟨ha, hl, hc, h3, hr3, _, hl3⟩ := rowI_open_sized f3 hw3
  obtain ⟨oa, os, oc, h4, hr4, _, hl4⟩ := ops_open f4 hw4
  simp only [List.cons.injEq, and_true] at h0 h1 h2
  subst h0 h1 h2 h3 h4
  exact ⟨fr, tu, k, ha, hl, hc, oa, os, oc, rfl, hr3, rfl, hl3, hr4, rfl, hl4⟩
/-- an ask at a place -/
structure AskF (w : World) (b o : Nat) (fr tu k : Int) (ha : Option Addr) (hn hc : Nat) (oa : Option Addr) (on oc : Nat) (ax : Option Addr) (nx cx : Nat) : Prop where
  f_ : FrAt w b o fr tu k ha hn hc oa on oc
  x_ : w.cell? ⟨b, o + 5, none⟩ = some (.slice ax nx cx)
theorem AskF.below {w w' : World} {b o B : Nat} {fr tu k : Int} {ha : Option Addr} {hn hc : Nat} {oa : Option Addr} {on oc : Nat} {ax : Option Addr} {nx cx : Nat} (h : AskF w b o fr tu k ha hn hc oa on oc ax nx cx) (hb : Below B w w') (hB : b < B) : AskF w' b o fr tu k ha hn hc oa on oc ax nx cx := ⟨h.f_.below hb hB, (hb.cell (p := ⟨b, o + 5, none⟩) hB).trans h.x_⟩
/-- what is told of an ask's bytes -/
structure AskX (w : World) (ax : Option Addr) (xs : List Int) (nx cx : Nat) : Prop where
  rx : RowK .u8 w ax xs
  xl : nx = xs.length
  xc : xs.length ≤ cx
  isB : IsB xs
theorem AskX.below {w w' : World} {ax : Option Addr} {xs : List Int} {nx cx : Nat} (h : AskX w ax xs nx cx) (hb : Below w.heap.size w w') : AskX w' ax xs nx cx := ⟨h.rx.below hb (Nat.le_refl _), h.xl, h.xc, h.isB⟩
def AsksF (w : World) (a : Option Addr) (len : Nat) : Prop :=
  ∀ i, i < len → ∃ b off fr tu k ha hs hn hc oa os on oc ax xs nx cx, a = some ⟨b, off, none⟩ ∧ AskF w b (off + i * 6) fr tu k ha hn hc oa on oc ax nx cx ∧ FrR w ha hs hn oa os on ∧ AskX w ax xs nx cx

set_option maxHeartbeats 1000000 in
set_option maxRecDepth 100000 in
theorem asksF_open {H : Type} {enc : TypeId × Value → H} {w : World} {a : Option Addr} {len cap : Nat} {d : DataW H} {p : List MemPlace} (h : DataW.Trod enc Tryd.prog w 0 (fun _ => true) true 36 (.slice a len cap) d p)
    (hs : ∀ n ∈ d.weights Tryd.prog 36, n ≤ reachBytes) : AsksF w a len := by
  obtain ⟨fuel, hf⟩ := h
  have hC : Tryd.prog.cellsOf 121 = 6 := by kernel_rfl
  rcases open_slice Tryd.underlying36 hf with ⟨hcs, _⟩ | ⟨x, l, c, m, n, D, Pl, hcs, hb, hl, hm, hmm, hx, hi⟩
  · simp [Value.cells] at hcs
    obtain ⟨rfl, rfl, rfl⟩ := hcs
    intro i hi; omega
  · simp [Value.cells] at hcs
    obtain ⟨rfl, rfl, rfl⟩ := hcs
    simp only [if_true] at hmm
    intro i hil
    obtain ⟨b, off, spot⟩ := x
    have hspot : spot = none := by
      obtain ⟨cs0, hc0, _⟩ := hi 0 (by omega)
      rw [hC] at hc0
      obtain ⟨_, hcl0, hat0⟩ := World.cells?_some hc0
      have h1 := hat0 0 (by omega)
      rw [List.getElem?_eq_getElem (by omega)] at h1
      have h2 := World.cell?_spot h1
      simpa [Addr.add] using h2
    subst hspot
    obtain ⟨cs', hc, ht⟩ := hi i (by omega)
    rw [hC] at hc
    obtain ⟨_, hcl, hat⟩ := World.cells?_some hc
    obtain ⟨ys, n', _, hD, _, hyl, hf'⟩ := DataW.trod_struct Tryd.underlying121 ht
    have f0 : DataW.trod enc Tryd.prog w 0 (fun _ => true) true n' 39 ((cs'.drop 0).take (Tryd.prog.cellsOf 39)) = ys[0]? := hf' 0 _ rfl
    have f1 : DataW.trod enc Tryd.prog w 0 (fun _ => true) true n' 33 ((cs'.drop 5).take (Tryd.prog.cellsOf 33)) = ys[1]? := hf' 1 _ rfl
    rw [show Tryd.prog.cellsOf 39 = 5 from by kernel_rfl] at f0
    rw [show Tryd.prog.cellsOf 33 = 1 from by kernel_rfl] at f1
    match cs', hcl with
    | [d0, d1, d2, d3, d4, d5], _ =>
      have hy0 : ys[0]? = some (ys[0]'(by simp at hyl; omega)) := List.getElem?_eq_getElem _
      have hy1 : ys[1]? = some (ys[1]'(by simp at hyl; omega)) := List.getElem?_eq_getElem _
      have hwE : ∀ n, n ∈ (D i).weights Tryd.prog 121 → n ≤ reachBytes := by
        intro n hn
        apply hs
        have hdx : d = .slice ((List.range len).map D) ((List.range (m - len)).map fun j => D (len + j)) := by
          simp only [Prod.mk.injEq] at hx; exact hx.1
        rw [hdx]
        simp only [DataW.weights, Tryd.underlying36]
        refine List.mem_cons_of_mem _ (List.mem_append.2 (Or.inl ?_))
        exact weights_mem_all (List.mem_map.2 ⟨i, List.mem_range.2 hil, rfl⟩) n hn
      have hDi : D i = .agg (ys.map (·.1)) := by
        simp only [Prod.mk.injEq] at hD; exact hD.1
      have hw0 : ∀ n ∈ (ys[0]'(by simp at hyl; omega)).1.weights Tryd.prog 39, n ≤ reachBytes := by
        intro n hn
        apply hwE
        rw [hDi]
        simp only [DataW.weights, Tryd.underlying121]
        exact DataW.weights_mem_each (j := 0) (t := 39) (d := (ys[0]'(by simp at hyl; omega)).1) rfl (by rw [List.getElem?_map, hy0]; rfl) n hn
      rw [hy0] at f0
      rw [hy1] at f1
      simp only [List.drop_zero, List.drop_succ_cons, List.take_succ_cons, List.take_zero] at f0 f1
      obtain ⟨fr, tu, k, ha, hl', hc', oa, os, oc, he, hF⟩ := frame_open f0 hw0
      obtain ⟨ax, xs, cx, hv3, hr3, hwf3, hcx⟩ := rowK_open Tryd.underlying33 Tryd.underlying5 (by kernel_rfl) f1
      simp only [List.cons.injEq, and_true] at he
      obtain ⟨rfl, rfl, rfl, rfl, rfl⟩ := he
      subst hv3
      have hc0 := hat 0 (by omega)
      rw [add_add, addr_add, Nat.add_zero] at hc0
      have hc1 := hat 1 (by omega)
      rw [add_add, addr_add] at hc1
      have hc2 := hat 2 (by omega)
      rw [add_add, addr_add] at hc2
      have hc3 := hat 3 (by omega)
      rw [add_add, addr_add] at hc3
      have hc4 := hat 4 (by omega)
      rw [add_add, addr_add] at hc4
      have hc5 := hat 5 (by omega)
      rw [add_add, addr_add] at hc5
      refine ⟨b, off, fr, tu, k, ha, hl', hl'.length, hc', oa, os, os.length, oc, ax, xs, xs.length, cx, rfl, ⟨⟨?_, ?_, ?_, ?_, ?_⟩, ?_⟩, hF, ⟨hr3, rfl, hcx, isB_of hwf3⟩⟩
      · rw [hc0]; rfl
      · rw [Nat.add_assoc, hc1]; rfl
      · rw [Nat.add_assoc, hc2]; rfl
      · rw [Nat.add_assoc, hc3]; rfl
      · rw [Nat.add_assoc, hc4]; rfl
      · rw [Nat.add_assoc, hc5]; rfl
end Go.Proofs.YtabbbpmhmlapgaaDoor
