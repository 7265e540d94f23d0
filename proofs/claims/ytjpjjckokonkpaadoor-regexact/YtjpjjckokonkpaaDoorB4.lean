/- Registers: RegExact' walk. -/
import Derived.Test.YtjpjjckokonkpaaDoorA11
namespace Go.Proofs.YtjpjjckokonkpaaDoor
open Go.RowKit Go.Lib
set_option linter.unusedVariables false

/-- what the registers at hand read as -/
structure CuG (W : World) (ca : Option Addr) (cs : List RgD) (cn cc i : Nat) : Prop where
  row : RowG W ca cs
  len : cn = cs.length
  cap : cn ≤ cc
  bnd : cs.length ≤ 2000 + i
theorem CuG.next {W W' : World} {ca : Option Addr} {cs : List RgD} {cn cc i : Nat} (h : CuG W ca cs cn cc i) (hb : Below W.heap.size W W') : CuG W' ca cs cn cc i := ⟨h.row.next hb, h.len, h.cap, h.bnd⟩
theorem CuG.more {W : World} {ca : Option Addr} {cs : List RgD} {cn cc i : Nat} (h : CuG W ca cs cn cc i) : CuG W ca cs cn cc (i + 1) := ⟨h.row, h.len, h.cap, by have := h.bnd; omega⟩
theorem actA_new (w : World) (x : RgD) : RgAt (w.alloc (.cells #[.int .i64 x.p, .int .i64 x.v, .int .i64 x.t, .int .i64 x.r] 31)) w.heap.size 0 x := ⟨by simp, by simp, by simp, by simp⟩
theorem room32 {n m : Nat} (h : n ≤ m) (hm : m ≤ 5000) : n * 32 ≤ 140737488355328 := by omega
set_option maxHeartbeats 8000000 in
set_option maxRecDepth 100000 in
theorem regExact_walk (ra : Option Addr) (rs : List RgD) (rn rc : Nat) (qa : Option Addr) (qs : List RgD) (qn qc : Nat) (la : Option Addr) (ls : List RgD) (ln lc : Nat) (w : World) (ht : Pr.Tab w) (h : ScG w ra rs rn rc qa qs qn qc la ls ln lc) :
    Calls Tryd.prog 3 #[.agg #[.slice ra rn rc, .slice qa qn qc, .slice la ln lc]] w (BoolPost w true) := by
  have mixed : Tryd.prog.follows .mixedOrders = true := by kernel_rfl
  have HT := Lib.hid (fun W (hb : Below w.heap.size w W) => ht.below hb ht.lt)
  have HB0 := Lib.hid (bel1 w (scG ra rn rc qa qn qc la ln lc))
  have HS0 := Lib.hid (ScB.new w ra rn rc qa qn qc la ln lc)
  have HR := Lib.hid h
  have CH := Lib.hid (heavy15_any ra rs rn rc qa qs qn qc la ls ln lc _ (h.below HB0.out))
  have CW := Lib.hid (fun W (hb : Below w.heap.size w W) => wakes15_any W (HT.out W hb))
  clear ht h
  go_enter Tryd.func3, Tryd.ntmps3
  go_wp2_with fail
  generalize w.alloc (scG ra rn rc qa qn qc la ln lc) = W0 at *
  generalize hg : w.heap.size = g at HS0 ⊢
  clear hg
  refine (CH.out).mono ?_
  rintro e w0 ⟨rfl, hb⟩
  have HB := Lib.hid (HB0.out.trans (hb.mono HB0.out.size))
  have HS := Lib.hid (HS0.out.next hb)
  clear hb CH HS0 HB0
  by_cases hv : 2000 < rn + qn + ln
  · have hvd : decide (2000 < rn + qn + ln) = true := decide_eq_true hv
    go_wp2
    go_ret
    exact ⟨rfl, HB.out⟩
  · have hvd : decide (2000 < rn + qn + ln) = false := decide_eq_false hv
    rw [hvd]
    have hrn : rn ≤ 2000 := by omega
    have hqn : qn ≤ 2000 := by omega
    have hln : ln ≤ 2000 := by omega
    clear hv hvd
    have CR := Lib.hid (fun W (hb : Below w.heap.size w W) => copyRegs_any ra rs rn rc W (HR.out.rr.below hb (Nat.le_refl _)) HR.out.rl (by have := HR.out.rm; have := HR.out.rl; omega))
    have CQ := Lib.hid (fun W (hb : Below w.heap.size w W) => copyRegs_any qa qs qn qc W (HR.out.qr.below hb (Nat.le_refl _)) HR.out.ql (by have := HR.out.qm; have := HR.out.ql; omega))
    have CG2 := Lib.hid (fun W (hb : Below w.heap.size w W) => refRegs_any qa qs qn qc W (HR.out.qr.below hb (Nat.le_refl _)) HR.out.ql (by omega))
    have HSZ := Lib.hid hrn
    have HSQ := Lib.hid (show qs.length ≤ 2000 by have := HR.out.ql; omega)
    obtain ⟨s0, s1, s2⟩ := HS.out
    clear hqn hln
    go_wp2_with fail
    refine (CR.out _ HB.out).mono ?_
    rintro e w1 ⟨v1, rfl, ho1, hb⟩
    have HB1 := Lib.hid (HB.out.trans (hb.mono HB.out.size))
    have HS1 := Lib.hid (HS.out.next hb)
    obtain ⟨a1, n1, c1, rfl, hn1, hc1, hr1⟩ := ho1.form
    have HCU1 : Hid (CuG w1 a1 rs n1 c1 0) := ⟨hr1, hn1, hc1, by have := HSZ.out; have := HR.out.rl; omega⟩
    clear hb HB HS ho1 s0 s1 s2 hn1 hc1 hr1 CR hrn
    have HKB : Hid (∀ W, Below w1.heap.size w1 W → Below w.heap.size w W) := fun W hb => HB1.out.trans (hb.mono HB1.out.size)
    go_wp2_with fail
    go_loopg [3, 4, 5, 6, 7, 8, 9, 10, 11, 12, 13, 14, 15, 16, 17] 25 (fun gg s3 s4 _ _ _ _ _ _ _ _ _ _ _ _ _ wr => ∃ (i : Nat) (ca : Option Addr) (cs : List RgD) (cn cc : Nat), s3 = .slice ca cn cc ∧ s4 = .int .i64 i ∧ i ≤ 25 ∧ 25 - i ≤ gg ∧ Hid (CuG wr ca cs cn cc i) ∧ Hid (Below w1.heap.size w1 wr))
    case atStart => exact ⟨0, a1, rs, n1, c1, rfl, rfl, by omega, by omega, HCU1, Below.refl _ _⟩
    case round =>
      obtain ⟨i, ca, cs, cn, cc, rfl, rfl, hi12, hgk, HCU, HI⟩ := hrel
      clear HCU1
      have HB := Lib.hid (HKB.out _ HI.out)
      have HSB := Lib.hid (HS1.out.next HI.out)
      have HLN := Lib.hid (Nat.le_trans HCU.out.bnd (Nat.add_le_add_left hi12 2000))
      obtain ⟨s0, s1, s2⟩ := HSB.out
      by_cases hin : i < ln
      · have hinz : decide ((i : Int) < (ln : Int)) = true := decide_eq_true (by omega)
        have hiny : (i : Int) < (ln : Int) := by omega
        by_cases hi : i < 25
        · have hiz : decide ((i : Int) < 25) = true := decide_eq_true (by omega)
          have hiy : (i : Int) < 25 := by omega
          obtain ⟨x, hx⟩ : ∃ x, ls[i]? = some x := ⟨_, List.getElem?_eq_getElem (by rw [← HR.out.ll]; exact hin)⟩
          obtain ⟨b, off, rfl, hat⟩ := (HR.out.lr.below HB.out (Nat.le_refl _)) i x hx
          obtain ⟨l0, l1, l2, l3⟩ := hat
          have HAX := Lib.hid (actA_new wr x)
          have HBX := Lib.hid (bel1 wr (.cells #[.int .i64 x.p, .int .i64 x.v, .int .i64 x.t, .int .i64 x.r] 31))
          have HE0 : Hid (Below w1.heap.size w1 (wr.alloc (.cells #[.int .i64 x.p, .int .i64 x.v, .int .i64 x.t, .int .i64 x.r] 31))) := HI.out.trans (HBX.out.mono HI.out.size)
          have HBA := Lib.hid (HB.out.trans (HBX.out.mono HB.out.size))
          have HSA := Lib.hid (HSB.out.next HBX.out)
          have HCA := Lib.hid (HCU.out.next HBX.out)
          clear hx HB HSB HCU
          have HB := HBA
          have HSB := HSA
          have HCU := HCA
          clear HBA HSA HCA
          obtain ⟨rb, hrb⟩ : ∃ rb, regsB cs = rb := ⟨_, rfl⟩
          have HRB := Lib.hid hrb
          obtain ⟨xb, hxb⟩ : ∃ xb, regB x = xb := ⟨_, rfl⟩
          have HXB := Lib.hid hxb
          obtain ⟨o, ho⟩ : ∃ o, getG cs x.p = o := ⟨_, rfl⟩
          have HOO := Lib.hid ho
          have CGR := Lib.hid (fun W (hb : Below w.heap.size w W) (hr : RowG W ca cs) => refRegs_any ca cs cn cc W hr HCU.out.len (by have := HLN.out; have := HCU.out.len; omega))
          have CCK := Lib.hid (fun W (hb : Below w.heap.size w W) (hr : RowG W ca cs) => rcheck_any ca cs cn cc W (HT.out W hb) hr HCU.out.len (by have := HLN.out; have := HCU.out.len; omega))
          have CGT := Lib.hid (fun W (hr : RowG W ca cs) => refGet_any ca cs cn cc x.p W hr HCU.out.len (by have := HLN.out; have := HCU.out.len; omega))
          have CCP := Lib.hid (fun W (hr : RowG W ca cs) => copyRegs_any ca cs cn cc W hr HCU.out.len (by have := HLN.out; have := HCU.out.len; omega))
          have CMS := Lib.hid (fun W (hr : RowG W ca cs) => maySet_any ca cs cn cc x W hr HCU.out.len (by have := HLN.out; have := HCU.out.len; omega))
          have HM := Lib.hid (show (cs.length + 2) * 32 ≤ 140737488355328 by have := HLN.out; omega)
          have HM1 := Lib.hid (show (cs.length + 1) * 32 ≤ 140737488355328 by have := HLN.out; omega)
          rw [hrb] at CGR CCK CMS
          rw [hxb] at CMS
          rw [ho] at CGT
          clear hrb hxb ho
          go_wp2_with fail
          clear l0 l1 l2 l3 s0 s1 s2
          generalize wr.alloc (.cells #[.int .i64 x.p, .int .i64 x.v, .int .i64 x.t, .int .i64 x.r] 31) = wa at *
          generalize hgx : wr.heap.size = gx at HAX ⊢
          clear hgx HBX
          have HX := HAX
          clear HAX
          cases rb
          · refine (CGR.out _ HB.out HCU.out.row).mono ?_
            rintro e v1 ⟨rfl, hb⟩
            have HBx := Lib.hid (HB.out.trans (hb.mono HB.out.size))
            have HE0x := Lib.hid (HE0.out.trans (hb.mono HE0.out.size))
            have HSBx := Lib.hid (HSB.out.next hb)
            have HXx := Lib.hid (HX.out.next hb)
            have HCUx := Lib.hid (HCU.out.next hb)
            clear HB HE0 HSB HX HCU
            have HB := HBx
            have HE0 := HE0x
            have HSB := HSBx
            have HX := HXx
            have HCU := HCUx
            clear HBx HE0x HSBx HXx HCUx
            clear hb
            obtain ⟨s0, s1, s2⟩ := HSB.out
            obtain ⟨x0, x1, x2, x3⟩ := HX.out
            go_wp2_with fail
            refine (CCK.out _ HB.out HCU.out.row).mono ?_
            rintro e v2 ⟨rfl, hb⟩
            clear s0 s1 s2 x0 x1 x2 x3
            have HBx := Lib.hid (HB.out.trans (hb.mono HB.out.size))
            have HE0x := Lib.hid (HE0.out.trans (hb.mono HE0.out.size))
            have HSBx := Lib.hid (HSB.out.next hb)
            have HXx := Lib.hid (HX.out.next hb)
            have HCUx := Lib.hid (HCU.out.next hb)
            clear HB HE0 HSB HX HCU
            have HB := HBx
            have HE0 := HE0x
            have HSB := HSBx
            have HX := HXx
            have HCU := HCUx
            clear HBx HE0x HSBx HXx HCUx
            clear hb
            obtain ⟨s0, s1, s2⟩ := HSB.out
            obtain ⟨x0, x1, x2, x3⟩ := HX.out
            simp only [St.errB]
            go_wp2_with fail
            refine (num15_any 1 _).mono ?_
            rintro e wn ⟨rfl, rfl⟩
            go_wp2_with fail
            refine (get_no ca cs cn cc x.p _ (HT.out _ HB.out) HCU.out.row HCU.out.len (by have := HLN.out; have := HCU.out.len; omega) HRB.out).mono ?_
            rintro e v3 ⟨rfl, hb⟩
            clear s0 s1 s2 x0 x1 x2 x3
            have HBx := Lib.hid (HB.out.trans (hb.mono HB.out.size))
            have HE0x := Lib.hid (HE0.out.trans (hb.mono HE0.out.size))
            have HSBx := Lib.hid (HSB.out.next hb)
            have HXx := Lib.hid (HX.out.next hb)
            have HCUx := Lib.hid (HCU.out.next hb)
            clear HB HE0 HSB HX HCU
            have HB := HBx
            have HE0 := HE0x
            have HSB := HSBx
            have HX := HXx
            have HCU := HCUx
            clear HBx HE0x HSBx HXx HCUx
            clear hb
            obtain ⟨s0, s1, s2⟩ := HSB.out
            obtain ⟨x0, x1, x2, x3⟩ := HX.out
            go_wp2_with fail
            refine (num15_any 1 _).mono ?_
            rintro e wn ⟨rfl, rfl⟩
            go_wp2_with fail
            refine (CCP.out _ HCU.out.row).mono ?_
            rintro e v4 ⟨vi, rfl, hoi, hb⟩
            clear s0 s1 s2 x0 x1 x2 x3
            have HBx := Lib.hid (HB.out.trans (hb.mono HB.out.size))
            have HE0x := Lib.hid (HE0.out.trans (hb.mono HE0.out.size))
            have HSBx := Lib.hid (HSB.out.next hb)
            have HXx := Lib.hid (HX.out.next hb)
            have HCUx := Lib.hid (HCU.out.next hb)
            clear HB HE0 HSB HX HCU
            have HB := HBx
            have HE0 := HE0x
            have HSB := HSBx
            have HX := HXx
            have HCU := HCUx
            clear HBx HE0x HSBx HXx HCUx
            have HOI := Lib.hid hoi
            clear hb hoi
            obtain ⟨s0, s1, s2⟩ := HSB.out
            obtain ⟨x0, x1, x2, x3⟩ := HX.out
            obtain ⟨ia, inn, ic, rfl, hni, hci, hri⟩ := HOI.out.form
            have HIN := Lib.hid hri
            have HIL := Lib.hid hni
            have HIC := Lib.hid hci
            clear hni hci hri HOI
            have HMAY : Hid ((regsB cs && regB x) = false) := by show _ = _; rw [HRB.out]; rfl
            go_wp2_with fail
            refine (set_no ia cs inn ic x _ (HT.out _ HB.out) HIN.out HIL.out HM1.out HMAY.out).mono ?_
            rintro e v5 ⟨rfl, hb⟩
            clear s0 s1 s2 x0 x1 x2 x3
            have HBx := Lib.hid (HB.out.trans (hb.mono HB.out.size))
            have HE0x := Lib.hid (HE0.out.trans (hb.mono HE0.out.size))
            have HSBx := Lib.hid (HSB.out.next hb)
            have HXx := Lib.hid (HX.out.next hb)
            have HCUx := Lib.hid (HCU.out.next hb)
            have HINx := Lib.hid (HIN.out.next hb)
            clear HB HE0 HSB HX HCU HIN
            have HB := HBx
            have HE0 := HE0x
            have HSB := HSBx
            have HX := HXx
            have HCU := HCUx
            have HIN := HINx
            clear HBx HE0x HSBx HXx HCUx HINx
            clear hb
            obtain ⟨s0, s1, s2⟩ := HSB.out
            obtain ⟨x0, x1, x2, x3⟩ := HX.out
            go_wp2_with fail
            refine (eqRegs_yes ia ca cs inn cn ic cc _ HIN.out HCU.out.row HIL.out HCU.out.len (by have := HLN.out; omega)).mono ?_
            rintro e v6 ⟨rfl, hb⟩
            clear s0 s1 s2 x0 x1 x2 x3
            have HBx := Lib.hid (HB.out.trans (hb.mono HB.out.size))
            have HE0x := Lib.hid (HE0.out.trans (hb.mono HE0.out.size))
            have HSBx := Lib.hid (HSB.out.next hb)
            have HXx := Lib.hid (HX.out.next hb)
            have HCUx := Lib.hid (HCU.out.next hb)
            have HINx := Lib.hid (HIN.out.next hb)
            clear HB HE0 HSB HX HCU HIN
            have HB := HBx
            have HE0 := HE0x
            have HSB := HSBx
            have HX := HXx
            have HCU := HCUx
            have HIN := HINx
            clear HBx HE0x HSBx HXx HCUx HINx
            clear hb
            obtain ⟨s0, s1, s2⟩ := HSB.out
            obtain ⟨x0, x1, x2, x3⟩ := HX.out
            go_wp2_with fail
            refine (CMS.out _ HCU.out.row).mono ?_
            rintro e v7 ⟨rfl, hb⟩
            clear s0 s1 s2 x0 x1 x2 x3
            have HBx := Lib.hid (HB.out.trans (hb.mono HB.out.size))
            have HE0x := Lib.hid (HE0.out.trans (hb.mono HE0.out.size))
            have HSBx := Lib.hid (HSB.out.next hb)
            have HXx := Lib.hid (HX.out.next hb)
            have HCUx := Lib.hid (HCU.out.next hb)
            have HINx := Lib.hid (HIN.out.next hb)
            clear HB HE0 HSB HX HCU HIN
            have HB := HBx
            have HE0 := HE0x
            have HSB := HSBx
            have HX := HXx
            have HCU := HCUx
            have HIN := HINx
            clear HBx HE0x HSBx HXx HCUx HINx
            clear hb
            obtain ⟨s0, s1, s2⟩ := HSB.out
            obtain ⟨x0, x1, x2, x3⟩ := HX.out
            go_wp2_with fail
            refine (num15_any 1 _).mono ?_
            rintro e wn ⟨rfl, rfl⟩
            go_wp2_with fail
            go_roundg (25 - (i + 1))
            case measure => omega
            case rel => exact ⟨i + 1, ca, cs, cn, cc, rfl, by go_num, by omega, by omega, HCU.out.more, HE0.out⟩
          · cases o with
            | none =>
              cases xb
              · refine (CGR.out _ HB.out HCU.out.row).mono ?_
                rintro e v1 ⟨rfl, hb⟩
                have HBx := Lib.hid (HB.out.trans (hb.mono HB.out.size))
                have HE0x := Lib.hid (HE0.out.trans (hb.mono HE0.out.size))
                have HSBx := Lib.hid (HSB.out.next hb)
                have HXx := Lib.hid (HX.out.next hb)
                have HCUx := Lib.hid (HCU.out.next hb)
                clear HB HE0 HSB HX HCU
                have HB := HBx
                have HE0 := HE0x
                have HSB := HSBx
                have HX := HXx
                have HCU := HCUx
                clear HBx HE0x HSBx HXx HCUx
                clear hb
                obtain ⟨s0, s1, s2⟩ := HSB.out
                obtain ⟨x0, x1, x2, x3⟩ := HX.out
                go_wp2_with fail
                refine (CCK.out _ HB.out HCU.out.row).mono ?_
                rintro e v2 ⟨rfl, hb⟩
                clear s0 s1 s2 x0 x1 x2 x3
                have HBx := Lib.hid (HB.out.trans (hb.mono HB.out.size))
                have HE0x := Lib.hid (HE0.out.trans (hb.mono HE0.out.size))
                have HSBx := Lib.hid (HSB.out.next hb)
                have HXx := Lib.hid (HX.out.next hb)
                have HCUx := Lib.hid (HCU.out.next hb)
                clear HB HE0 HSB HX HCU
                have HB := HBx
                have HE0 := HE0x
                have HSB := HSBx
                have HX := HXx
                have HCU := HCUx
                clear HBx HE0x HSBx HXx HCUx
                clear hb
                obtain ⟨s0, s1, s2⟩ := HSB.out
                obtain ⟨x0, x1, x2, x3⟩ := HX.out
                simp only [St.errB]
                go_wp2_with fail
                refine (num15_any 0 _).mono ?_
                rintro e wn ⟨rfl, rfl⟩
                go_wp2_with fail
                refine ((show Calls Tryd.prog 13 _ _ (GetPost (valZ none) (errZ none) _) by have := get_yes ca cs cn cc x.p _ (HT.out _ HB.out) HCU.out.row HCU.out.len (by have := HLN.out; have := HCU.out.len; omega) HRB.out; rw [HOO.out] at this; exact this)).mono ?_
                rintro e v3 ⟨rfl, hb⟩
                clear s0 s1 s2 x0 x1 x2 x3
                have HBx := Lib.hid (HB.out.trans (hb.mono HB.out.size))
                have HE0x := Lib.hid (HE0.out.trans (hb.mono HE0.out.size))
                have HSBx := Lib.hid (HSB.out.next hb)
                have HXx := Lib.hid (HX.out.next hb)
                have HCUx := Lib.hid (HCU.out.next hb)
                clear HB HE0 HSB HX HCU
                have HB := HBx
                have HE0 := HE0x
                have HSB := HSBx
                have HX := HXx
                have HCU := HCUx
                clear HBx HE0x HSBx HXx HCUx
                clear hb
                obtain ⟨s0, s1, s2⟩ := HSB.out
                obtain ⟨x0, x1, x2, x3⟩ := HX.out
                simp only [valZ, errZ]
                go_wp2_with fail
                refine (CGT.out _ HCU.out.row).mono ?_
                rintro e v4 ⟨rfl, hb⟩
                clear s0 s1 s2 x0 x1 x2 x3
                have HBx := Lib.hid (HB.out.trans (hb.mono HB.out.size))
                have HE0x := Lib.hid (HE0.out.trans (hb.mono HE0.out.size))
                have HSBx := Lib.hid (HSB.out.next hb)
                have HXx := Lib.hid (HX.out.next hb)
                have HCUx := Lib.hid (HCU.out.next hb)
                clear HB HE0 HSB HX HCU
                have HB := HBx
                have HE0 := HE0x
                have HSB := HSBx
                have HX := HXx
                have HCU := HCUx
                clear HBx HE0x HSBx HXx HCUx
                clear hb
                obtain ⟨s0, s1, s2⟩ := HSB.out
                obtain ⟨x0, x1, x2, x3⟩ := HX.out
                simp only [valZ, Option.isSome_none]
                go_wp2_with fail
                refine (num15_any 3 _).mono ?_
                rintro e wn ⟨rfl, rfl⟩
                go_wp2_with fail
                refine (CCP.out _ HCU.out.row).mono ?_
                rintro e v5 ⟨vi, rfl, hoi, hb⟩
                clear s0 s1 s2 x0 x1 x2 x3
                have HBx := Lib.hid (HB.out.trans (hb.mono HB.out.size))
                have HE0x := Lib.hid (HE0.out.trans (hb.mono HE0.out.size))
                have HSBx := Lib.hid (HSB.out.next hb)
                have HXx := Lib.hid (HX.out.next hb)
                have HCUx := Lib.hid (HCU.out.next hb)
                clear HB HE0 HSB HX HCU
                have HB := HBx
                have HE0 := HE0x
                have HSB := HSBx
                have HX := HXx
                have HCU := HCUx
                clear HBx HE0x HSBx HXx HCUx
                have HOI := Lib.hid hoi
                clear hb hoi
                obtain ⟨s0, s1, s2⟩ := HSB.out
                obtain ⟨x0, x1, x2, x3⟩ := HX.out
                obtain ⟨ia, inn, ic, rfl, hni, hci, hri⟩ := HOI.out.form
                have HIN := Lib.hid hri
                have HIL := Lib.hid hni
                have HIC := Lib.hid hci
                clear hni hci hri HOI
                have HMAY : Hid ((regsB cs && regB x) = false) := by show _ = _; rw [HRB.out, HXB.out]; rfl
                go_wp2_with fail
                refine (set_no ia cs inn ic x _ (HT.out _ HB.out) HIN.out HIL.out HM1.out HMAY.out).mono ?_
                rintro e v6 ⟨rfl, hb⟩
                clear s0 s1 s2 x0 x1 x2 x3
                have HBx := Lib.hid (HB.out.trans (hb.mono HB.out.size))
                have HE0x := Lib.hid (HE0.out.trans (hb.mono HE0.out.size))
                have HSBx := Lib.hid (HSB.out.next hb)
                have HXx := Lib.hid (HX.out.next hb)
                have HCUx := Lib.hid (HCU.out.next hb)
                have HINx := Lib.hid (HIN.out.next hb)
                clear HB HE0 HSB HX HCU HIN
                have HB := HBx
                have HE0 := HE0x
                have HSB := HSBx
                have HX := HXx
                have HCU := HCUx
                have HIN := HINx
                clear HBx HE0x HSBx HXx HCUx HINx
                clear hb
                obtain ⟨s0, s1, s2⟩ := HSB.out
                obtain ⟨x0, x1, x2, x3⟩ := HX.out
                go_wp2_with fail
                refine (eqRegs_yes ia ca cs inn cn ic cc _ HIN.out HCU.out.row HIL.out HCU.out.len (by have := HLN.out; omega)).mono ?_
                rintro e v7 ⟨rfl, hb⟩
                clear s0 s1 s2 x0 x1 x2 x3
                have HBx := Lib.hid (HB.out.trans (hb.mono HB.out.size))
                have HE0x := Lib.hid (HE0.out.trans (hb.mono HE0.out.size))
                have HSBx := Lib.hid (HSB.out.next hb)
                have HXx := Lib.hid (HX.out.next hb)
                have HCUx := Lib.hid (HCU.out.next hb)
                have HINx := Lib.hid (HIN.out.next hb)
                clear HB HE0 HSB HX HCU HIN
                have HB := HBx
                have HE0 := HE0x
                have HSB := HSBx
                have HX := HXx
                have HCU := HCUx
                have HIN := HINx
                clear HBx HE0x HSBx HXx HCUx HINx
                clear hb
                obtain ⟨s0, s1, s2⟩ := HSB.out
                obtain ⟨x0, x1, x2, x3⟩ := HX.out
                go_wp2_with fail
                refine (CMS.out _ HCU.out.row).mono ?_
                rintro e v8 ⟨rfl, hb⟩
                clear s0 s1 s2 x0 x1 x2 x3
                have HBx := Lib.hid (HB.out.trans (hb.mono HB.out.size))
                have HE0x := Lib.hid (HE0.out.trans (hb.mono HE0.out.size))
                have HSBx := Lib.hid (HSB.out.next hb)
                have HXx := Lib.hid (HX.out.next hb)
                have HCUx := Lib.hid (HCU.out.next hb)
                have HINx := Lib.hid (HIN.out.next hb)
                clear HB HE0 HSB HX HCU HIN
                have HB := HBx
                have HE0 := HE0x
                have HSB := HSBx
                have HX := HXx
                have HCU := HCUx
                have HIN := HINx
                clear HBx HE0x HSBx HXx HCUx HINx
                clear hb
                obtain ⟨s0, s1, s2⟩ := HSB.out
                obtain ⟨x0, x1, x2, x3⟩ := HX.out
                go_wp2_with fail
                refine (num15_any 1 _).mono ?_
                rintro e wn ⟨rfl, rfl⟩
                go_wp2_with fail
                go_roundg (25 - (i + 1))
                case measure => omega
                case rel => exact ⟨i + 1, ca, cs, cn, cc, rfl, by go_num, by omega, by omega, HCU.out.more, HE0.out⟩
              · refine (CGR.out _ HB.out HCU.out.row).mono ?_
                rintro e v1 ⟨rfl, hb⟩
                have HBx := Lib.hid (HB.out.trans (hb.mono HB.out.size))
                have HE0x := Lib.hid (HE0.out.trans (hb.mono HE0.out.size))
                have HSBx := Lib.hid (HSB.out.next hb)
                have HXx := Lib.hid (HX.out.next hb)
                have HCUx := Lib.hid (HCU.out.next hb)
                clear HB HE0 HSB HX HCU
                have HB := HBx
                have HE0 := HE0x
                have HSB := HSBx
                have HX := HXx
                have HCU := HCUx
                clear HBx HE0x HSBx HXx HCUx
                clear hb
                obtain ⟨s0, s1, s2⟩ := HSB.out
                obtain ⟨x0, x1, x2, x3⟩ := HX.out
                go_wp2_with fail
                refine (CCK.out _ HB.out HCU.out.row).mono ?_
                rintro e v2 ⟨rfl, hb⟩
                clear s0 s1 s2 x0 x1 x2 x3
                have HBx := Lib.hid (HB.out.trans (hb.mono HB.out.size))
                have HE0x := Lib.hid (HE0.out.trans (hb.mono HE0.out.size))
                have HSBx := Lib.hid (HSB.out.next hb)
                have HXx := Lib.hid (HX.out.next hb)
                have HCUx := Lib.hid (HCU.out.next hb)
                clear HB HE0 HSB HX HCU
                have HB := HBx
                have HE0 := HE0x
                have HSB := HSBx
                have HX := HXx
                have HCU := HCUx
                clear HBx HE0x HSBx HXx HCUx
                clear hb
                obtain ⟨s0, s1, s2⟩ := HSB.out
                obtain ⟨x0, x1, x2, x3⟩ := HX.out
                simp only [St.errB]
                go_wp2_with fail
                refine (num15_any 0 _).mono ?_
                rintro e wn ⟨rfl, rfl⟩
                go_wp2_with fail
                refine ((show Calls Tryd.prog 13 _ _ (GetPost (valZ none) (errZ none) _) by have := get_yes ca cs cn cc x.p _ (HT.out _ HB.out) HCU.out.row HCU.out.len (by have := HLN.out; have := HCU.out.len; omega) HRB.out; rw [HOO.out] at this; exact this)).mono ?_
                rintro e v3 ⟨rfl, hb⟩
                clear s0 s1 s2 x0 x1 x2 x3
                have HBx := Lib.hid (HB.out.trans (hb.mono HB.out.size))
                have HE0x := Lib.hid (HE0.out.trans (hb.mono HE0.out.size))
                have HSBx := Lib.hid (HSB.out.next hb)
                have HXx := Lib.hid (HX.out.next hb)
                have HCUx := Lib.hid (HCU.out.next hb)
                clear HB HE0 HSB HX HCU
                have HB := HBx
                have HE0 := HE0x
                have HSB := HSBx
                have HX := HXx
                have HCU := HCUx
                clear HBx HE0x HSBx HXx HCUx
                clear hb
                obtain ⟨s0, s1, s2⟩ := HSB.out
                obtain ⟨x0, x1, x2, x3⟩ := HX.out
                simp only [valZ, errZ]
                go_wp2_with fail
                refine (CGT.out _ HCU.out.row).mono ?_
                rintro e v4 ⟨rfl, hb⟩
                clear s0 s1 s2 x0 x1 x2 x3
                have HBx := Lib.hid (HB.out.trans (hb.mono HB.out.size))
                have HE0x := Lib.hid (HE0.out.trans (hb.mono HE0.out.size))
                have HSBx := Lib.hid (HSB.out.next hb)
                have HXx := Lib.hid (HX.out.next hb)
                have HCUx := Lib.hid (HCU.out.next hb)
                clear HB HE0 HSB HX HCU
                have HB := HBx
                have HE0 := HE0x
                have HSB := HSBx
                have HX := HXx
                have HCU := HCUx
                clear HBx HE0x HSBx HXx HCUx
                clear hb
                obtain ⟨s0, s1, s2⟩ := HSB.out
                obtain ⟨x0, x1, x2, x3⟩ := HX.out
                simp only [valZ, Option.isSome_none]
                go_wp2_with fail
                refine (num15_any 3 _).mono ?_
                rintro e wn ⟨rfl, rfl⟩
                go_wp2_with fail
                refine (CCP.out _ HCU.out.row).mono ?_
                rintro e v5 ⟨vi, rfl, hoi, hb⟩
                clear s0 s1 s2 x0 x1 x2 x3
                have HBx := Lib.hid (HB.out.trans (hb.mono HB.out.size))
                have HE0x := Lib.hid (HE0.out.trans (hb.mono HE0.out.size))
                have HSBx := Lib.hid (HSB.out.next hb)
                have HXx := Lib.hid (HX.out.next hb)
                have HCUx := Lib.hid (HCU.out.next hb)
                clear HB HE0 HSB HX HCU
                have HB := HBx
                have HE0 := HE0x
                have HSB := HSBx
                have HX := HXx
                have HCU := HCUx
                clear HBx HE0x HSBx HXx HCUx
                have HOI := Lib.hid hoi
                clear hb hoi
                obtain ⟨s0, s1, s2⟩ := HSB.out
                obtain ⟨x0, x1, x2, x3⟩ := HX.out
                obtain ⟨ia, inn, ic, rfl, hni, hci, hri⟩ := HOI.out.form
                have HIN := Lib.hid hri
                have HIL := Lib.hid hni
                have HIC := Lib.hid hci
                clear hni hci hri HOI
                have HMAY : Hid ((regsB cs && regB x) = true) := by show _ = _; rw [HRB.out, HXB.out]; rfl
                have HBs := HB
                have HE0s := HE0
                have HSBs := HSB
                have HXs := HX
                have HCUs := HCU
                have HINs := HIN
                go_wp2_with fail
                refine (set_yes ia cs inn ic x _ (HT.out _ HB.out) HIN.out HIL.out HIC.out HM1.out HMAY.out).mono ?_
                rintro e v6 ⟨vl, rfl, hol, hb⟩
                clear s0 s1 s2 x0 x1 x2 x3
                have HBx := Lib.hid (HB.out.trans (hb.mono HB.out.size))
                have HE0x := Lib.hid (HE0.out.trans (hb.mono HE0.out.size))
                have HSBx := Lib.hid (HSB.out.next hb)
                have HXx := Lib.hid (HX.out.next hb)
                have HCUx := Lib.hid (HCU.out.next hb)
                have HINx := Lib.hid (HIN.out.next hb)
                clear HB HE0 HSB HX HCU HIN
                have HB := HBx
                have HE0 := HE0x
                have HSB := HSBx
                have HX := HXx
                have HCU := HCUx
                have HIN := HINx
                clear HBx HE0x HSBx HXx HCUx HINx
                have HO3 := Lib.hid hol
                have HBL := Lib.hid hb
                clear hb hol
                obtain ⟨s0, s1, s2⟩ := HSB.out
                obtain ⟨x0, x1, x2, x3⟩ := HX.out
                go_wp2_with fail
                refine (eqRegs_yes ia ca cs inn cn ic cc _ HIN.out HCU.out.row HIL.out HCU.out.len (by have := HLN.out; omega)).mono ?_
                rintro e v7 ⟨rfl, hb⟩
                clear s0 s1 s2 x0 x1 x2 x3
                have HBx := Lib.hid (HB.out.trans (hb.mono HB.out.size))
                have HE0x := Lib.hid (HE0.out.trans (hb.mono HE0.out.size))
                have HSBx := Lib.hid (HSB.out.next hb)
                have HXx := Lib.hid (HX.out.next hb)
                have HCUx := Lib.hid (HCU.out.next hb)
                have HINx := Lib.hid (HIN.out.next hb)
                have HO3x := Lib.hid (HO3.out.below hb)
                have HBLx := Lib.hid (HBL.out.trans (hb.mono HBL.out.size))
                clear HB HE0 HSB HX HCU HIN HO3 HBL
                have HB := HBx
                have HE0 := HE0x
                have HSB := HSBx
                have HX := HXx
                have HCU := HCUx
                have HIN := HINx
                have HO3 := HO3x
                have HBL := HBLx
                clear HBx HE0x HSBx HXx HCUx HINx HO3x HBLx
                clear hb
                obtain ⟨s0, s1, s2⟩ := HSB.out
                obtain ⟨x0, x1, x2, x3⟩ := HX.out
                go_wp2_with fail
                refine (CMS.out _ HCU.out.row).mono ?_
                rintro e v8 ⟨rfl, hb⟩
                clear s0 s1 s2 x0 x1 x2 x3
                have HBx := Lib.hid (HB.out.trans (hb.mono HB.out.size))
                have HE0x := Lib.hid (HE0.out.trans (hb.mono HE0.out.size))
                have HSBx := Lib.hid (HSB.out.next hb)
                have HXx := Lib.hid (HX.out.next hb)
                have HCUx := Lib.hid (HCU.out.next hb)
                have HINx := Lib.hid (HIN.out.next hb)
                have HO3x := Lib.hid (HO3.out.below hb)
                have HBLx := Lib.hid (HBL.out.trans (hb.mono HBL.out.size))
                clear HB HE0 HSB HX HCU HIN HO3 HBL
                have HB := HBx
                have HE0 := HE0x
                have HSB := HSBx
                have HX := HXx
                have HCU := HCUx
                have HIN := HINx
                have HO3 := HO3x
                have HBL := HBLx
                clear HBx HE0x HSBx HXx HCUx HINx HO3x HBLx
                clear hb
                obtain ⟨s0, s1, s2⟩ := HSB.out
                obtain ⟨x0, x1, x2, x3⟩ := HX.out
                obtain ⟨a3, n3, c3, rfl, -, -, -⟩ := HO3.out.form
                have HLT := Lib.hid (fun k (hk : (Value.slice a3 n3 c3).ownBlock = some k) => (HO3.out.lt hk).2)
                go_wp2_with fail
                refine (refSet_any ca cs cn cc x _ HCU.out.row HCU.out.len HM.out).mono ?_
                rintro e v9 ⟨vf, rfl, hof, hb⟩
                clear s0 s1 s2 x0 x1 x2 x3
                have HBx := Lib.hid (HB.out.trans (hb.mono HB.out.size))
                have HE0x := Lib.hid (HE0.out.trans (hb.mono HE0.out.size))
                have HSBx := Lib.hid (HSB.out.next hb)
                have HXx := Lib.hid (HX.out.next hb)
                have HCUx := Lib.hid (HCU.out.next hb)
                have HINx := Lib.hid (HIN.out.next hb)
                have HO3x := Lib.hid (HO3.out.below hb)
                have HBLx := Lib.hid (HBL.out.trans (hb.mono HBL.out.size))
                clear HB HE0 HSB HX HCU HIN HO3 HBL
                have HB := HBx
                have HE0 := HE0x
                have HSB := HSBx
                have HX := HXx
                have HCU := HCUx
                have HIN := HINx
                have HO3 := HO3x
                have HBL := HBLx
                clear HBx HE0x HSBx HXx HCUx HINx HO3x HBLx
                have HOF := Lib.hid (show OwnG _ _ vf (mergeG cs [x]) by rw [← setG_merge (regs_asc HRB.out)]; exact hof)
                clear hb hof
                obtain ⟨s0, s1, s2⟩ := HSB.out
                obtain ⟨x0, x1, x2, x3⟩ := HX.out
                go_wp2_with fail
                refine (num15_any 0 _).mono ?_
                rintro e wn ⟨rfl, rfl⟩
                obtain ⟨a4, n4, c4, rfl, -, -, -⟩ := HOF.out.form
                have HML : Hid ((mergeG cs [x]).length ≤ cs.length + 1) := mergeG_len cs [x]
                have CE : Hid (Calls Tryd.prog 16 #[.slice a3 n3 c3, .slice a4 n4 c4] v9 (BoolPost v9 true)) := by
                  obtain ⟨a3', n3', c3', e3, hn3, hc3, hr3⟩ := HO3.out.form
                  obtain ⟨a4', n4', c4', e4, hn4, hc4, hr4⟩ := HOF.out.form
                  simp only [Value.slice.injEq] at e3 e4
                  obtain ⟨rfl, rfl, rfl⟩ := e3
                  obtain ⟨rfl, rfl, rfl⟩ := e4
                  exact eqRegs_yes a3 a4 (mergeG cs [x]) n3 n4 c3 c4 _ hr3 hr4 hn3 hn4 (Nat.le_trans HML.out (by have := HLN.out; omega))
                go_wp2_with fail
                refine (CE.out).mono ?_
                rintro e v10 ⟨rfl, hb⟩
                clear s0 s1 s2 x0 x1 x2 x3
                have HBx := Lib.hid (HB.out.trans (hb.mono HB.out.size))
                have HE0x := Lib.hid (HE0.out.trans (hb.mono HE0.out.size))
                have HSBx := Lib.hid (HSB.out.next hb)
                have HXx := Lib.hid (HX.out.next hb)
                have HCUx := Lib.hid (HCU.out.next hb)
                have HINx := Lib.hid (HIN.out.next hb)
                have HO3x := Lib.hid (HO3.out.below hb)
                have HBLx := Lib.hid (HBL.out.trans (hb.mono HBL.out.size))
                have HOFx := Lib.hid (HOF.out.below hb)
                clear HB HE0 HSB HX HCU HIN HO3 HBL HOF
                have HB := HBx
                have HE0 := HE0x
                have HSB := HSBx
                have HX := HXx
                have HCU := HCUx
                have HIN := HINx
                have HO3 := HO3x
                have HBL := HBLx
                have HOF := HOFx
                clear HBx HE0x HSBx HXx HCUx HINx HO3x HBLx HOFx
                clear hb
                obtain ⟨s0, s1, s2⟩ := HSB.out
                obtain ⟨x0, x1, x2, x3⟩ := HX.out
                go_wp2_with fail
                refine (spoilRegs_any (.slice a3 n3 c3) (mergeG cs [x]) _ _ HO3.out (room32 (Nat.add_le_add_right HML.out 1) (by have := HLN.out; omega)) HBL.out.size).mono ?_
                rintro e ws ⟨rfl, hgr⟩
                have HBL2 := Lib.hid (HBL.out.grown hgr HBL.out.size (fun k hk => (HO3.out.lt hk).1))
                have HOF2 := Lib.hid (HOF.out.grown hgr (by
                  cases hk : (Value.slice a4 n4 c4).ownBlock with
                  | none => exact .inl rfl
                  | some k =>
                    right
                    intro e
                    have h1 := (HOF.out.lt hk).1
                    have h2 := HLT.out k e.symm
                    omega))
                clear hgr HB HE0 HSB HX HCU HIN HO3 HOF HBL s0 s1 s2 x0 x1 x2 x3
                have HB := Lib.hid (HBs.out.trans (HBL2.out.mono HBs.out.size))
                have HE0 := Lib.hid (HE0s.out.trans (HBL2.out.mono HE0s.out.size))
                have HSB := Lib.hid (HSBs.out.next HBL2.out)
                have HX := Lib.hid (HXs.out.next HBL2.out)
                have HCU := Lib.hid (HCUs.out.next HBL2.out)
                have HIN := Lib.hid (HINs.out.next HBL2.out)
                have HOF := HOF2
                clear HOF2
                obtain ⟨s0, s1, s2⟩ := HSB.out
                obtain ⟨x0, x1, x2, x3⟩ := HX.out
                go_wp2_with fail
                refine (eqRegs_yes ia ca cs inn cn ic cc _ HIN.out HCU.out.row HIL.out HCU.out.len (by have := HLN.out; omega)).mono ?_
                rintro e v11 ⟨rfl, hb⟩
                clear s0 s1 s2 x0 x1 x2 x3
                have HBx := Lib.hid (HB.out.trans (hb.mono HB.out.size))
                have HE0x := Lib.hid (HE0.out.trans (hb.mono HE0.out.size))
                have HSBx := Lib.hid (HSB.out.next hb)
                have HXx := Lib.hid (HX.out.next hb)
                have HCUx := Lib.hid (HCU.out.next hb)
                have HINx := Lib.hid (HIN.out.next hb)
                have HOFx := Lib.hid (HOF.out.below hb)
                clear HB HE0 HSB HX HCU HIN HOF
                have HB := HBx
                have HE0 := HE0x
                have HSB := HSBx
                have HX := HXx
                have HCU := HCUx
                have HIN := HINx
                have HOF := HOFx
                clear HBx HE0x HSBx HXx HCUx HINx HOFx
                clear hb
                obtain ⟨s0, s1, s2⟩ := HSB.out
                obtain ⟨x0, x1, x2, x3⟩ := HX.out
                have HCN : Hid (CuG v11 a4 (mergeG cs [x]) n4 c4 (i + 1)) := by
                  obtain ⟨a4', n4', c4', e4, hn4, hc4, hr4⟩ := HOF.out.form
                  simp only [Value.slice.injEq] at e4
                  obtain ⟨rfl, rfl, rfl⟩ := e4
                  exact ⟨hr4, hn4, hc4, by have := HML.out; have := HCU.out.bnd; omega⟩
                go_wp2_with fail
                go_roundg (25 - (i + 1))
                case measure => omega
                case rel => exact ⟨i + 1, a4, mergeG cs [x], n4, c4, rfl, by go_num, by omega, by omega, HCN.out, HE0.out⟩
            | some oy =>
              cases xb
              · refine (CGR.out _ HB.out HCU.out.row).mono ?_
                rintro e v1 ⟨rfl, hb⟩
                have HBx := Lib.hid (HB.out.trans (hb.mono HB.out.size))
                have HE0x := Lib.hid (HE0.out.trans (hb.mono HE0.out.size))
                have HSBx := Lib.hid (HSB.out.next hb)
                have HXx := Lib.hid (HX.out.next hb)
                have HCUx := Lib.hid (HCU.out.next hb)
                clear HB HE0 HSB HX HCU
                have HB := HBx
                have HE0 := HE0x
                have HSB := HSBx
                have HX := HXx
                have HCU := HCUx
                clear HBx HE0x HSBx HXx HCUx
                clear hb
                obtain ⟨s0, s1, s2⟩ := HSB.out
                obtain ⟨x0, x1, x2, x3⟩ := HX.out
                go_wp2_with fail
                refine (CCK.out _ HB.out HCU.out.row).mono ?_
                rintro e v2 ⟨rfl, hb⟩
                clear s0 s1 s2 x0 x1 x2 x3
                have HBx := Lib.hid (HB.out.trans (hb.mono HB.out.size))
                have HE0x := Lib.hid (HE0.out.trans (hb.mono HE0.out.size))
                have HSBx := Lib.hid (HSB.out.next hb)
                have HXx := Lib.hid (HX.out.next hb)
                have HCUx := Lib.hid (HCU.out.next hb)
                clear HB HE0 HSB HX HCU
                have HB := HBx
                have HE0 := HE0x
                have HSB := HSBx
                have HX := HXx
                have HCU := HCUx
                clear HBx HE0x HSBx HXx HCUx
                clear hb
                obtain ⟨s0, s1, s2⟩ := HSB.out
                obtain ⟨x0, x1, x2, x3⟩ := HX.out
                simp only [St.errB]
                go_wp2_with fail
                refine (num15_any 0 _).mono ?_
                rintro e wn ⟨rfl, rfl⟩
                go_wp2_with fail
                refine ((show Calls Tryd.prog 13 _ _ (GetPost (valZ (some oy)) (errZ (some oy)) _) by have := get_yes ca cs cn cc x.p _ (HT.out _ HB.out) HCU.out.row HCU.out.len (by have := HLN.out; have := HCU.out.len; omega) HRB.out; rw [HOO.out] at this; exact this)).mono ?_
                rintro e v3 ⟨rfl, hb⟩
                clear s0 s1 s2 x0 x1 x2 x3
                have HBx := Lib.hid (HB.out.trans (hb.mono HB.out.size))
                have HE0x := Lib.hid (HE0.out.trans (hb.mono HE0.out.size))
                have HSBx := Lib.hid (HSB.out.next hb)
                have HXx := Lib.hid (HX.out.next hb)
                have HCUx := Lib.hid (HCU.out.next hb)
                clear HB HE0 HSB HX HCU
                have HB := HBx
                have HE0 := HE0x
                have HSB := HSBx
                have HX := HXx
                have HCU := HCUx
                clear HBx HE0x HSBx HXx HCUx
                clear hb
                obtain ⟨s0, s1, s2⟩ := HSB.out
                obtain ⟨x0, x1, x2, x3⟩ := HX.out
                simp only [valZ, errZ]
                go_wp2_with fail
                refine (CGT.out _ HCU.out.row).mono ?_
                rintro e v4 ⟨rfl, hb⟩
                clear s0 s1 s2 x0 x1 x2 x3
                have HBx := Lib.hid (HB.out.trans (hb.mono HB.out.size))
                have HE0x := Lib.hid (HE0.out.trans (hb.mono HE0.out.size))
                have HSBx := Lib.hid (HSB.out.next hb)
                have HXx := Lib.hid (HX.out.next hb)
                have HCUx := Lib.hid (HCU.out.next hb)
                clear HB HE0 HSB HX HCU
                have HB := HBx
                have HE0 := HE0x
                have HSB := HSBx
                have HX := HXx
                have HCU := HCUx
                clear HBx HE0x HSBx HXx HCUx
                clear hb
                obtain ⟨s0, s1, s2⟩ := HSB.out
                obtain ⟨x0, x1, x2, x3⟩ := HX.out
                simp only [valZ, Option.isSome_some]
                go_wp2_with fail
                refine (num15_any 0 _).mono ?_
                rintro e wn ⟨rfl, rfl⟩
                go_wp2_with fail
                refine (CCP.out _ HCU.out.row).mono ?_
                rintro e v5 ⟨vi, rfl, hoi, hb⟩
                clear s0 s1 s2 x0 x1 x2 x3
                have HBx := Lib.hid (HB.out.trans (hb.mono HB.out.size))
                have HE0x := Lib.hid (HE0.out.trans (hb.mono HE0.out.size))
                have HSBx := Lib.hid (HSB.out.next hb)
                have HXx := Lib.hid (HX.out.next hb)
                have HCUx := Lib.hid (HCU.out.next hb)
                clear HB HE0 HSB HX HCU
                have HB := HBx
                have HE0 := HE0x
                have HSB := HSBx
                have HX := HXx
                have HCU := HCUx
                clear HBx HE0x HSBx HXx HCUx
                have HOI := Lib.hid hoi
                clear hb hoi
                obtain ⟨s0, s1, s2⟩ := HSB.out
                obtain ⟨x0, x1, x2, x3⟩ := HX.out
                obtain ⟨ia, inn, ic, rfl, hni, hci, hri⟩ := HOI.out.form
                have HIN := Lib.hid hri
                have HIL := Lib.hid hni
                have HIC := Lib.hid hci
                clear hni hci hri HOI
                have HMAY : Hid ((regsB cs && regB x) = false) := by show _ = _; rw [HRB.out, HXB.out]; rfl
                go_wp2_with fail
                refine (set_no ia cs inn ic x _ (HT.out _ HB.out) HIN.out HIL.out HM1.out HMAY.out).mono ?_
                rintro e v6 ⟨rfl, hb⟩
                clear s0 s1 s2 x0 x1 x2 x3
                have HBx := Lib.hid (HB.out.trans (hb.mono HB.out.size))
                have HE0x := Lib.hid (HE0.out.trans (hb.mono HE0.out.size))
                have HSBx := Lib.hid (HSB.out.next hb)
                have HXx := Lib.hid (HX.out.next hb)
                have HCUx := Lib.hid (HCU.out.next hb)
                have HINx := Lib.hid (HIN.out.next hb)
                clear HB HE0 HSB HX HCU HIN
                have HB := HBx
                have HE0 := HE0x
                have HSB := HSBx
                have HX := HXx
                have HCU := HCUx
                have HIN := HINx
                clear HBx HE0x HSBx HXx HCUx HINx
                clear hb
                obtain ⟨s0, s1, s2⟩ := HSB.out
                obtain ⟨x0, x1, x2, x3⟩ := HX.out
                go_wp2_with fail
                refine (eqRegs_yes ia ca cs inn cn ic cc _ HIN.out HCU.out.row HIL.out HCU.out.len (by have := HLN.out; omega)).mono ?_
                rintro e v7 ⟨rfl, hb⟩
                clear s0 s1 s2 x0 x1 x2 x3
                have HBx := Lib.hid (HB.out.trans (hb.mono HB.out.size))
                have HE0x := Lib.hid (HE0.out.trans (hb.mono HE0.out.size))
                have HSBx := Lib.hid (HSB.out.next hb)
                have HXx := Lib.hid (HX.out.next hb)
                have HCUx := Lib.hid (HCU.out.next hb)
                have HINx := Lib.hid (HIN.out.next hb)
                clear HB HE0 HSB HX HCU HIN
                have HB := HBx
                have HE0 := HE0x
                have HSB := HSBx
                have HX := HXx
                have HCU := HCUx
                have HIN := HINx
                clear HBx HE0x HSBx HXx HCUx HINx
                clear hb
                obtain ⟨s0, s1, s2⟩ := HSB.out
                obtain ⟨x0, x1, x2, x3⟩ := HX.out
                go_wp2_with fail
                refine (CMS.out _ HCU.out.row).mono ?_
                rintro e v8 ⟨rfl, hb⟩
                clear s0 s1 s2 x0 x1 x2 x3
                have HBx := Lib.hid (HB.out.trans (hb.mono HB.out.size))
                have HE0x := Lib.hid (HE0.out.trans (hb.mono HE0.out.size))
                have HSBx := Lib.hid (HSB.out.next hb)
                have HXx := Lib.hid (HX.out.next hb)
                have HCUx := Lib.hid (HCU.out.next hb)
                have HINx := Lib.hid (HIN.out.next hb)
                clear HB HE0 HSB HX HCU HIN
                have HB := HBx
                have HE0 := HE0x
                have HSB := HSBx
                have HX := HXx
                have HCU := HCUx
                have HIN := HINx
                clear HBx HE0x HSBx HXx HCUx HINx
                clear hb
                obtain ⟨s0, s1, s2⟩ := HSB.out
                obtain ⟨x0, x1, x2, x3⟩ := HX.out
                go_wp2_with fail
                refine (num15_any 1 _).mono ?_
                rintro e wn ⟨rfl, rfl⟩
                go_wp2_with fail
                go_roundg (25 - (i + 1))
                case measure => omega
                case rel => exact ⟨i + 1, ca, cs, cn, cc, rfl, by go_num, by omega, by omega, HCU.out.more, HE0.out⟩
              · refine (CGR.out _ HB.out HCU.out.row).mono ?_
                rintro e v1 ⟨rfl, hb⟩
                have HBx := Lib.hid (HB.out.trans (hb.mono HB.out.size))
                have HE0x := Lib.hid (HE0.out.trans (hb.mono HE0.out.size))
                have HSBx := Lib.hid (HSB.out.next hb)
                have HXx := Lib.hid (HX.out.next hb)
                have HCUx := Lib.hid (HCU.out.next hb)
                clear HB HE0 HSB HX HCU
                have HB := HBx
                have HE0 := HE0x
                have HSB := HSBx
                have HX := HXx
                have HCU := HCUx
                clear HBx HE0x HSBx HXx HCUx
                clear hb
                obtain ⟨s0, s1, s2⟩ := HSB.out
                obtain ⟨x0, x1, x2, x3⟩ := HX.out
                go_wp2_with fail
                refine (CCK.out _ HB.out HCU.out.row).mono ?_
                rintro e v2 ⟨rfl, hb⟩
                clear s0 s1 s2 x0 x1 x2 x3
                have HBx := Lib.hid (HB.out.trans (hb.mono HB.out.size))
                have HE0x := Lib.hid (HE0.out.trans (hb.mono HE0.out.size))
                have HSBx := Lib.hid (HSB.out.next hb)
                have HXx := Lib.hid (HX.out.next hb)
                have HCUx := Lib.hid (HCU.out.next hb)
                clear HB HE0 HSB HX HCU
                have HB := HBx
                have HE0 := HE0x
                have HSB := HSBx
                have HX := HXx
                have HCU := HCUx
                clear HBx HE0x HSBx HXx HCUx
                clear hb
                obtain ⟨s0, s1, s2⟩ := HSB.out
                obtain ⟨x0, x1, x2, x3⟩ := HX.out
                simp only [St.errB]
                go_wp2_with fail
                refine (num15_any 0 _).mono ?_
                rintro e wn ⟨rfl, rfl⟩
                go_wp2_with fail
                refine ((show Calls Tryd.prog 13 _ _ (GetPost (valZ (some oy)) (errZ (some oy)) _) by have := get_yes ca cs cn cc x.p _ (HT.out _ HB.out) HCU.out.row HCU.out.len (by have := HLN.out; have := HCU.out.len; omega) HRB.out; rw [HOO.out] at this; exact this)).mono ?_
                rintro e v3 ⟨rfl, hb⟩
                clear s0 s1 s2 x0 x1 x2 x3
                have HBx := Lib.hid (HB.out.trans (hb.mono HB.out.size))
                have HE0x := Lib.hid (HE0.out.trans (hb.mono HE0.out.size))
                have HSBx := Lib.hid (HSB.out.next hb)
                have HXx := Lib.hid (HX.out.next hb)
                have HCUx := Lib.hid (HCU.out.next hb)
                clear HB HE0 HSB HX HCU
                have HB := HBx
                have HE0 := HE0x
                have HSB := HSBx
                have HX := HXx
                have HCU := HCUx
                clear HBx HE0x HSBx HXx HCUx
                clear hb
                obtain ⟨s0, s1, s2⟩ := HSB.out
                obtain ⟨x0, x1, x2, x3⟩ := HX.out
                simp only [valZ, errZ]
                go_wp2_with fail
                refine (CGT.out _ HCU.out.row).mono ?_
                rintro e v4 ⟨rfl, hb⟩
                clear s0 s1 s2 x0 x1 x2 x3
                have HBx := Lib.hid (HB.out.trans (hb.mono HB.out.size))
                have HE0x := Lib.hid (HE0.out.trans (hb.mono HE0.out.size))
                have HSBx := Lib.hid (HSB.out.next hb)
                have HXx := Lib.hid (HX.out.next hb)
                have HCUx := Lib.hid (HCU.out.next hb)
                clear HB HE0 HSB HX HCU
                have HB := HBx
                have HE0 := HE0x
                have HSB := HSBx
                have HX := HXx
                have HCU := HCUx
                clear HBx HE0x HSBx HXx HCUx
                clear hb
                obtain ⟨s0, s1, s2⟩ := HSB.out
                obtain ⟨x0, x1, x2, x3⟩ := HX.out
                simp only [valZ, Option.isSome_some]
                go_wp2_with fail
                refine (num15_any 0 _).mono ?_
                rintro e wn ⟨rfl, rfl⟩
                go_wp2_with fail
                refine (CCP.out _ HCU.out.row).mono ?_
                rintro e v5 ⟨vi, rfl, hoi, hb⟩
                clear s0 s1 s2 x0 x1 x2 x3
                have HBx := Lib.hid (HB.out.trans (hb.mono HB.out.size))
                have HE0x := Lib.hid (HE0.out.trans (hb.mono HE0.out.size))
                have HSBx := Lib.hid (HSB.out.next hb)
                have HXx := Lib.hid (HX.out.next hb)
                have HCUx := Lib.hid (HCU.out.next hb)
                clear HB HE0 HSB HX HCU
                have HB := HBx
                have HE0 := HE0x
                have HSB := HSBx
                have HX := HXx
                have HCU := HCUx
                clear HBx HE0x HSBx HXx HCUx
                have HOI := Lib.hid hoi
                clear hb hoi
                obtain ⟨s0, s1, s2⟩ := HSB.out
                obtain ⟨x0, x1, x2, x3⟩ := HX.out
                obtain ⟨ia, inn, ic, rfl, hni, hci, hri⟩ := HOI.out.form
                have HIN := Lib.hid hri
                have HIL := Lib.hid hni
                have HIC := Lib.hid hci
                clear hni hci hri HOI
                have HMAY : Hid ((regsB cs && regB x) = true) := by show _ = _; rw [HRB.out, HXB.out]; rfl
                have HBs := HB
                have HE0s := HE0
                have HSBs := HSB
                have HXs := HX
                have HCUs := HCU
                have HINs := HIN
                go_wp2_with fail
                refine (set_yes ia cs inn ic x _ (HT.out _ HB.out) HIN.out HIL.out HIC.out HM1.out HMAY.out).mono ?_
                rintro e v6 ⟨vl, rfl, hol, hb⟩
                clear s0 s1 s2 x0 x1 x2 x3
                have HBx := Lib.hid (HB.out.trans (hb.mono HB.out.size))
                have HE0x := Lib.hid (HE0.out.trans (hb.mono HE0.out.size))
                have HSBx := Lib.hid (HSB.out.next hb)
                have HXx := Lib.hid (HX.out.next hb)
                have HCUx := Lib.hid (HCU.out.next hb)
                have HINx := Lib.hid (HIN.out.next hb)
                clear HB HE0 HSB HX HCU HIN
                have HB := HBx
                have HE0 := HE0x
                have HSB := HSBx
                have HX := HXx
                have HCU := HCUx
                have HIN := HINx
                clear HBx HE0x HSBx HXx HCUx HINx
                have HO3 := Lib.hid hol
                have HBL := Lib.hid hb
                clear hb hol
                obtain ⟨s0, s1, s2⟩ := HSB.out
                obtain ⟨x0, x1, x2, x3⟩ := HX.out
                go_wp2_with fail
                refine (eqRegs_yes ia ca cs inn cn ic cc _ HIN.out HCU.out.row HIL.out HCU.out.len (by have := HLN.out; omega)).mono ?_
                rintro e v7 ⟨rfl, hb⟩
                clear s0 s1 s2 x0 x1 x2 x3
                have HBx := Lib.hid (HB.out.trans (hb.mono HB.out.size))
                have HE0x := Lib.hid (HE0.out.trans (hb.mono HE0.out.size))
                have HSBx := Lib.hid (HSB.out.next hb)
                have HXx := Lib.hid (HX.out.next hb)
                have HCUx := Lib.hid (HCU.out.next hb)
                have HINx := Lib.hid (HIN.out.next hb)
                have HO3x := Lib.hid (HO3.out.below hb)
                have HBLx := Lib.hid (HBL.out.trans (hb.mono HBL.out.size))
                clear HB HE0 HSB HX HCU HIN HO3 HBL
                have HB := HBx
                have HE0 := HE0x
                have HSB := HSBx
                have HX := HXx
                have HCU := HCUx
                have HIN := HINx
                have HO3 := HO3x
                have HBL := HBLx
                clear HBx HE0x HSBx HXx HCUx HINx HO3x HBLx
                clear hb
                obtain ⟨s0, s1, s2⟩ := HSB.out
                obtain ⟨x0, x1, x2, x3⟩ := HX.out
                go_wp2_with fail
                refine (CMS.out _ HCU.out.row).mono ?_
                rintro e v8 ⟨rfl, hb⟩
                clear s0 s1 s2 x0 x1 x2 x3
                have HBx := Lib.hid (HB.out.trans (hb.mono HB.out.size))
                have HE0x := Lib.hid (HE0.out.trans (hb.mono HE0.out.size))
                have HSBx := Lib.hid (HSB.out.next hb)
                have HXx := Lib.hid (HX.out.next hb)
                have HCUx := Lib.hid (HCU.out.next hb)
                have HINx := Lib.hid (HIN.out.next hb)
                have HO3x := Lib.hid (HO3.out.below hb)
                have HBLx := Lib.hid (HBL.out.trans (hb.mono HBL.out.size))
                clear HB HE0 HSB HX HCU HIN HO3 HBL
                have HB := HBx
                have HE0 := HE0x
                have HSB := HSBx
                have HX := HXx
                have HCU := HCUx
                have HIN := HINx
                have HO3 := HO3x
                have HBL := HBLx
                clear HBx HE0x HSBx HXx HCUx HINx HO3x HBLx
                clear hb
                obtain ⟨s0, s1, s2⟩ := HSB.out
                obtain ⟨x0, x1, x2, x3⟩ := HX.out
                obtain ⟨a3, n3, c3, rfl, -, -, -⟩ := HO3.out.form
                have HLT := Lib.hid (fun k (hk : (Value.slice a3 n3 c3).ownBlock = some k) => (HO3.out.lt hk).2)
                go_wp2_with fail
                refine (refSet_any ca cs cn cc x _ HCU.out.row HCU.out.len HM.out).mono ?_
                rintro e v9 ⟨vf, rfl, hof, hb⟩
                clear s0 s1 s2 x0 x1 x2 x3
                have HBx := Lib.hid (HB.out.trans (hb.mono HB.out.size))
                have HE0x := Lib.hid (HE0.out.trans (hb.mono HE0.out.size))
                have HSBx := Lib.hid (HSB.out.next hb)
                have HXx := Lib.hid (HX.out.next hb)
                have HCUx := Lib.hid (HCU.out.next hb)
                have HINx := Lib.hid (HIN.out.next hb)
                have HO3x := Lib.hid (HO3.out.below hb)
                have HBLx := Lib.hid (HBL.out.trans (hb.mono HBL.out.size))
                clear HB HE0 HSB HX HCU HIN HO3 HBL
                have HB := HBx
                have HE0 := HE0x
                have HSB := HSBx
                have HX := HXx
                have HCU := HCUx
                have HIN := HINx
                have HO3 := HO3x
                have HBL := HBLx
                clear HBx HE0x HSBx HXx HCUx HINx HO3x HBLx
                have HOF := Lib.hid (show OwnG _ _ vf (mergeG cs [x]) by rw [← setG_merge (regs_asc HRB.out)]; exact hof)
                clear hb hof
                obtain ⟨s0, s1, s2⟩ := HSB.out
                obtain ⟨x0, x1, x2, x3⟩ := HX.out
                go_wp2_with fail
                refine (num15_any 0 _).mono ?_
                rintro e wn ⟨rfl, rfl⟩
                obtain ⟨a4, n4, c4, rfl, -, -, -⟩ := HOF.out.form
                have HML : Hid ((mergeG cs [x]).length ≤ cs.length + 1) := mergeG_len cs [x]
                have CE : Hid (Calls Tryd.prog 16 #[.slice a3 n3 c3, .slice a4 n4 c4] v9 (BoolPost v9 true)) := by
                  obtain ⟨a3', n3', c3', e3, hn3, hc3, hr3⟩ := HO3.out.form
                  obtain ⟨a4', n4', c4', e4, hn4, hc4, hr4⟩ := HOF.out.form
                  simp only [Value.slice.injEq] at e3 e4
                  obtain ⟨rfl, rfl, rfl⟩ := e3
                  obtain ⟨rfl, rfl, rfl⟩ := e4
                  exact eqRegs_yes a3 a4 (mergeG cs [x]) n3 n4 c3 c4 _ hr3 hr4 hn3 hn4 (Nat.le_trans HML.out (by have := HLN.out; omega))
                go_wp2_with fail
                refine (CE.out).mono ?_
                rintro e v10 ⟨rfl, hb⟩
                clear s0 s1 s2 x0 x1 x2 x3
                have HBx := Lib.hid (HB.out.trans (hb.mono HB.out.size))
                have HE0x := Lib.hid (HE0.out.trans (hb.mono HE0.out.size))
                have HSBx := Lib.hid (HSB.out.next hb)
                have HXx := Lib.hid (HX.out.next hb)
                have HCUx := Lib.hid (HCU.out.next hb)
                have HINx := Lib.hid (HIN.out.next hb)
                have HO3x := Lib.hid (HO3.out.below hb)
                have HBLx := Lib.hid (HBL.out.trans (hb.mono HBL.out.size))
                have HOFx := Lib.hid (HOF.out.below hb)
                clear HB HE0 HSB HX HCU HIN HO3 HBL HOF
                have HB := HBx
                have HE0 := HE0x
                have HSB := HSBx
                have HX := HXx
                have HCU := HCUx
                have HIN := HINx
                have HO3 := HO3x
                have HBL := HBLx
                have HOF := HOFx
                clear HBx HE0x HSBx HXx HCUx HINx HO3x HBLx HOFx
                clear hb
                obtain ⟨s0, s1, s2⟩ := HSB.out
                obtain ⟨x0, x1, x2, x3⟩ := HX.out
                go_wp2_with fail
                refine (spoilRegs_any (.slice a3 n3 c3) (mergeG cs [x]) _ _ HO3.out (room32 (Nat.add_le_add_right HML.out 1) (by have := HLN.out; omega)) HBL.out.size).mono ?_
                rintro e ws ⟨rfl, hgr⟩
                have HBL2 := Lib.hid (HBL.out.grown hgr HBL.out.size (fun k hk => (HO3.out.lt hk).1))
                have HOF2 := Lib.hid (HOF.out.grown hgr (by
                  cases hk : (Value.slice a4 n4 c4).ownBlock with
                  | none => exact .inl rfl
                  | some k =>
                    right
                    intro e
                    have h1 := (HOF.out.lt hk).1
                    have h2 := HLT.out k e.symm
                    omega))
                clear hgr HB HE0 HSB HX HCU HIN HO3 HOF HBL s0 s1 s2 x0 x1 x2 x3
                have HB := Lib.hid (HBs.out.trans (HBL2.out.mono HBs.out.size))
                have HE0 := Lib.hid (HE0s.out.trans (HBL2.out.mono HE0s.out.size))
                have HSB := Lib.hid (HSBs.out.next HBL2.out)
                have HX := Lib.hid (HXs.out.next HBL2.out)
                have HCU := Lib.hid (HCUs.out.next HBL2.out)
                have HIN := Lib.hid (HINs.out.next HBL2.out)
                have HOF := HOF2
                clear HOF2
                obtain ⟨s0, s1, s2⟩ := HSB.out
                obtain ⟨x0, x1, x2, x3⟩ := HX.out
                go_wp2_with fail
                refine (eqRegs_yes ia ca cs inn cn ic cc _ HIN.out HCU.out.row HIL.out HCU.out.len (by have := HLN.out; omega)).mono ?_
                rintro e v11 ⟨rfl, hb⟩
                clear s0 s1 s2 x0 x1 x2 x3
                have HBx := Lib.hid (HB.out.trans (hb.mono HB.out.size))
                have HE0x := Lib.hid (HE0.out.trans (hb.mono HE0.out.size))
                have HSBx := Lib.hid (HSB.out.next hb)
                have HXx := Lib.hid (HX.out.next hb)
                have HCUx := Lib.hid (HCU.out.next hb)
                have HINx := Lib.hid (HIN.out.next hb)
                have HOFx := Lib.hid (HOF.out.below hb)
                clear HB HE0 HSB HX HCU HIN HOF
                have HB := HBx
                have HE0 := HE0x
                have HSB := HSBx
                have HX := HXx
                have HCU := HCUx
                have HIN := HINx
                have HOF := HOFx
                clear HBx HE0x HSBx HXx HCUx HINx HOFx
                clear hb
                obtain ⟨s0, s1, s2⟩ := HSB.out
                obtain ⟨x0, x1, x2, x3⟩ := HX.out
                have HCN : Hid (CuG v11 a4 (mergeG cs [x]) n4 c4 (i + 1)) := by
                  obtain ⟨a4', n4', c4', e4, hn4, hc4, hr4⟩ := HOF.out.form
                  simp only [Value.slice.injEq] at e4
                  obtain ⟨rfl, rfl, rfl⟩ := e4
                  exact ⟨hr4, hn4, hc4, by have := HML.out; have := HCU.out.bnd; omega⟩
                go_wp2_with fail
                go_roundg (25 - (i + 1))
                case measure => omega
                case rel => exact ⟨i + 1, a4, mergeG cs [x], n4, c4, rfl, by go_num, by omega, by omega, HCN.out, HE0.out⟩
        · have hiz : decide ((i : Int) < 25) = false := decide_eq_false (by omega)
          have hiy : ¬ (i : Int) < 25 := by omega
          have CGR := Lib.hid (fun W (hr : RowG W ca cs) => refRegs_any ca cs cn cc W hr HCU.out.len (by have := HLN.out; have := HCU.out.len; omega))
          have CCP := Lib.hid (fun W (hr : RowG W ca cs) => copyRegs_any ca cs cn cc W hr HCU.out.len (by have := HLN.out; have := HCU.out.len; omega))
          have HM := Lib.hid (show (cs.length + qs.length + 2) * 32 ≤ 140737488355328 by have := HLN.out; have := HSQ.out; omega)
          have HM1 := Lib.hid (show (cs.length + qs.length) * 32 ≤ 140737488355328 by have := HLN.out; have := HSQ.out; omega)
          have HKE : Hid (∀ W, Below wr.heap.size wr W → W.cell? ⟨g, 0, none⟩ = some (.slice ra rn rc) ∧ W.cell? ⟨g, 1, none⟩ = some (.slice qa qn qc) ∧ W.cell? ⟨g, 2, none⟩ = some (.slice la ln lc)) := fun W hb => ⟨(HSB.out.next hb).c0, (HSB.out.next hb).c1, (HSB.out.next hb).c2⟩
          have HKW : Hid (∀ W, Below wr.heap.size wr W → Below w.heap.size w W) := fun W hb => HB.out.trans (hb.mono HB.out.size)
          clear s0 s1 s2
          cases hrb : regsB cs
          · have HRB := Lib.hid hrb
            rw [hrb] at CGR
            have HNO : Hid ((regsB cs && regsB qs) = false) := by show _ = _; rw [hrb]; rfl
            clear hrb
            obtain ⟨s0, s1, s2⟩ := HSB.out
            have hS0 := HKE.out _ (Below.refl wr.heap.size wr).drew
            go_wp2_with fail
            go_region_held3 (fun W => W.cell? ⟨g, 0, none⟩ = some (.slice ra rn rc) ∧ W.cell? ⟨g, 1, none⟩ = some (.slice qa qn qc) ∧ W.cell? ⟨g, 2, none⟩ = some (.slice la ln lc)) (with_reducible assumption) (first
              | (go_at_call_of 9 (Value.slice ca cn cc)
                 (with_reducible refine (CCP.out _ (HCU.out.row.next (Below.refl wr.heap.size wr).drew)).mono ?_)
                 rintro e w2 ⟨v2, rfl, ho1, hb1⟩
                 have HE1 : Hid (Below wr.heap.size wr w2) := (Below.refl wr.heap.size wr).drew.trans hb1
                 have HO1 := Lib.hid ho1
                 have hS1 := HKE.out w2 HE1.out
                 clear ho1 hb1)
              | (go_at_call_of 9 (Value.slice qa qn qc)
                 (with_reducible refine (CQ.out _ (HKW.out _ HE1.out)).mono ?_)
                 rintro e w3 ⟨v3, rfl, ho2, hb2⟩
                 have HE2 : Hid (Below wr.heap.size wr w3) := HE1.out.trans (hb2.mono HE1.out.size)
                 have HO1b := Lib.hid (HO1.out.below hb2)
                 obtain ⟨a2, n2, c2, rfl, hn1, hc1, hr1⟩ := HO1b.out.form
                 obtain ⟨a3, n3, c3, rfl, hn2, hc2, hr2⟩ := ho2.form
                 have HRW := Lib.hid hr1
                 have HQW := Lib.hid hr2
                 have HRN := Lib.hid hn1
                 have HQN := Lib.hid hn2
                 have HRC := Lib.hid hc1
                 have HQC := Lib.hid hc2
                 have hS2 := HKE.out w3 HE2.out
                 clear ho2 hb2 hr1 hr2 hn1 hn2 hc1 hc2)
              | (go_at_call 20
                 (refine (merge_no _ cs _ _ _ qs _ _ _ (HT.out _ (HKW.out _ HE2.out)) HRW.out HQW.out HRN.out HQN.out HM1.out HNO.out).mono ?_)
                 rintro e w4 ⟨rfl, hb3⟩
                 have HE3 : Hid (Below wr.heap.size wr w4) := HE2.out.trans (hb3.mono HE2.out.size)
                 have hS3 := HKE.out w4 HE3.out
                 clear hb3))
            have HB3 := Lib.hid (HKW.out _ HE3.out)
            have HS3 := Lib.hid (HSB.out.next HE3.out)
            have HC3 := Lib.hid (HCU.out.next HE3.out)
            clear HB HSB HCU s0 s1 s2
            have HB := HB3
            have HSB := HS3
            have HCU := HC3
            clear HB3 HS3 HC3
            obtain ⟨s0, s1, s2⟩ := HSB.out
            clear hS0 hS1 hS2 hS3
            go_wp2_with fail
            refine (CGR.out _ HCU.out.row).mono ?_
            rintro e v1 ⟨rfl, hb⟩
            clear s0 s1 s2
            have HBx := Lib.hid (HB.out.trans (hb.mono HB.out.size))
            have HSBx := Lib.hid (HSB.out.next hb)
            have HCUx := Lib.hid (HCU.out.next hb)
            clear HB HSB HCU
            have HB := HBx
            have HSB := HSBx
            have HCU := HCUx
            clear HBx HSBx HCUx
            clear hb
            obtain ⟨s0, s1, s2⟩ := HSB.out
            go_wp2_with fail
            refine (num15_any 1 _).mono ?_
            rintro e wn ⟨rfl, rfl⟩
            go_wp2_with fail
            refine (CW.out _ HB.out).mono ?_
            rintro e wz ⟨rfl, hb⟩
            have HBz := Lib.hid (HB.out.trans (hb.mono HB.out.size))
            clear hb
            go_wp2
            go_ret
            exact ⟨rfl, HBz.out⟩
          · cases hqb : regsB qs
            · have HRB := Lib.hid hrb
              have HQB := Lib.hid hqb
              rw [hrb] at CGR
              rw [hqb] at CG2
              have HNO : Hid ((regsB cs && regsB qs) = false) := by show _ = _; rw [hrb, hqb]; rfl
              clear hrb hqb
              obtain ⟨s0, s1, s2⟩ := HSB.out
              have hS0 := HKE.out _ (Below.refl wr.heap.size wr).drew
              go_wp2_with fail
              go_region_held3 (fun W => W.cell? ⟨g, 0, none⟩ = some (.slice ra rn rc) ∧ W.cell? ⟨g, 1, none⟩ = some (.slice qa qn qc) ∧ W.cell? ⟨g, 2, none⟩ = some (.slice la ln lc)) (with_reducible assumption) (first
                | (go_at_call_of 9 (Value.slice ca cn cc)
                   (with_reducible refine (CCP.out _ (HCU.out.row.next (Below.refl wr.heap.size wr).drew)).mono ?_)
                   rintro e w2 ⟨v2, rfl, ho1, hb1⟩
                   have HE1 : Hid (Below wr.heap.size wr w2) := (Below.refl wr.heap.size wr).drew.trans hb1
                   have HO1 := Lib.hid ho1
                   have hS1 := HKE.out w2 HE1.out
                   clear ho1 hb1)
                | (go_at_call_of 9 (Value.slice qa qn qc)
                   (with_reducible refine (CQ.out _ (HKW.out _ HE1.out)).mono ?_)
                   rintro e w3 ⟨v3, rfl, ho2, hb2⟩
                   have HE2 : Hid (Below wr.heap.size wr w3) := HE1.out.trans (hb2.mono HE1.out.size)
                   have HO1b := Lib.hid (HO1.out.below hb2)
                   obtain ⟨a2, n2, c2, rfl, hn1, hc1, hr1⟩ := HO1b.out.form
                   obtain ⟨a3, n3, c3, rfl, hn2, hc2, hr2⟩ := ho2.form
                   have HRW := Lib.hid hr1
                   have HQW := Lib.hid hr2
                   have HRN := Lib.hid hn1
                   have HQN := Lib.hid hn2
                   have HRC := Lib.hid hc1
                   have HQC := Lib.hid hc2
                   have hS2 := HKE.out w3 HE2.out
                   clear ho2 hb2 hr1 hr2 hn1 hn2 hc1 hc2)
                | (go_at_call 20
                   (refine (merge_no _ cs _ _ _ qs _ _ _ (HT.out _ (HKW.out _ HE2.out)) HRW.out HQW.out HRN.out HQN.out HM1.out HNO.out).mono ?_)
                   rintro e w4 ⟨rfl, hb3⟩
                   have HE3 : Hid (Below wr.heap.size wr w4) := HE2.out.trans (hb3.mono HE2.out.size)
                   have hS3 := HKE.out w4 HE3.out
                   clear hb3))
              have HB3 := Lib.hid (HKW.out _ HE3.out)
              have HS3 := Lib.hid (HSB.out.next HE3.out)
              have HC3 := Lib.hid (HCU.out.next HE3.out)
              clear HB HSB HCU s0 s1 s2
              have HB := HB3
              have HSB := HS3
              have HCU := HC3
              clear HB3 HS3 HC3
              obtain ⟨s0, s1, s2⟩ := HSB.out
              clear hS0 hS1 hS2 hS3
              go_wp2_with fail
              refine (CGR.out _ HCU.out.row).mono ?_
              rintro e v1 ⟨rfl, hb⟩
              clear s0 s1 s2
              have HBx := Lib.hid (HB.out.trans (hb.mono HB.out.size))
              have HSBx := Lib.hid (HSB.out.next hb)
              have HCUx := Lib.hid (HCU.out.next hb)
              clear HB HSB HCU
              have HB := HBx
              have HSB := HSBx
              have HCU := HCUx
              clear HBx HSBx HCUx
              clear hb
              obtain ⟨s0, s1, s2⟩ := HSB.out
              go_wp2_with fail
              refine (CG2.out _ HB.out).mono ?_
              rintro e v2 ⟨rfl, hb⟩
              clear s0 s1 s2
              have HBx := Lib.hid (HB.out.trans (hb.mono HB.out.size))
              have HSBx := Lib.hid (HSB.out.next hb)
              have HCUx := Lib.hid (HCU.out.next hb)
              clear HB HSB HCU
              have HB := HBx
              have HSB := HSBx
              have HCU := HCUx
              clear HBx HSBx HCUx
              clear hb
              obtain ⟨s0, s1, s2⟩ := HSB.out
              go_wp2_with fail
              refine (num15_any 1 _).mono ?_
              rintro e wn ⟨rfl, rfl⟩
              go_wp2_with fail
              refine (CW.out _ HB.out).mono ?_
              rintro e wz ⟨rfl, hb⟩
              have HBz := Lib.hid (HB.out.trans (hb.mono HB.out.size))
              clear hb
              go_wp2
              go_ret
              exact ⟨rfl, HBz.out⟩
            · have HRB := Lib.hid hrb
              have HQB := Lib.hid hqb
              rw [hrb] at CGR
              rw [hqb] at CG2
              clear hrb hqb
              obtain ⟨s0, s1, s2⟩ := HSB.out
              have hS0 := HKE.out _ (Below.refl wr.heap.size wr).drew
              go_wp2_with fail
              go_region_held3 (fun W => W.cell? ⟨g, 0, none⟩ = some (.slice ra rn rc) ∧ W.cell? ⟨g, 1, none⟩ = some (.slice qa qn qc) ∧ W.cell? ⟨g, 2, none⟩ = some (.slice la ln lc)) (with_reducible assumption) (first
                | (go_at_call_of 9 (Value.slice ca cn cc)
                   (with_reducible refine (CCP.out _ (HCU.out.row.next (Below.refl wr.heap.size wr).drew)).mono ?_)
                   rintro e w2 ⟨v2, rfl, ho1, hb1⟩
                   have HE1 : Hid (Below wr.heap.size wr w2) := (Below.refl wr.heap.size wr).drew.trans hb1
                   have HO1 := Lib.hid ho1
                   have hS1 := HKE.out w2 HE1.out
                   clear ho1 hb1)
                | (go_at_call_of 9 (Value.slice qa qn qc)
                   (with_reducible refine (CQ.out _ (HKW.out _ HE1.out)).mono ?_)
                   rintro e w3 ⟨v3, rfl, ho2, hb2⟩
                   have HE2 : Hid (Below wr.heap.size wr w3) := HE1.out.trans (hb2.mono HE1.out.size)
                   have HO1b := Lib.hid (HO1.out.below hb2)
                   obtain ⟨a2, n2, c2, rfl, hn1, hc1, hr1⟩ := HO1b.out.form
                   obtain ⟨a3, n3, c3, rfl, hn2, hc2, hr2⟩ := ho2.form
                   have HRW := Lib.hid hr1
                   have HQW := Lib.hid hr2
                   have HRN := Lib.hid hn1
                   have HQN := Lib.hid hn2
                   have HRC := Lib.hid hc1
                   have HQC := Lib.hid hc2
                   have hS2 := HKE.out w3 HE2.out
                   clear ho2 hb2 hr1 hr2 hn1 hn2 hc1 hc2)
                | (go_at_call 20
                   (refine (merge_yes _ cs _ _ _ qs _ _ _ (HT.out _ (HKW.out _ HE2.out)) HRW.out HQW.out HRN.out HQN.out HRC.out HQC.out HM1.out HRB.out HQB.out).mono ?_)
                   rintro e w4 ⟨v4, rfl, ho3, hb3⟩
                   have HE3 : Hid (Below wr.heap.size wr w4) := HE2.out.trans (hb3.mono HE2.out.size)
                   have HO3 := Lib.hid ho3
                   have hS3 := HKE.out w4 HE3.out
                   clear ho3 hb3))
              have HB3 := Lib.hid (HKW.out _ HE3.out)
              have HS3 := Lib.hid (HSB.out.next HE3.out)
              have HC3 := Lib.hid (HCU.out.next HE3.out)
              clear HB HSB HCU s0 s1 s2
              have HB := HB3
              have HSB := HS3
              have HCU := HC3
              clear HB3 HS3 HC3
              obtain ⟨s0, s1, s2⟩ := HSB.out
              clear hS0 hS1 hS2 hS3
              go_wp2_with fail
              refine (CGR.out _ HCU.out.row).mono ?_
              rintro e v1 ⟨rfl, hb⟩
              clear s0 s1 s2
              have HBx := Lib.hid (HB.out.trans (hb.mono HB.out.size))
              have HSBx := Lib.hid (HSB.out.next hb)
              have HCUx := Lib.hid (HCU.out.next hb)
              have HO3x := Lib.hid (HO3.out.below hb)
              clear HB HSB HCU HO3
              have HB := HBx
              have HSB := HSBx
              have HCU := HCUx
              have HO3 := HO3x
              clear HBx HSBx HCUx HO3x
              clear hb
              obtain ⟨s0, s1, s2⟩ := HSB.out
              go_wp2_with fail
              refine (CG2.out _ HB.out).mono ?_
              rintro e v2 ⟨rfl, hb⟩
              clear s0 s1 s2
              have HBx := Lib.hid (HB.out.trans (hb.mono HB.out.size))
              have HSBx := Lib.hid (HSB.out.next hb)
              have HCUx := Lib.hid (HCU.out.next hb)
              have HO3x := Lib.hid (HO3.out.below hb)
              clear HB HSB HCU HO3
              have HB := HBx
              have HSB := HSBx
              have HCU := HCUx
              have HO3 := HO3x
              clear HBx HSBx HCUx HO3x
              clear hb
              obtain ⟨s0, s1, s2⟩ := HSB.out
              go_wp2_with fail
              refine (num15_any 0 _).mono ?_
              rintro e wn ⟨rfl, rfl⟩
              go_wp2_with fail
              refine (refMerge_any ca cs cn cc qa qs qn qc _ HCU.out.row (HR.out.qr.below HB.out (Nat.le_refl _)) HCU.out.len HR.out.ql HM.out).mono ?_
              rintro e v3 ⟨vf, rfl, hof, hb⟩
              clear s0 s1 s2
              have HBx := Lib.hid (HB.out.trans (hb.mono HB.out.size))
              have HSBx := Lib.hid (HSB.out.next hb)
              have HCUx := Lib.hid (HCU.out.next hb)
              have HO3x := Lib.hid (HO3.out.below hb)
              clear HB HSB HCU HO3
              have HB := HBx
              have HSB := HSBx
              have HCU := HCUx
              have HO3 := HO3x
              clear HBx HSBx HCUx HO3x
              have HOF := Lib.hid (show OwnG _ _ vf (mergeG cs qs) by rw [← foldG_merge HRB.out HQB.out]; exact hof)
              clear hb hof
              obtain ⟨s0, s1, s2⟩ := HSB.out
              obtain ⟨a5, n5, c5, rfl, hn3, hc3, hr3⟩ := HO3.out.form
              obtain ⟨a6, n6, c6, rfl, hn4, hc4, hr4⟩ := HOF.out.form
              have CE := Lib.hid (eqRegs_yes a5 a6 (mergeG cs qs) n5 n6 c5 c6 _ hr3 hr4 hn3 hn4 (Nat.le_trans (mergeG_len cs qs) (by have := HLN.out; have := HSQ.out; omega)))
              clear hn3 hc3 hr3 hn4 hc4 hr4
              go_wp2_with fail
              refine (CE.out).mono ?_
              rintro e v4 ⟨rfl, hb⟩
              clear s0 s1 s2
              have HBx := Lib.hid (HB.out.trans (hb.mono HB.out.size))
              have HSBx := Lib.hid (HSB.out.next hb)
              have HCUx := Lib.hid (HCU.out.next hb)
              clear HB HSB HCU
              have HB := HBx
              have HSB := HSBx
              have HCU := HCUx
              clear HBx HSBx HCUx
              clear hb
              obtain ⟨s0, s1, s2⟩ := HSB.out
              go_wp2_with fail
              refine (CW.out _ HB.out).mono ?_
              rintro e wz ⟨rfl, hb⟩
              have HBz := Lib.hid (HB.out.trans (hb.mono HB.out.size))
              clear hb
              go_wp2
              go_ret
              exact ⟨rfl, HBz.out⟩
      · have hinz : decide ((i : Int) < (ln : Int)) = false := decide_eq_false (by omega)
        have hiny : ¬ (i : Int) < (ln : Int) := by omega
        have CGR := Lib.hid (fun W (hr : RowG W ca cs) => refRegs_any ca cs cn cc W hr HCU.out.len (by have := HLN.out; have := HCU.out.len; omega))
        have CCP := Lib.hid (fun W (hr : RowG W ca cs) => copyRegs_any ca cs cn cc W hr HCU.out.len (by have := HLN.out; have := HCU.out.len; omega))
        have HM := Lib.hid (show (cs.length + qs.length + 2) * 32 ≤ 140737488355328 by have := HLN.out; have := HSQ.out; omega)
        have HM1 := Lib.hid (show (cs.length + qs.length) * 32 ≤ 140737488355328 by have := HLN.out; have := HSQ.out; omega)
        have HKE : Hid (∀ W, Below wr.heap.size wr W → W.cell? ⟨g, 0, none⟩ = some (.slice ra rn rc) ∧ W.cell? ⟨g, 1, none⟩ = some (.slice qa qn qc) ∧ W.cell? ⟨g, 2, none⟩ = some (.slice la ln lc)) := fun W hb => ⟨(HSB.out.next hb).c0, (HSB.out.next hb).c1, (HSB.out.next hb).c2⟩
        have HKW : Hid (∀ W, Below wr.heap.size wr W → Below w.heap.size w W) := fun W hb => HB.out.trans (hb.mono HB.out.size)
        clear s0 s1 s2
        cases hrb : regsB cs
        · have HRB := Lib.hid hrb
          rw [hrb] at CGR
          have HNO : Hid ((regsB cs && regsB qs) = false) := by show _ = _; rw [hrb]; rfl
          clear hrb
          obtain ⟨s0, s1, s2⟩ := HSB.out
          have hS0 := HKE.out _ (Below.refl wr.heap.size wr).drew
          go_wp2_with fail
          go_region_held3 (fun W => W.cell? ⟨g, 0, none⟩ = some (.slice ra rn rc) ∧ W.cell? ⟨g, 1, none⟩ = some (.slice qa qn qc) ∧ W.cell? ⟨g, 2, none⟩ = some (.slice la ln lc)) (with_reducible assumption) (first
            | (go_at_call_of 9 (Value.slice ca cn cc)
               (with_reducible refine (CCP.out _ (HCU.out.row.next (Below.refl wr.heap.size wr).drew)).mono ?_)
               rintro e w2 ⟨v2, rfl, ho1, hb1⟩
               have HE1 : Hid (Below wr.heap.size wr w2) := (Below.refl wr.heap.size wr).drew.trans hb1
               have HO1 := Lib.hid ho1
               have hS1 := HKE.out w2 HE1.out
               clear ho1 hb1)
            | (go_at_call_of 9 (Value.slice qa qn qc)
               (with_reducible refine (CQ.out _ (HKW.out _ HE1.out)).mono ?_)
               rintro e w3 ⟨v3, rfl, ho2, hb2⟩
               have HE2 : Hid (Below wr.heap.size wr w3) := HE1.out.trans (hb2.mono HE1.out.size)
               have HO1b := Lib.hid (HO1.out.below hb2)
               obtain ⟨a2, n2, c2, rfl, hn1, hc1, hr1⟩ := HO1b.out.form
               obtain ⟨a3, n3, c3, rfl, hn2, hc2, hr2⟩ := ho2.form
               have HRW := Lib.hid hr1
               have HQW := Lib.hid hr2
               have HRN := Lib.hid hn1
               have HQN := Lib.hid hn2
               have HRC := Lib.hid hc1
               have HQC := Lib.hid hc2
               have hS2 := HKE.out w3 HE2.out
               clear ho2 hb2 hr1 hr2 hn1 hn2 hc1 hc2)
            | (go_at_call 20
               (refine (merge_no _ cs _ _ _ qs _ _ _ (HT.out _ (HKW.out _ HE2.out)) HRW.out HQW.out HRN.out HQN.out HM1.out HNO.out).mono ?_)
               rintro e w4 ⟨rfl, hb3⟩
               have HE3 : Hid (Below wr.heap.size wr w4) := HE2.out.trans (hb3.mono HE2.out.size)
               have hS3 := HKE.out w4 HE3.out
               clear hb3))
          have HB3 := Lib.hid (HKW.out _ HE3.out)
          have HS3 := Lib.hid (HSB.out.next HE3.out)
          have HC3 := Lib.hid (HCU.out.next HE3.out)
          clear HB HSB HCU s0 s1 s2
          have HB := HB3
          have HSB := HS3
          have HCU := HC3
          clear HB3 HS3 HC3
          obtain ⟨s0, s1, s2⟩ := HSB.out
          clear hS0 hS1 hS2 hS3
          go_wp2_with fail
          refine (CGR.out _ HCU.out.row).mono ?_
          rintro e v1 ⟨rfl, hb⟩
          clear s0 s1 s2
          have HBx := Lib.hid (HB.out.trans (hb.mono HB.out.size))
          have HSBx := Lib.hid (HSB.out.next hb)
          have HCUx := Lib.hid (HCU.out.next hb)
          clear HB HSB HCU
          have HB := HBx
          have HSB := HSBx
          have HCU := HCUx
          clear HBx HSBx HCUx
          clear hb
          obtain ⟨s0, s1, s2⟩ := HSB.out
          go_wp2_with fail
          refine (num15_any 1 _).mono ?_
          rintro e wn ⟨rfl, rfl⟩
          go_wp2_with fail
          refine (CW.out _ HB.out).mono ?_
          rintro e wz ⟨rfl, hb⟩
          have HBz := Lib.hid (HB.out.trans (hb.mono HB.out.size))
          clear hb
          go_wp2
          go_ret
          exact ⟨rfl, HBz.out⟩
        · cases hqb : regsB qs
          · have HRB := Lib.hid hrb
            have HQB := Lib.hid hqb
            rw [hrb] at CGR
            rw [hqb] at CG2
            have HNO : Hid ((regsB cs && regsB qs) = false) := by show _ = _; rw [hrb, hqb]; rfl
            clear hrb hqb
            obtain ⟨s0, s1, s2⟩ := HSB.out
            have hS0 := HKE.out _ (Below.refl wr.heap.size wr).drew
            go_wp2_with fail
            go_region_held3 (fun W => W.cell? ⟨g, 0, none⟩ = some (.slice ra rn rc) ∧ W.cell? ⟨g, 1, none⟩ = some (.slice qa qn qc) ∧ W.cell? ⟨g, 2, none⟩ = some (.slice la ln lc)) (with_reducible assumption) (first
              | (go_at_call_of 9 (Value.slice ca cn cc)
                 (with_reducible refine (CCP.out _ (HCU.out.row.next (Below.refl wr.heap.size wr).drew)).mono ?_)
                 rintro e w2 ⟨v2, rfl, ho1, hb1⟩
                 have HE1 : Hid (Below wr.heap.size wr w2) := (Below.refl wr.heap.size wr).drew.trans hb1
                 have HO1 := Lib.hid ho1
                 have hS1 := HKE.out w2 HE1.out
                 clear ho1 hb1)
              | (go_at_call_of 9 (Value.slice qa qn qc)
                 (with_reducible refine (CQ.out _ (HKW.out _ HE1.out)).mono ?_)
                 rintro e w3 ⟨v3, rfl, ho2, hb2⟩
                 have HE2 : Hid (Below wr.heap.size wr w3) := HE1.out.trans (hb2.mono HE1.out.size)
                 have HO1b := Lib.hid (HO1.out.below hb2)
                 obtain ⟨a2, n2, c2, rfl, hn1, hc1, hr1⟩ := HO1b.out.form
                 obtain ⟨a3, n3, c3, rfl, hn2, hc2, hr2⟩ := ho2.form
                 have HRW := Lib.hid hr1
                 have HQW := Lib.hid hr2
                 have HRN := Lib.hid hn1
                 have HQN := Lib.hid hn2
                 have HRC := Lib.hid hc1
                 have HQC := Lib.hid hc2
                 have hS2 := HKE.out w3 HE2.out
                 clear ho2 hb2 hr1 hr2 hn1 hn2 hc1 hc2)
              | (go_at_call 20
                 (refine (merge_no _ cs _ _ _ qs _ _ _ (HT.out _ (HKW.out _ HE2.out)) HRW.out HQW.out HRN.out HQN.out HM1.out HNO.out).mono ?_)
                 rintro e w4 ⟨rfl, hb3⟩
                 have HE3 : Hid (Below wr.heap.size wr w4) := HE2.out.trans (hb3.mono HE2.out.size)
                 have hS3 := HKE.out w4 HE3.out
                 clear hb3))
            have HB3 := Lib.hid (HKW.out _ HE3.out)
            have HS3 := Lib.hid (HSB.out.next HE3.out)
            have HC3 := Lib.hid (HCU.out.next HE3.out)
            clear HB HSB HCU s0 s1 s2
            have HB := HB3
            have HSB := HS3
            have HCU := HC3
            clear HB3 HS3 HC3
            obtain ⟨s0, s1, s2⟩ := HSB.out
            clear hS0 hS1 hS2 hS3
            go_wp2_with fail
            refine (CGR.out _ HCU.out.row).mono ?_
            rintro e v1 ⟨rfl, hb⟩
            clear s0 s1 s2
            have HBx := Lib.hid (HB.out.trans (hb.mono HB.out.size))
            have HSBx := Lib.hid (HSB.out.next hb)
            have HCUx := Lib.hid (HCU.out.next hb)
            clear HB HSB HCU
            have HB := HBx
            have HSB := HSBx
            have HCU := HCUx
            clear HBx HSBx HCUx
            clear hb
            obtain ⟨s0, s1, s2⟩ := HSB.out
            go_wp2_with fail
            refine (CG2.out _ HB.out).mono ?_
            rintro e v2 ⟨rfl, hb⟩
            clear s0 s1 s2
            have HBx := Lib.hid (HB.out.trans (hb.mono HB.out.size))
            have HSBx := Lib.hid (HSB.out.next hb)
            have HCUx := Lib.hid (HCU.out.next hb)
            clear HB HSB HCU
            have HB := HBx
            have HSB := HSBx
            have HCU := HCUx
            clear HBx HSBx HCUx
            clear hb
            obtain ⟨s0, s1, s2⟩ := HSB.out
            go_wp2_with fail
            refine (num15_any 1 _).mono ?_
            rintro e wn ⟨rfl, rfl⟩
            go_wp2_with fail
            refine (CW.out _ HB.out).mono ?_
            rintro e wz ⟨rfl, hb⟩
            have HBz := Lib.hid (HB.out.trans (hb.mono HB.out.size))
            clear hb
            go_wp2
            go_ret
            exact ⟨rfl, HBz.out⟩
          · have HRB := Lib.hid hrb
            have HQB := Lib.hid hqb
            rw [hrb] at CGR
            rw [hqb] at CG2
            clear hrb hqb
            obtain ⟨s0, s1, s2⟩ := HSB.out
            have hS0 := HKE.out _ (Below.refl wr.heap.size wr).drew
            go_wp2_with fail
            go_region_held3 (fun W => W.cell? ⟨g, 0, none⟩ = some (.slice ra rn rc) ∧ W.cell? ⟨g, 1, none⟩ = some (.slice qa qn qc) ∧ W.cell? ⟨g, 2, none⟩ = some (.slice la ln lc)) (with_reducible assumption) (first
              | (go_at_call_of 9 (Value.slice ca cn cc)
                 (with_reducible refine (CCP.out _ (HCU.out.row.next (Below.refl wr.heap.size wr).drew)).mono ?_)
                 rintro e w2 ⟨v2, rfl, ho1, hb1⟩
                 have HE1 : Hid (Below wr.heap.size wr w2) := (Below.refl wr.heap.size wr).drew.trans hb1
                 have HO1 := Lib.hid ho1
                 have hS1 := HKE.out w2 HE1.out
                 clear ho1 hb1)
              | (go_at_call_of 9 (Value.slice qa qn qc)
                 (with_reducible refine (CQ.out _ (HKW.out _ HE1.out)).mono ?_)
                 rintro e w3 ⟨v3, rfl, ho2, hb2⟩
                 have HE2 : Hid (Below wr.heap.size wr w3) := HE1.out.trans (hb2.mono HE1.out.size)
                 have HO1b := Lib.hid (HO1.out.below hb2)
                 obtain ⟨a2, n2, c2, rfl, hn1, hc1, hr1⟩ := HO1b.out.form
                 obtain ⟨a3, n3, c3, rfl, hn2, hc2, hr2⟩ := ho2.form
                 have HRW := Lib.hid hr1
                 have HQW := Lib.hid hr2
                 have HRN := Lib.hid hn1
                 have HQN := Lib.hid hn2
                 have HRC := Lib.hid hc1
                 have HQC := Lib.hid hc2
                 have hS2 := HKE.out w3 HE2.out
                 clear ho2 hb2 hr1 hr2 hn1 hn2 hc1 hc2)
              | (go_at_call 20
                 (refine (merge_yes _ cs _ _ _ qs _ _ _ (HT.out _ (HKW.out _ HE2.out)) HRW.out HQW.out HRN.out HQN.out HRC.out HQC.out HM1.out HRB.out HQB.out).mono ?_)
                 rintro e w4 ⟨v4, rfl, ho3, hb3⟩
                 have HE3 : Hid (Below wr.heap.size wr w4) := HE2.out.trans (hb3.mono HE2.out.size)
                 have HO3 := Lib.hid ho3
                 have hS3 := HKE.out w4 HE3.out
                 clear ho3 hb3))
            have HB3 := Lib.hid (HKW.out _ HE3.out)
            have HS3 := Lib.hid (HSB.out.next HE3.out)
            have HC3 := Lib.hid (HCU.out.next HE3.out)
            clear HB HSB HCU s0 s1 s2
            have HB := HB3
            have HSB := HS3
            have HCU := HC3
            clear HB3 HS3 HC3
            obtain ⟨s0, s1, s2⟩ := HSB.out
            clear hS0 hS1 hS2 hS3
            go_wp2_with fail
            refine (CGR.out _ HCU.out.row).mono ?_
            rintro e v1 ⟨rfl, hb⟩
            clear s0 s1 s2
            have HBx := Lib.hid (HB.out.trans (hb.mono HB.out.size))
            have HSBx := Lib.hid (HSB.out.next hb)
            have HCUx := Lib.hid (HCU.out.next hb)
            have HO3x := Lib.hid (HO3.out.below hb)
            clear HB HSB HCU HO3
            have HB := HBx
            have HSB := HSBx
            have HCU := HCUx
            have HO3 := HO3x
            clear HBx HSBx HCUx HO3x
            clear hb
            obtain ⟨s0, s1, s2⟩ := HSB.out
            go_wp2_with fail
            refine (CG2.out _ HB.out).mono ?_
            rintro e v2 ⟨rfl, hb⟩
            clear s0 s1 s2
            have HBx := Lib.hid (HB.out.trans (hb.mono HB.out.size))
            have HSBx := Lib.hid (HSB.out.next hb)
            have HCUx := Lib.hid (HCU.out.next hb)
            have HO3x := Lib.hid (HO3.out.below hb)
            clear HB HSB HCU HO3
            have HB := HBx
            have HSB := HSBx
            have HCU := HCUx
            have HO3 := HO3x
            clear HBx HSBx HCUx HO3x
            clear hb
            obtain ⟨s0, s1, s2⟩ := HSB.out
            go_wp2_with fail
            refine (num15_any 0 _).mono ?_
            rintro e wn ⟨rfl, rfl⟩
            go_wp2_with fail
            refine (refMerge_any ca cs cn cc qa qs qn qc _ HCU.out.row (HR.out.qr.below HB.out (Nat.le_refl _)) HCU.out.len HR.out.ql HM.out).mono ?_
            rintro e v3 ⟨vf, rfl, hof, hb⟩
            clear s0 s1 s2
            have HBx := Lib.hid (HB.out.trans (hb.mono HB.out.size))
            have HSBx := Lib.hid (HSB.out.next hb)
            have HCUx := Lib.hid (HCU.out.next hb)
            have HO3x := Lib.hid (HO3.out.below hb)
            clear HB HSB HCU HO3
            have HB := HBx
            have HSB := HSBx
            have HCU := HCUx
            have HO3 := HO3x
            clear HBx HSBx HCUx HO3x
            have HOF := Lib.hid (show OwnG _ _ vf (mergeG cs qs) by rw [← foldG_merge HRB.out HQB.out]; exact hof)
            clear hb hof
            obtain ⟨s0, s1, s2⟩ := HSB.out
            obtain ⟨a5, n5, c5, rfl, hn3, hc3, hr3⟩ := HO3.out.form
            obtain ⟨a6, n6, c6, rfl, hn4, hc4, hr4⟩ := HOF.out.form
            have CE := Lib.hid (eqRegs_yes a5 a6 (mergeG cs qs) n5 n6 c5 c6 _ hr3 hr4 hn3 hn4 (Nat.le_trans (mergeG_len cs qs) (by have := HLN.out; have := HSQ.out; omega)))
            clear hn3 hc3 hr3 hn4 hc4 hr4
            go_wp2_with fail
            refine (CE.out).mono ?_
            rintro e v4 ⟨rfl, hb⟩
            clear s0 s1 s2
            have HBx := Lib.hid (HB.out.trans (hb.mono HB.out.size))
            have HSBx := Lib.hid (HSB.out.next hb)
            have HCUx := Lib.hid (HCU.out.next hb)
            clear HB HSB HCU
            have HB := HBx
            have HSB := HSBx
            have HCU := HCUx
            clear HBx HSBx HCUx
            clear hb
            obtain ⟨s0, s1, s2⟩ := HSB.out
            go_wp2_with fail
            refine (CW.out _ HB.out).mono ?_
            rintro e wz ⟨rfl, hb⟩
            have HBz := Lib.hid (HB.out.trans (hb.mono HB.out.size))
            clear hb
            go_wp2
            go_ret
            exact ⟨rfl, HBz.out⟩
end Go.Proofs.YtjpjjckokonkpaaDoor
