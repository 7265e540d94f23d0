/- ShareSplits, walked. -/
import Derived.Test.YtekiknngiefkbaaX4
import Derived.Deep.RegionHeld3
namespace Go.Proofs.Ytekiknngiefkbaa
open Go.Shelf Go.RowKit Go.Lib Go.Sort Go.Proofs

/-- one ask, as it lies in memory: a total, a row of weights -/
def AskAt (w : World) (b o : Nat) (t : Int) (ai : Option Addr) (ws : List Int) (ci : Nat) : Prop :=
  w.cell? ⟨b, o, none⟩ = some (.int .i64 t) ∧ w.cell? ⟨b, o + 1, none⟩ = some (.slice ai ws.length ci) ∧ RowIs w ai ws
/-- a list of asks that came in -/
def AsksIs (w : World) (a : Option Addr) (n : Nat) : Prop := ∀ i, i < n → ∃ b off t ai ws ci, a = some ⟨b, off, none⟩ ∧ AskAt w b (off + i * 2) t ai ws ci

theorem AskAt.below {w w' : World} {b o : Nat} {t : Int} {ai : Option Addr} {ws : List Int} {ci : Nat} (h : AskAt w b o t ai ws ci) (hb : Below w.heap.size w w') : AskAt w' b o t ai ws ci := by
  obtain ⟨h1, h2, h3⟩ := h
  have hl := World.block_lt_of_cell? _ _ h1
  exact ⟨(hb.cell (p := ⟨b, o, none⟩) hl).trans h1, (hb.cell (p := ⟨b, o + 1, none⟩) hl).trans h2, h3.below hb (Nat.le_refl _)⟩

set_option maxHeartbeats 4000000 in
set_option maxRecDepth 100000 in
theorem splits_walk (a : Option Addr) (n cap : Nat) (w : World) (h : AsksIs w a n) :
    Calls Try.prog 3 #[.slice a n cap] w fun e w' => e = .returned (.bool true) ∧ Below w.heap.size w w' := by
  have mixed : Try.prog.follows .mixedOrders = true := by kernel_rfl
  have HA := Lib.hid h
  clear h
  go_enter Try.func3, Try.ntmps3
  go_wp2
  go_loopg [3] 12 (fun g1 v wr => ∃ i : Nat, v = .int .i64 i ∧ i ≤ 12 ∧ 12 - i ≤ g1 ∧ Hid (Below w.heap.size w wr))
  case atStart => exact ⟨0, rfl, by omega, by omega, Below.refl _ _⟩
  case round =>
    obtain ⟨i, rfl, hi12, hg1, HB⟩ := hrel
    by_cases hin : i < n
    · have hinz : decide ((i : Int) < (n : Int)) = true := decide_eq_true (by omega)
      have hiny : (i : Int) < (n : Int) := by omega
      by_cases hi : i < 12
      · have hiz : decide ((i : Int) < 12) = true := decide_eq_true (by omega)
        have hiy : (i : Int) < 12 := by omega
        obtain ⟨b, off, t, ai, ws, ci, rfl, hask⟩ := HA.out i hin
        have hw := hask.below HB.out
        obtain ⟨c0, c1, hr⟩ := hw
        by_cases hbig : 2000 < ws.length
        · have hbz : (2000 : Int) < (ws.length : Int) := by omega
          go_wp2
          go_ret
          exact ⟨rfl, HB.out⟩
        · have hbz : ¬ (2000 : Int) < (ws.length : Int) := by omega
          have hbs := HB.out.size
          have HR := Lib.hid hr
          have HC := Lib.hid (copy_any ai ws ci wr hr (by omega))
          have hltb := World.block_lt_of_cell? _ _ c0
          simp only at hltb
          clear hr
          go_wp2_with fail
          refine (HC.out).mono ?_
          rintro e w1 ⟨v4, rfl, ho4, hb1⟩
          clear HC
          have d0 : w1.cell? ⟨b, off + i * 2, none⟩ = some (.int .i64 t) := (hb1.cell (p := ⟨b, off + i * 2, none⟩) hltb).trans c0
          have d1 : w1.cell? ⟨b, off + i * 2 + 1, none⟩ = some (.slice ai ws.length ci) := (hb1.cell (p := ⟨b, off + i * 2 + 1, none⟩) hltb).trans c1
          have HR1 : Hid (RowIs w1 ai ws) := HR.out.below hb1 (Nat.le_refl _)
          have hs1 := hb1.size
          have HB1 : Hid (Below w.heap.size w w1) := HB.out.trans (hb1.mono hbs)
          obtain ⟨a4, c4, rfl, hr4, _⟩ := ho4.form
          have HR4 := Lib.hid hr4
          have hltb1 : b < w1.heap.size := by omega
          clear ho4 hr4 hb1 c0 c1 HR HB
          by_cases hmay : May t ws
          · have HS := Lib.hid (split_yes a4 ws c4 t w1 HR4.out hmay)
            have HM := Lib.hid hmay
            have hmb : mayB t ws = true := (mayB_iff t ws).2 hmay
            have HMB := Lib.hid hmb
            clear hmay hmb
            go_wp2_with fail
            refine (HS.out).mono ?_
            rintro e w2 ⟨v5, ord, rfl, hord, ho5, hb2⟩
            have HO := Lib.hid hord
            have c0 : w2.cell? ⟨b, off + i * 2, none⟩ = some (.int .i64 t) := (hb2.cell (p := ⟨b, off + i * 2, none⟩) hltb1).trans d0
            have c1 : w2.cell? ⟨b, off + i * 2 + 1, none⟩ = some (.slice ai ws.length ci) := (hb2.cell (p := ⟨b, off + i * 2 + 1, none⟩) hltb1).trans d1
            have HR2 : Hid (RowIs w2 ai ws) := HR1.out.below hb2 (Nat.le_refl _)
            have hs2 := hb2.size
            have HB2 := Lib.hid hb2
            have HO5 := Lib.hid ho5
            have HR42 : Hid (RowIs w2 a4 ws) := HR4.out.below hb2 (Nat.le_refl _)
            obtain ⟨a5, c5, rfl, hr5, _⟩ := ho5.form
            have HR5 := Lib.hid hr5
            have hln : (splitL t ws ord).length ≤ 65536 := by rw [splitL_len]; omega
            clear HS hord ho5 hb2 hr5
            have HMS := Lib.hid (show ∀ m, Calls Try.prog 8 #[.int .i64 t, .slice ai ws.length ci] (w2.drewN m) fun e w' => e = .returned (.bool true) ∧ w2.drewN m = w' from fun m => by
              have := maySplit_any ai ws ci t (w2.drewN m) HR2.out (by omega)
              rw [HMB.out] at this
              exact this)
            go_wp2_with fail
            go_quiet ((go_at_call 8; exact quiet_left (HMS.out _)))
            go_wp2_with fail
            have k0 : (w2.drewN nq).cell? ⟨b, off + i * 2, none⟩ = some (.int .i64 t) := c0
            have k1 : (w2.drewN nq).cell? ⟨b, off + i * 2 + 1, none⟩ = some (.slice ai ws.length ci) := c1
            have KR2 : Hid (RowIs (w2.drewN nq) ai ws) := HR2.out
            have KR4 : Hid (RowIs (w2.drewN nq) a4 ws) := HR42.out
            have KR5 : Hid (RowIs (w2.drewN nq) a5 (splitL t ws ord)) := HR5.out
            have KO5 : Hid (OwnI (w2.drewN nq) w1.heap.size (.slice a5 (splitL t ws ord).length c5) (splitL t ws ord)) := HO5.out
            have KB : Hid (Below w1.heap.size w1 (w2.drewN nq)) := below_drewN HB2.out nq
            have hltx : b < (w2.drewN nq).heap.size := by show b < w2.heap.size; omega
            have D0 := Lib.hid d0
            have D1 := Lib.hid d1
            clear c0 c1 HR2 HR42 HR5 HO5 HB2 HMS d0 d1
            generalize w2.drewN nq = wx at *
            go_region_held3 (fun w' => w'.cell? ⟨b, off + i * 2, none⟩ = some (.int .i64 t) ∧ w'.cell? ⟨b, off + i * 2 + 1, none⟩ = some (.slice ai ws.length ci)) (go_keep)
              (first
                | (go_at_call 9; refine (num_any 0 _).mono ?_; rintro e w' ⟨rfl, rfl⟩)
                | (go_at_call 11
                   go_loud (
                     refine (refSplit_any ai ws ci t ord _ (by exact KR2.out) HM.out HO.out).mono ?_
                     rintro e w3 ⟨v7, rfl, ho7, hb3⟩
                     obtain ⟨a7, c7, rfl, hr7, _⟩ := ho7.form
                     have HR7 := Lib.hid hr7
                     have m0 : w3.cell? ⟨b, off + i * 2, none⟩ = some (.int .i64 t) := (hb3.cell (p := ⟨b, off + i * 2, none⟩) (by simpa using hltx)).trans (by simpa using k0)
                     have m1 : w3.cell? ⟨b, off + i * 2 + 1, none⟩ = some (.slice ai ws.length ci) := (hb3.cell (p := ⟨b, off + i * 2 + 1, none⟩) (by simpa using hltx)).trans (by simpa using k1)
                     have LR2 : Hid (RowIs w3 ai ws) := RowIs.below (w := wx.drew) KR2.out hb3 (Nat.le_refl _)
                     have LR4 : Hid (RowIs w3 a4 ws) := RowIs.below (w := wx.drew) KR4.out hb3 (Nat.le_refl _)
                     have LR5 : Hid (RowIs w3 a5 (splitL t ws ord)) := RowIs.below (w := wx.drew) KR5.out hb3 (Nat.le_refl _)
                     have HB3 := Lib.hid hb3
                     clear ho7 hr7 hb3))
                | (go_at_call_of 10 (Value.slice a5 (splitL t ws ord).length c5)
                   refine (eq_yes a5 a7 (splitL t ws ord) c5 c7 _ (by exact LR5.out) (by exact HR7.out) hln).mono ?_
                   rintro e w4 ⟨rfl, m4, rfl⟩)
                | (go_at_call_of 10 (Value.slice a4 ws.length c4)
                   refine (eq_yes a4 ai ws c4 ci _ (by exact LR4.out) (by exact LR2.out) (by omega)).mono ?_
                   rintro e w5 ⟨rfl, m5, rfl⟩))
            have P5 : Hid (OwnI (w3.drewN (m4 + m5)) w1.heap.size (.slice a5 (splitL t ws ord).length c5) (splitL t ws ord)) := OwnI.drewN (OwnI.below (w := wx.drew) KO5.out HB3.out) _
            have PB : Hid (Below w1.heap.size w1 (w3.drewN (m4 + m5))) := below_drewN ((KB.out.drew).trans (RowKit.Below.mono HB3.out (by have := KB.out.size; show w1.heap.size ≤ wx.heap.size; exact this))) _
            have PS : w1.heap.size ≤ (w3.drewN (m4 + m5)).heap.size := PB.out.size
            clear KO5 KB HB3 KR2 KR4 KR5 LR2 LR4 LR5 HR7 m0 m1 k0 k1 hltx
            generalize w3.drewN (m4 + m5) = wy at *
            have HNU := Lib.hid (numbers_any _ w1.heap.size (splitL t ws ord) wy P5.out PS hln)
            go_wp2_with fail
            refine (HNU.out).mono ?_
            rintro e w6 ⟨rfl, hb6⟩
            have Q6 : Hid (Below w1.heap.size w1 w6) := PB.out.trans hb6
            have q0 : w6.cell? ⟨b, off + i * 2, none⟩ = some (.int .i64 t) := (Q6.out.cell (p := ⟨b, off + i * 2, none⟩) hltb1).trans D0.out
            have q1 : w6.cell? ⟨b, off + i * 2 + 1, none⟩ = some (.slice ai ws.length ci) := (Q6.out.cell (p := ⟨b, off + i * 2 + 1, none⟩) hltb1).trans D1.out
            have HE6 := Lib.hid (eq_yes a4 ai ws c4 ci w6 (HR4.out.below Q6.out (Nat.le_refl _)) (HR1.out.below Q6.out (Nat.le_refl _)) (by omega))
            have Q7 : Hid (Below w.heap.size w w6) := HB1.out.trans (Q6.out.mono HB1.out.size)
            clear hb6 HNU PB P5
            go_wp2_with fail
            refine (HE6.out).mono ?_
            rintro e w7 ⟨rfl, m7, rfl⟩
            clear HE6
            go_wp2
            go_roundg (12 - (i + 1))
            case measure => omega
            case rel => exact ⟨i + 1, by go_num, by omega, by omega, below_drewN Q7.out _⟩
          · have HS := Lib.hid (split_no a4 ws c4 t w1 HR4.out (by omega) hmay)
            have hmb : mayB t ws = false := by rw [← Bool.not_eq_true, mayB_iff]; exact hmay
            have HMB := Lib.hid hmb
            have HN := Lib.hid (fun W => num_any 1 W)
            clear hmay hmb
            go_wp2_with fail
            refine (HS.out).mono ?_
            rintro e w' ⟨rfl, rfl⟩
            have HMS := Lib.hid (show ∀ m, Calls Try.prog 8 #[.int .i64 t, .slice ai ws.length ci] (w1.drewN m) fun e w' => e = .returned (.bool false) ∧ w1.drewN m = w' from fun m => by
              have := maySplit_any ai ws ci t (w1.drewN m) HR1.out (by omega)
              rw [HMB.out] at this
              exact this)
            go_wp2_with fail
            go_quiet ((go_at_call 8; exact quiet_left (HMS.out _)))
            go_wp2_with fail
            refine (HN.out _).mono ?_
            rintro e w' ⟨rfl, rfl⟩
            go_wp2
            go_roundg (12 - (i + 1))
            case measure => omega
            case rel => exact ⟨i + 1, by go_num, by omega, by omega, below_drewN HB1.out _⟩
      · have hiz : decide ((i : Int) < 12) = false := decide_eq_false (by omega)
        have hiy : ¬ (i : Int) < 12 := by omega
        have HW := Lib.hid (wakes_any wr)
        go_wp2_with fail
        refine (HW.out).mono ?_
        rintro e w1 ⟨rfl, hb1⟩
        have HZ : Hid (Below w.heap.size w w1) := HB.out.trans (hb1.mono HB.out.size)
        clear hb1 HW
        go_wp2
        go_ret
        exact ⟨rfl, HZ.out⟩
    · have hinz : decide ((i : Int) < (n : Int)) = false := decide_eq_false (by omega)
      have hiny : ¬ (i : Int) < (n : Int) := by omega
      have HW := Lib.hid (wakes_any wr)
      go_wp2_with fail
      refine (HW.out).mono ?_
      rintro e w1 ⟨rfl, hb1⟩
      have HZ : Hid (Below w.heap.size w w1) := HB.out.trans (hb1.mono HB.out.size)
      clear hb1 HW
      go_wp2
      go_ret
      exact ⟨rfl, HZ.out⟩
end Go.Proofs.Ytekiknngiefkbaa
