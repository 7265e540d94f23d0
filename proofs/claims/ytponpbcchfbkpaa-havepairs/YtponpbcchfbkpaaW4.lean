/- The walk of HavePairs. -/
import Derived.Test.YtponpbcchfbkpaaH10
import Derived.Deep.RegionWith
namespace Go.Proofs.Ytponpbcchfbkpaa
open Go.RowKit Go.Lib
set_option linter.unusedVariables false

/-- what is read of an ask, and the copies of its two rows, all of them below B -/
structure QS (w W : World) (gp : Nat) (al : Option Addr) (nl cl : Nat) (ls : List Int) (am : Option Addr) (nm cm : Nat) (ms : List Int) (ax : Option Addr) (nx cx : Nat) (xs : List Int) (a5 a6 : Option Addr) (B : Nat) : Prop where
  ps : PS w W gp al nl cl ls am nm cm ms ax nx cx xs
  r5 : RowK .i64 W a5 ls
  r6 : RowK .i64 W a6 ms
  hw : w.heap.size ≤ B
  hB : B ≤ W.heap.size
  lp : gp < B
  ll : RowLt B al ls
  lm : RowLt B am ms
  lx : RowLt B ax xs
  l5 : RowLt B a5 ls
  l6 : RowLt B a6 ms
section
variable {w W W' : World} {gp : Nat} {al : Option Addr} {nl cl : Nat} {ls : List Int} {am : Option Addr} {nm cm : Nat} {ms : List Int} {ax : Option Addr} {nx cx : Nat} {xs : List Int} {a5 a6 : Option Addr} {B : Nat}
theorem QS.new (h : PS w W gp al nl cl ls am nm cm ms ax nx cx xs) (h5 : RowK .i64 W a5 ls) (h6 : RowK .i64 W a6 ms) : QS w W gp al nl cl ls am nm cm ms ax nx cx xs a5 a6 W.heap.size :=
  ⟨h, h5, h6, h.bel.size, Nat.le_refl _, h.ask.lt, h.rows.rl.rowLt, h.rows.rm.rowLt, h.rows.rx.rowLt, h5.rowLt, h6.rowLt⟩
theorem QS.low (h : QS w W gp al nl cl ls am nm cm ms ax nx cx xs a5 a6 B) (hb : Below B W W') (hs : W.heap.size ≤ W'.heap.size) : QS w W' gp al nl cl ls am nm cm ms ax nx cx xs a5 a6 B :=
  ⟨⟨h.ps.ask.below hb h.lp, ⟨h.ps.rows.rl.below' h.ll hb, h.ps.rows.rm.below' h.lm hb, h.ps.rows.rx.below' h.lx hb⟩, h.ps.bel.trans (hb.mono h.hw)⟩, h.r5.below' h.l5 hb, h.r6.below' h.l6 hb, h.hw, Nat.le_trans h.hB hs, h.lp, h.ll, h.lm, h.lx, h.l5, h.l6⟩
theorem QS.below (h : QS w W gp al nl cl ls am nm cm ms ax nx cx xs a5 a6 B) (hb : Below W.heap.size W W') : QS w W' gp al nl cl ls am nm cm ms ax nx cx xs a5 a6 B := h.low (hb.mono h.hB) hb.size
theorem QS.drewN (h : QS w W gp al nl cl ls am nm cm ms ax nx cx xs a5 a6 B) (k : Nat) : QS w (W.drewN k) gp al nl cl ls am nm cm ms ax nx cx xs a5 a6 B := ⟨h.ps.drewN k, h.r5.drewN k, h.r6.drewN k, h.hw, h.hB, h.lp, h.ll, h.lm, h.lx, h.l5, h.l6⟩
theorem QS.over {row : Option Nat} (h : QS w W gp al nl cl ls am nm cm ms ax nx cx xs a5 a6 B) (hg : W.grownBy W' row) (hr : ∀ g, row = some g → B ≤ g) : QS w W' gp al nl cl ls am nm cm ms ax nx cx xs a5 a6 B := h.low ((Below.refl B W).grown hg h.hB hr) hg.size
end

theorem own_row {kd : IntKind} {e : TypeId} {w : World} {base : Nat} {a : Option Addr} {n c : Nat} {zs : List Int} (h : OwnK kd e w base (.slice a n c) zs) : RowK kd w a zs := by
  obtain ⟨a', c', e', hr, _, _⟩ := h.form
  simp only [Value.slice.injEq] at e'
  rw [e'.1]
  exact hr

set_option maxHeartbeats 12000000 in
set_option maxRecDepth 100000 in
theorem havePairs_walk (a : Option Addr) (n cap : Nat) (w : World) (h : AsksIs w a n) :
    Calls Try.prog 3 #[.slice a n cap] w (BoolPost w true) := by
  have mixed : Try.prog.follows .mixedOrders = true := by kernel_rfl
  have HA := Lib.hid h
  clear h
  go_enter Try.func3, Try.ntmps3
  go_wp2
  go_loopg [3] 15 (fun g1 v wr => ∃ i : Nat, v = .int .i64 i ∧ i ≤ 15 ∧ 15 - i ≤ g1 ∧ Hid (Below w.heap.size w wr))
  case atStart => exact ⟨0, rfl, by omega, by omega, Below.refl _ _⟩
  case round =>
    obtain ⟨i, rfl, hi15, hg1, HB⟩ := hrel
    by_cases hin : i < n
    · have hinz : decide ((i : Int) < (n : Int)) = true := decide_eq_true (by omega)
      have hiny : (i : Int) < (n : Int) := by omega
      by_cases hi : i < 15
      · have hiz : decide ((i : Int) < 15) = true := decide_eq_true (by omega)
        have hiy : (i : Int) < 15 := by omega
        obtain ⟨b, off, al, ls, cl, am, ms, cm, ax, xs, cx, rfl, hask, hrows, hsize⟩ := HA.out i hin
        have hask2 := hask.below HB.out hask.lt
        have HR0 := Lib.hid (hrows.below HB.out)
        obtain ⟨nl, hnl⟩ : ∃ k, k = ls.length := ⟨_, rfl⟩
        obtain ⟨nm, hnm⟩ : ∃ k, k = ms.length := ⟨_, rfl⟩
        obtain ⟨nx, hnx⟩ : ∃ k, k = xs.length := ⟨_, rfl⟩
        rw [← hnl, ← hnm, ← hnx] at hask2
        obtain ⟨q0, q1, q2⟩ := hask2
        have HV := Lib.hid (heavy_any al am ax nl cl nm cm nx cx (wr.alloc (.cells #[.slice al nl cl, .slice am nm cm, .slice ax nx cx] 26)) (by have := hsize.ll; omega) (by have := hsize.ml; omega))
        have HSZ := Lib.hid hsize
        have HNL := Lib.hid hnl
        have HNM := Lib.hid hnm
        have HNX := Lib.hid hnx
        clear hask hrows hsize hnl hnm hnx
        have HNUM := Lib.hid (fun W => num_any 0 W)
        cases hhv : heavy7 nl nm nx
        · rw [hhv] at HV
          have hlm : nl + nm ≤ 2000 := by simp [heavy7] at hhv; omega
          have hnx3 : nx ≤ 3000 := by simp [heavy7] at hhv; omega
          clear hhv
          go_wp2_with fail
          refine (HV.out).mono ?_
          rintro e w1 ⟨rfl, hb⟩
          have HP : Hid (PS w w1 wr.heap.size al nl cl ls am nm cm ms ax nx cx xs) := PS.new HB.out HR0.out hb
          clear hb HV HR0 HB q0 q1 q2
          generalize wr.heap.size = gp at *
          obtain ⟨p0, p1, p2⟩ := HP.out.ask
          have HNUM1 := Lib.hid (fun W => num_any 1 W)
          have q0 : w1.drew.cell? ⟨gp, 0, none⟩ = some (.slice al nl cl) := HP.out.ask.c0
          have q1 : w1.drew.cell? ⟨gp, 1, none⟩ = some (.slice am nm cm) := HP.out.ask.c1
          go_upto_region 7 with fail
          go_region_held3 (fun w' => w'.cell? ⟨gp, 0, none⟩ = some (.slice al nl cl) ∧ w'.cell? ⟨gp, 1, none⟩ = some (.slice am nm cm)) (first | exact ⟨by assumption, by assumption⟩) (first
            | (go_at_call_of 8 (Value.slice al nl cl)
               refine (copyI_any al ls nl cl _ (by exact HP.out.rows.rl) HNL.out (by have := HNL.out; omega)).mono ?_
               rintro e wa ⟨va, rfl, hoa, hba⟩
               obtain ⟨a5, c5, rfl, hr5, hc5⟩ := hoa.at (n := nl) HNL.out.symm
               have HR5 := Lib.hid hr5
               have HPa := Lib.hid (PS.below (W := w1.drew) HP.out.drew hba)
               have r0 : wa.cell? ⟨gp, 0, none⟩ = some (.slice al nl cl) := HPa.out.ask.c0
               have r1 : wa.cell? ⟨gp, 1, none⟩ = some (.slice am nm cm) := HPa.out.ask.c1
               clear hoa hba hr5)
            | (go_at_call_of 8 (Value.slice am nm cm)
               refine (copyI_any am ms nm cm _ (by exact HPa.out.rows.rm) HNM.out (by have := HNM.out; omega)).mono ?_
               rintro e w2 ⟨vb, rfl, hob, hbb⟩
               obtain ⟨a6, c6, rfl, hr6, hc6⟩ := hob.at (n := nm) HNM.out.symm
               have HQ := Lib.hid (QS.new (HPa.out.below hbb) (HR5.out.below hbb (Nat.le_refl _)) hr6)
               have s0 : w2.cell? ⟨gp, 0, none⟩ = some (.slice al nl cl) := HQ.out.ps.ask.c0
               have s1 : w2.cell? ⟨gp, 1, none⟩ = some (.slice am nm cm) := HQ.out.ps.ask.c1
               clear hob hbb hr6))
          clear q0 q1 r0 r1 s0 s1 p0 p1 p2 HP HPa HR5
          obtain ⟨B, hBB⟩ : ∃ B, B = w2.heap.size := ⟨_, rfl⟩
          rw [← hBB] at HQ
          clear hBB
          obtain ⟨p0, p1, p2⟩ := HQ.out.ps.ask
          have HLL : Hid (ls.length ≤ 140737488355328) := by have := HNL.out; show _ ≤ _; omega
          have HML : Hid (ms.length ≤ 140737488355328) := by have := HNM.out; show _ ≤ _; omega
          cases hp : pairB ls ms
          · have HPF := Lib.hid hp
            clear hp
            have C := Lib.hid (covers_no a5 a6 ls ms nl c5 nm c6 w2 HQ.out.r5 HQ.out.r6 HNL.out HNM.out HLL.out HML.out HPF.out)
            go_wp2_with fail
            refine (C.out).mono ?_
            rintro e w' ⟨rfl, rfl⟩
            clear C
            have C := Lib.hid (join_no a5 a6 ls ms nl c5 nm c6 w2 HQ.out.r5 HQ.out.r6 HNL.out HNM.out HLL.out HML.out HPF.out)
            go_wp2_with fail
            refine (C.out).mono ?_
            rintro e w' ⟨rfl, rfl⟩
            clear C
            have C := Lib.hid (lacks_no a5 a6 ls ms nl c5 nm c6 w2 HQ.out.r5 HQ.out.r6 HNL.out HNM.out HLL.out HML.out HPF.out)
            go_wp2_with fail
            refine (C.out).mono ?_
            rintro e w' ⟨rfl, rfl⟩
            clear C
            cases hv : vecB ls
            · have HVF := Lib.hid hv
              clear hv
              have C := Lib.hid (count_no a5 ls nl c5 w2 HQ.out.r5 HNL.out HLL.out HVF.out)
              go_wp2_with fail
              refine (C.out).mono ?_
              rintro e w' ⟨rfl, rfl⟩
              clear C
              have C := Lib.hid (refVector_is al ls nl cl w2 HQ.out.ps.rows.rl HNL.out HLL.out HVF.out)
              go_wp2_with fail
              refine (C.out).mono ?_
              rintro e w' ⟨rfl, rfl⟩
              clear C
              go_wp2_with fail
              go_loop [16, 17] (fun v k => k = .int .i64 0 ∧ v = .int .i64 0) (fun _ k => 0)
              case atStart => exact ⟨rfl, rfl⟩
              case round =>
                obtain ⟨rfl, rfl⟩ := hrel
                by_cases hlt : 0 < nl
                · have hltz : (0 : Int) < (nl : Int) := by omega
                  have hltd : decide ((0 : Int) < (nl : Int)) = true := decide_eq_true hltz
                  have C := Lib.hid (check_no a5 ls nl c5 w2 HQ.out.r5 HNL.out HLL.out HVF.out)
                  go_wp2_with fail
                  refine (C.out).mono ?_
                  rintro e w' ⟨rfl, rfl⟩
                  clear C
                  go_wp2_with fail
                  refine (HNUM1.out _).mono ?_
                  rintro e w' ⟨rfl, rfl⟩
                  go_wp2_with fail
                  refine (HNUM1.out _).mono ?_
                  rintro e w' ⟨rfl, rfl⟩
                  go_wp2_with fail
                  refine (HNUM1.out _).mono ?_
                  rintro e w' ⟨rfl, rfl⟩
                  have C := Lib.hid (refPair_any al am ls ms nl cl nm cm w2 HQ.out.ps.rows.rl HQ.out.ps.rows.rm HNL.out HNM.out HLL.out HML.out)
                  rw [HPF.out] at C
                  go_wp2_with fail
                  refine (C.out).mono ?_
                  rintro e w' ⟨rfl, rfl⟩
                  clear C
                  go_wp2_with fail
                  refine (HNUM1.out _).mono ?_
                  rintro e w' ⟨rfl, rfl⟩
                  go_wp2_with fail
                  refine (HNUM1.out _).mono ?_
                  rintro e w' ⟨rfl, rfl⟩
                  go_wp2_with fail
                  refine (HNUM1.out _).mono ?_
                  rintro e w' ⟨rfl, rfl⟩
                  go_wp2_with fail
                  go_roundg (15 - (i + 1))
                  case measure => omega
                  case rel => exact ⟨i + 1, by go_num, by omega, by omega, HQ.out.ps.bel⟩
                · have hltz : ¬ (0 : Int) < (nl : Int) := by omega
                  have hltd : decide ((0 : Int) < (nl : Int)) = false := decide_eq_false hltz
                  have C := Lib.hid (check_no a5 ls nl c5 w2 HQ.out.r5 HNL.out HLL.out HVF.out)
                  go_wp2_with fail
                  refine (C.out).mono ?_
                  rintro e w' ⟨rfl, rfl⟩
                  clear C
                  go_wp2_with fail
                  refine (HNUM1.out _).mono ?_
                  rintro e w' ⟨rfl, rfl⟩
                  go_wp2_with fail
                  refine (HNUM1.out _).mono ?_
                  rintro e w' ⟨rfl, rfl⟩
                  go_wp2_with fail
                  refine (HNUM1.out _).mono ?_
                  rintro e w' ⟨rfl, rfl⟩
                  have C := Lib.hid (refPair_any al am ls ms nl cl nm cm w2 HQ.out.ps.rows.rl HQ.out.ps.rows.rm HNL.out HNM.out HLL.out HML.out)
                  rw [HPF.out] at C
                  go_wp2_with fail
                  refine (C.out).mono ?_
                  rintro e w' ⟨rfl, rfl⟩
                  clear C
                  go_wp2_with fail
                  refine (HNUM1.out _).mono ?_
                  rintro e w' ⟨rfl, rfl⟩
                  go_wp2_with fail
                  refine (HNUM1.out _).mono ?_
                  rintro e w' ⟨rfl, rfl⟩
                  go_wp2_with fail
                  refine (HNUM1.out _).mono ?_
                  rintro e w' ⟨rfl, rfl⟩
                  go_wp2_with fail
                  go_roundg (15 - (i + 1))
                  case measure => omega
                  case rel => exact ⟨i + 1, by go_num, by omega, by omega, HQ.out.ps.bel⟩
            · have HVT := Lib.hid hv
              clear hv
              obtain ⟨s1, hs1⟩ : ∃ s, s = ls.sum := ⟨_, rfl⟩
              have C := Lib.hid (count_yes a5 ls nl c5 w2 HQ.out.r5 HNL.out (by have := HNL.out; omega) HVT.out)
              rw [← hs1] at C
              have HS1 := Lib.hid hs1
              clear hs1
              go_wp2_with fail
              refine (C.out).mono ?_
              rintro e w' ⟨rfl, rfl⟩
              clear C
              have C := Lib.hid (refVector_is al ls nl cl w2 HQ.out.ps.rows.rl HNL.out HLL.out HVT.out)
              go_wp2_with fail
              refine (C.out).mono ?_
              rintro e w' ⟨rfl, rfl⟩
              clear C
              go_wp2_with fail
              go_loop [16, 17] (fun v k => ∃ j : Nat, j ≤ nl ∧ k = .int .i64 j ∧ v = .int .i64 (ls.take j).sum) (fun _ k => nl - (intOf k).toNat)
              case atStart => exact ⟨0, Nat.zero_le _, rfl, rfl⟩
              case round =>
                obtain ⟨j, hj, rfl, rfl⟩ := hrel
                obtain ⟨ht0, ht1⟩ := sum_take_bd HVT.out j
                by_cases hlt : j < nl
                · have hltz : (j : Int) < (nl : Int) := by omega
                  have hltd : decide ((j : Int) < (nl : Int)) = true := decide_eq_true hltz
                  have hjl : j < ls.length := by have := HNL.out; omega
                  obtain ⟨bl, ol, rfl, d1⟩ := HQ.out.ps.rows.rl j hjl
                  have HT := Lib.hid (sum_take ls j hjl)
                  obtain ⟨hz0, hz1⟩ := vecB_at HVT.out hjl
                  clear hjl
                  generalize ls.getD j 0 = z at *
                  generalize (ls.take j).sum = sj at *
                  go_wp2
                  go_round
                  case rel => exact ⟨j + 1, by omega, by go_num, by rw [HT.out]⟩
                  case measure => simp [intOf]; omega
                · have hltz : ¬ (j : Int) < (nl : Int) := by omega
                  have hltd : decide ((j : Int) < (nl : Int)) = false := decide_eq_false hltz
                  have HZ : Hid ((ls.take j).sum = s1) := by
                    show _ = s1
                    rw [List.take_of_length_le (by have := HNL.out; omega), HS1.out]
                  generalize (ls.take j).sum = sj at *
                  have hsj := HZ.out
                  subst hsj
                  clear HZ
                  have hne : (sj != sj) = false := by simp
                  have C := Lib.hid (check_yes a5 ls nl c5 w2 HQ.out.r5 HNL.out HLL.out HVT.out)
                  go_wp2_with fail
                  refine (C.out).mono ?_
                  rintro e w' ⟨rfl, rfl⟩
                  clear C
                  go_wp2_with fail
                  refine (HNUM.out _).mono ?_
                  rintro e w' ⟨rfl, rfl⟩
                  go_wp2_with fail
                  refine (HNUM.out _).mono ?_
                  rintro e w' ⟨rfl, rfl⟩
                  have C := Lib.hid (refPair_any al am ls ms nl cl nm cm w2 HQ.out.ps.rows.rl HQ.out.ps.rows.rm HNL.out HNM.out HLL.out HML.out)
                  rw [HPF.out] at C
                  go_wp2_with fail
                  refine (C.out).mono ?_
                  rintro e w' ⟨rfl, rfl⟩
                  clear C
                  go_wp2_with fail
                  refine (HNUM1.out _).mono ?_
                  rintro e w' ⟨rfl, rfl⟩
                  go_wp2_with fail
                  refine (HNUM1.out _).mono ?_
                  rintro e w' ⟨rfl, rfl⟩
                  go_wp2_with fail
                  refine (HNUM1.out _).mono ?_
                  rintro e w' ⟨rfl, rfl⟩
                  go_wp2_with fail
                  go_roundg (15 - (i + 1))
                  case measure => omega
                  case rel => exact ⟨i + 1, by go_num, by omega, by omega, HQ.out.ps.bel⟩
          · have HPB := Lib.hid hp
            obtain ⟨hpl, hp1, hp16⟩ := pairB_len hp
            have hnmn : nm = nl := by have := HNL.out; have := HNM.out; omega
            subst hnmn
            have hn16 : nm ≤ 16 := by have := HNM.out; omega
            have hn1 : 1 ≤ nm := by have := HNM.out; omega
            have HPL := Lib.hid hpl
            have HVT := Lib.hid ((pairB_iff ls ms).1 hp).1
            clear hp hpl hp1 hp16
            obtain ⟨cb, hcb⟩ : ∃ b, b = coversB ls ms := ⟨_, rfl⟩
            have C := Lib.hid (covers_yes a5 a6 ls ms nm c5 nm c6 w2 HQ.out.r5 HQ.out.r6 HNL.out HNM.out HPB.out)
            rw [← hcb] at C
            have HCB := Lib.hid hcb
            clear hcb
            go_wp2_with fail
            refine (C.out).mono ?_
            rintro e w3 ⟨rfl, hb⟩
            clear C
            clear p0 p1 p2
            replace HQ : Hid (QS w w3 gp al nm cl ls am nm cm ms ax nx cx xs a5 a6 B) := HQ.out.below hb
            clear hb
            obtain ⟨p0, p1, p2⟩ := HQ.out.ps.ask
            have C := Lib.hid (join_yes a5 a6 ls ms nm c5 nm c6 w3 HQ.out.r5 HQ.out.r6 HNL.out HNM.out HPB.out)
            go_wp2_with fail
            refine (C.out).mono ?_
            rintro e w4 ⟨v, rfl, ho, hb⟩
            obtain ⟨a9, c9, rfl, _, _⟩ := ho.at (n := nm) (by rw [joinL_len HPL.out]; exact HNL.out.symm)
            have HO9 := Lib.hid ho
            clear C ho
            have HB9 : Hid (B ≤ w3.heap.size) := HQ.out.hB
            clear p0 p1 p2
            replace HQ : Hid (QS w w4 gp al nm cl ls am nm cm ms ax nx cx xs a5 a6 B) := HQ.out.below hb
            clear hb
            obtain ⟨p0, p1, p2⟩ := HQ.out.ps.ask
            have C := Lib.hid (lacks_yes a5 a6 ls ms nm c5 nm c6 w4 HQ.out.r5 HQ.out.r6 HNL.out HNM.out HPB.out)
            go_wp2_with fail
            refine (C.out).mono ?_
            rintro e w5 ⟨v, rfl, ho, hb⟩
            obtain ⟨a11, c11, rfl, _, _⟩ := ho.at (n := nm) (by rw [lackL_len HPL.out]; exact HNL.out.symm)
            have HO11 := Lib.hid ho
            clear C ho
            have HB11 : Hid (B ≤ w4.heap.size) := HQ.out.hB
            have HAP : Hid ((Value.slice a11 nm c11).ownBlock = none ∨ (Value.slice a11 nm c11).ownBlock ≠ (Value.slice a9 nm c9).ownBlock) := by
              show _ ∨ _
              cases hob : (Value.slice a11 nm c11).ownBlock with
              | none => exact Or.inl rfl
              | some g11 =>
                right
                intro he
                have h1 := (HO11.out.lt hob).1
                have h2 := (HO9.out.lt he.symm).2
                omega
            clear p0 p1 p2
            replace HQ : Hid (QS w w5 gp al nm cl ls am nm cm ms ax nx cx xs a5 a6 B) := HQ.out.below hb
            replace HO9 : Hid (OwnK .i64 3 w5 w3.heap.size (.slice a9 nm c9) (joinL ls ms)) := HO9.out.below hb
            clear hb
            obtain ⟨p0, p1, p2⟩ := HQ.out.ps.ask
            obtain ⟨B3, hB3⟩ : ∃ k, k = w3.heap.size := ⟨_, rfl⟩
            obtain ⟨B4, hB4⟩ : ∃ k, k = w4.heap.size := ⟨_, rfl⟩
            have HB3s : Hid (B3 ≤ w5.heap.size) := by
              show _ ≤ _
              rw [hB3]
              rcases HO9.out.2 with ⟨h, h0⟩ | ⟨g, cap, cs, h, hg, hh, _⟩
              · rw [joinL_len HPL.out] at h0; have := HNL.out; omega
              · have := (Array.getElem?_eq_some_iff.1 hh).1
                omega
            have HB4s : Hid (B4 ≤ w5.heap.size) := by
              show _ ≤ _
              rw [hB4]
              rcases HO11.out.2 with ⟨h, h0⟩ | ⟨g, cap, cs, h, hg, hh, _⟩
              · rw [lackL_len HPL.out] at h0; have := HNL.out; omega
              · have := (Array.getElem?_eq_some_iff.1 hh).1
                omega
            rw [← hB3] at HO9 HB9
            rw [← hB4] at HO11 HB11
            clear hB3 hB4
            have hb3s := HB3s.out
            have hb4s := HB4s.out
            clear HB3s HB4s
            obtain ⟨s1, hs1⟩ : ∃ s, s = ls.sum := ⟨_, rfl⟩
            have C := Lib.hid (count_yes a5 ls nm c5 w5 HQ.out.r5 HNL.out (by have := HNL.out; omega) HVT.out)
            rw [← hs1] at C
            have HS1 := Lib.hid hs1
            clear hs1
            go_wp2_with fail
            refine (C.out).mono ?_
            rintro e w' ⟨rfl, rfl⟩
            clear C
            have C := Lib.hid (refVector_is al ls nm cl w5 HQ.out.ps.rows.rl HNL.out HLL.out HVT.out)
            go_wp2_with fail
            refine (C.out).mono ?_
            rintro e w' ⟨rfl, rfl⟩
            clear C
            go_wp2_with fail
            go_loop [16, 17] (fun v k => ∃ j : Nat, j ≤ nm ∧ k = .int .i64 j ∧ v = .int .i64 (ls.take j).sum) (fun _ k => nm - (intOf k).toNat)
            case atStart => exact ⟨0, Nat.zero_le _, rfl, rfl⟩
            case round =>
              obtain ⟨j, hj, rfl, rfl⟩ := hrel
              obtain ⟨ht0, ht1⟩ := sum_take_bd HVT.out j
              by_cases hlt : j < nm
              · have hltz : (j : Int) < (nm : Int) := by omega
                have hltd : decide ((j : Int) < (nm : Int)) = true := decide_eq_true hltz
                have hjl : j < ls.length := by have := HNL.out; omega
                obtain ⟨bl, ol, rfl, d1⟩ := HQ.out.ps.rows.rl j hjl
                have HT := Lib.hid (sum_take ls j hjl)
                obtain ⟨hz0, hz1⟩ := vecB_at HVT.out hjl
                clear hjl
                generalize ls.getD j 0 = z at *
                generalize (ls.take j).sum = sj at *
                go_wp2
                go_round
                case rel => exact ⟨j + 1, by omega, by go_num, by rw [HT.out]⟩
                case measure => simp [intOf]; omega
              · have hltz : ¬ (j : Int) < (nm : Int) := by omega
                have hltd : decide ((j : Int) < (nm : Int)) = false := decide_eq_false hltz
                have HZ : Hid ((ls.take j).sum = s1) := by
                  show _ = s1
                  rw [List.take_of_length_le (by have := HNL.out; omega), HS1.out]
                generalize (ls.take j).sum = sj at *
                have hsj := HZ.out
                subst hsj
                clear HZ
                have hne : (sj != sj) = false := by simp
                have C := Lib.hid (check_yes a5 ls nm c5 w5 HQ.out.r5 HNL.out HLL.out HVT.out)
                go_wp2_with fail
                refine (C.out).mono ?_
                rintro e w' ⟨rfl, rfl⟩
                clear C
                go_wp2_with fail
                refine (HNUM.out _).mono ?_
                rintro e w' ⟨rfl, rfl⟩
                go_wp2_with fail
                refine (HNUM.out _).mono ?_
                rintro e w' ⟨rfl, rfl⟩
                have C := Lib.hid (refPair_any al am ls ms nm cl nm cm w5 HQ.out.ps.rows.rl HQ.out.ps.rows.rm HNL.out HNM.out HLL.out HML.out)
                rw [HPB.out] at C
                go_wp2_with fail
                refine (C.out).mono ?_
                rintro e w' ⟨rfl, rfl⟩
                clear C
                go_wp2_with fail
                refine (HNUM.out _).mono ?_
                rintro e w' ⟨rfl, rfl⟩
                go_wp2_with fail
                refine (HNUM.out _).mono ?_
                rintro e w' ⟨rfl, rfl⟩
                go_wp2_with fail
                refine (HNUM.out _).mono ?_
                rintro e w' ⟨rfl, rfl⟩
                have C := Lib.hid (refCovers_any al am ls ms nm cl nm cm w5 HQ.out.ps.rows.rl HQ.out.ps.rows.rm HNL.out HNM.out HPB.out)
                rw [← HCB.out] at C
                go_wp2_with fail
                refine (C.out).mono ?_
                rintro e w6 ⟨rfl, m6, rfl⟩
                clear C p0 p1 p2
                replace HQ := Lib.hid (HQ.out.drewN m6)
                replace HO9 := Lib.hid (HO9.out.drewN m6)
                replace HO11 := Lib.hid (HO11.out.drewN m6)
                have hb3t : B3 ≤ (w5.drewN m6).heap.size := hb3s
                have hb4t : B4 ≤ (w5.drewN m6).heap.size := hb4s
                clear hb3s hb4s HCB
                generalize w5.drewN m6 = w6 at *
                obtain ⟨p0, p1, p2⟩ := HQ.out.ps.ask
                have hcbb : (cb != cb) = false := by simp
                go_wp2_with fail
                go_loopg [18] nm (fun g2 v wr => ∃ k q : Nat, v = .int .i64 k ∧ k ≤ nm ∧ nm - k ≤ g2 ∧ Hid (wr = w6.drewN q))
                case atStart => exact ⟨0, 0, rfl, Nat.zero_le _, by omega, rfl⟩
                case round =>
                  obtain ⟨k, q, rfl, hk, hg2, HW⟩ := hrel
                  have hw := HW.out
                  subst hw
                  clear HW p0 p1 p2
                  by_cases hlt2 : k < nm
                  · have hltz2 : (k : Int) < (nm : Int) := by omega
                    have hkl : k < ls.length := by have := HNL.out; omega
                    have hkm : k < ms.length := by have := HNM.out; omega
                    obtain ⟨bl, ol, rfl, d1⟩ := HQ.out.ps.rows.rl k hkl
                    obtain ⟨bm, om, rfl, d2⟩ := HQ.out.ps.rows.rm k hkm
                    have r9 := own_row HO9.out
                    have r11 := own_row HO11.out
                    obtain ⟨b9, o9, rfl, d3⟩ := r9 k (by rw [joinL_len HPL.out]; exact hkl)
                    obtain ⟨b11, o11, rfl, d4⟩ := r11 k (by rw [lackL_len HPL.out]; exact hkl)
                    rw [joinL_at HPL.out hkl] at d3
                    rw [lackL_at HPL.out hkl] at d4
                    have p0 : (w6.drewN q).cell? ⟨gp, 0, none⟩ = some (.slice (some ⟨bl, ol, none⟩) nm cl) := HQ.out.ps.ask.c0
                    have p1 : (w6.drewN q).cell? ⟨gp, 1, none⟩ = some (.slice (some ⟨bm, om, none⟩) nm cm) := HQ.out.ps.ask.c1
                    have t1 : (w6.drewN q).cell? ⟨bl, ol + k, none⟩ = some (.int .i64 (ls.getD k 0)) := d1
                    have t2 : (w6.drewN q).cell? ⟨bm, om + k, none⟩ = some (.int .i64 (ms.getD k 0)) := d2
                    have t3 : (w6.drewN q).cell? ⟨b9, o9 + k, none⟩ = some (.int .i64 (max (ls.getD k 0) (ms.getD k 0))) := d3
                    have t4 : (w6.drewN q).cell? ⟨b11, o11 + k, none⟩ = some (.int .i64 (max 0 (ms.getD k 0 - ls.getD k 0))) := d4
                    obtain ⟨hx0, hx1⟩ := vecB_at HVT.out hkl
                    obtain ⟨hy0, hy1⟩ := vecB_at ((pairB_iff ls ms).1 HPB.out).2.1 hkm
                    have pp0 : w6.cell? ⟨gp, 0, none⟩ = some (.slice (some ⟨bl, ol, none⟩) nm cl) := HQ.out.ps.ask.c0
                    have pp1 : w6.cell? ⟨gp, 1, none⟩ = some (.slice (some ⟨bm, om, none⟩) nm cm) := HQ.out.ps.ask.c1
                    clear r9 r11 hkl hkm
                    have hm1 := fun ts t W => max_int (ls.getD k 0) (ms.getD k 0) ts t W
                    have hm2 := fun ts t W => max_int 0 (ms.getD k 0 - ls.getD k 0) ts t W
                    generalize max 0 (ms.getD k 0 - ls.getD k 0) = mz at *
                    generalize ls.getD k 0 = x at *
                    generalize ms.getD k 0 = y at *
                    generalize max x y = mx at *
                    have hu1 : (mx != mx) = false := by simp
                    have hu2 : (mz != mz) = false := by simp
                    have hwr := IntWalk.i64_in (y - x) (by omega)
                    go_wp2_with fail
                    go_quiet (fail)
                    go_wp2
                    go_roundg (nm - (k + 1))
                    case measure => omega
                    case rel => exact ⟨k + 1, q + nq, by go_num, by omega, by omega, rfl⟩
                  · have hltz2 : ¬ (k : Int) < (nm : Int) := by omega
                    replace HQ := Lib.hid (HQ.out.drewN q)
                    replace HO9 := Lib.hid (HO9.out.drewN q)
                    replace HO11 := Lib.hid (HO11.out.drewN q)
                    have hb3u : B3 ≤ (w6.drewN q).heap.size := hb3t
                    have hb4u : B4 ≤ (w6.drewN q).heap.size := hb4t
                    clear hb3t hb4t
                    generalize w6.drewN q = w7 at *
                    obtain ⟨p0, p1, p2⟩ := HQ.out.ps.ask
                    have C := Lib.hid (over_any (.slice a9 nm c9) B3 (joinL ls ms) w7 HO9.out hb3u (by rw [joinL_len HPL.out, ← HNL.out]; omega))
                    go_wp2_with fail
                    refine (C.out).mono ?_
                    rintro e w8 ⟨rfl, hg⟩
                    clear C p0 p1 p2
                    replace HO11 : Hid (OwnK .i64 3 w8 B4 (.slice a11 nm c11) (lackL ls ms)) := HO11.out.grown hg HAP.out
                    replace HQ := Lib.hid (HQ.out.over hg (fun g h => Nat.le_trans HB9.out (HO9.out.lt h).1))
                    have hb4v : B4 ≤ w8.heap.size := Nat.le_trans hb4u hg.size
                    clear hg HO9 hb3u hb4u HAP
                    obtain ⟨p0, p1, p2⟩ := HQ.out.ps.ask
                    have C := Lib.hid (over_any (.slice a11 nm c11) B4 (lackL ls ms) w8 HO11.out hb4v (by rw [lackL_len HPL.out, ← HNL.out]; omega))
                    go_wp2_with fail
                    refine (C.out).mono ?_
                    rintro e w9 ⟨rfl, hg⟩
                    clear C p0 p1 p2
                    replace HQ := Lib.hid (HQ.out.over hg (fun g h => Nat.le_trans HB11.out (HO11.out.lt h).1))
                    clear hg HO11 hb4v
                    obtain ⟨p0, p1, p2⟩ := HQ.out.ps.ask
                    have C := Lib.hid (eqI_yes a5 al ls nm nm c5 cl w9 HQ.out.r5 HQ.out.ps.rows.rl HNL.out HNL.out HLL.out)
                    go_wp2_with fail
                    refine (C.out).mono ?_
                    rintro e w10 ⟨rfl, m10, rfl⟩
                    clear C p0 p1 p2
                    replace HQ := Lib.hid (HQ.out.drewN m10)
                    generalize w9.drewN m10 = w10 at *
                    obtain ⟨p0, p1, p2⟩ := HQ.out.ps.ask
                    have C := Lib.hid (eqI_yes a6 am ms nm nm c6 cm w10 HQ.out.r6 HQ.out.ps.rows.rm HNM.out HNM.out HML.out)
                    go_wp2_with fail
                    refine (C.out).mono ?_
                    rintro e w11 ⟨rfl, m11, rfl⟩
                    clear C p0 p1 p2
                    replace HQ := Lib.hid (HQ.out.drewN m11)
                    go_wp2_with fail
                    go_roundg (15 - (i + 1))
                    case measure => omega
                    case rel => exact ⟨i + 1, by go_num, by omega, by omega, HQ.out.ps.bel⟩
        · rw [hhv] at HV
          clear hhv
          go_wp2_with fail
          refine (HV.out).mono ?_
          rintro e w1 ⟨rfl, hb⟩
          have HP : Hid (PS w w1 wr.heap.size al nl cl ls am nm cm ms ax nx cx xs) := PS.new HB.out HR0.out hb
          clear hb HV HR0 HB q0 q1 q2
          generalize wr.heap.size = gp at *
          obtain ⟨p0, p1, p2⟩ := HP.out.ask
          go_wp2
          go_ret
          exact ⟨rfl, HP.out.bel⟩
      · have hiz : decide ((i : Int) < 15) = false := decide_eq_false (by omega)
        have hiy : ¬ (i : Int) < 15 := by omega
        have HW := Lib.hid (wakes_any wr)
        go_wp2_with fail
        refine (HW.out).mono ?_
        rintro e w1 ⟨rfl, hb1⟩
        have HZ : Hid (Below w.heap.size w w1) := HB.out.trans (hb1.mono HB.out.size)
        clear hb1 HW
        go_wp2
        go_ret
        exact ⟨rfl, HZ.out⟩
    · have hinz : decide ((i : Int) < (n : Int)) = false := decide_eq_false (by omega)
      have hiny : ¬ (i : Int) < (n : Int) := by omega
      have HW := Lib.hid (wakes_any wr)
      go_wp2_with fail
      refine (HW.out).mono ?_
      rintro e w1 ⟨rfl, hb1⟩
      have HZ : Hid (Below w.heap.size w w1) := HB.out.trans (hb1.mono HB.out.size)
      clear hb1 HW
      go_wp2
      go_ret
      exact ⟨rfl, HZ.out⟩
end Go.Proofs.Ytponpbcchfbkpaa
