/- ShareLaws, walked. -/
import Derived.Test.YtekiknngiefkbaaX5
import Derived.Test.YtekiknngiefkbaaY1
import Derived.Deep.DeepCutAuto
import Derived.Test.YtekiknngiefkbaaY3
namespace Go.Proofs.Ytekiknngiefkbaa
open Go.Shelf Go.RowKit Go.Lib Go.Sort Go.Proofs

set_option maxHeartbeats 8000000 in
set_option maxRecDepth 100000 in
theorem laws_walk (a : Option Addr) (n cap : Nat) (w : World) (h : AsksIs w a n) :
    Calls Try.prog 4 #[.slice a n cap] w fun e w' => e = .returned (.bool true) ∧ Below w.heap.size w w' := by
  have mixed : Try.prog.follows .mixedOrders = true := by kernel_rfl
  have HA := Lib.hid h
  clear h
  go_enter Try.func4, Try.ntmps4
  go_wp2
  go_loopg [3] 12 (fun g1 v wr => ∃ i : Nat, v = .int .i64 i ∧ i ≤ 12 ∧ 12 - i ≤ g1 ∧ Hid (Below w.heap.size w wr))
  case atStart => exact ⟨0, rfl, by omega, by omega, Below.refl _ _⟩
  case round =>
    obtain ⟨i, rfl, hi12, hg1, HB⟩ := hrel
    by_cases hin : i < n
    · have hinz : decide ((i : Int) < (n : Int)) = true := decide_eq_true (by omega)
      have hiny : (i : Int) < (n : Int) := by omega
      by_cases hi : i < 12
      · have hiz : decide ((i : Int) < 12) = true := decide_eq_true (by omega)
        have hiy : (i : Int) < 12 := by omega
        obtain ⟨b, off, t, ai, ws, ci, rfl, hask⟩ := HA.out i hin
        have hw := hask.below HB.out
        obtain ⟨c0, c1, hr⟩ := hw
        by_cases hbig : 2000 < ws.length
        · have hbz : (2000 : Int) < (ws.length : Int) := by omega
          go_wp2
          go_ret
          exact ⟨rfl, HB.out⟩
        · have hbz : ¬ (2000 : Int) < (ws.length : Int) := by omega
          have hbs := HB.out.size
          have HR := Lib.hid hr
          clear hr
          go_wp2_with fail
          go_quiet (fail)
          have HR1 : Hid (RowIs (wr.drewN nq) ai ws) := HR.out
          have HB1 : Hid (Below w.heap.size w (wr.drewN nq)) := below_drewN HB.out nq
          clear HR HB c0 c1
          generalize wr.drewN nq = w1 at *
          by_cases hmay : May t ws
          · have HS := Lib.hid (split_yes ai ws ci t w1 HR1.out hmay)
            have HM := Lib.hid hmay
            have HN := Lib.hid (fun W => num_any 0 W)
            have hn0 := hmay.n0
            have hn1 := hmay.n1
            have ht0 := hmay.t0
            have ht1 := hmay.t1
            have hs0 := hmay.s0
            have hs1 := hmay.sum_le
            clear hmay
            go_wp2_with fail
            refine (HS.out).mono ?_
            rintro e w2 ⟨v5, ord, rfl, hord, ho5, hb2⟩
            have HO := Lib.hid hord
            obtain ⟨g, c5, rfl⟩ := ho5.some_ (n := ws.length) (splitL_len _ _ _) hn0
            have HO5 := Lib.hid ho5
            have HR2 : Hid (RowIs w2 ai ws) := HR1.out.below hb2 (Nat.le_refl _)
            have HB2 : Hid (Below w.heap.size w w2) := HB1.out.trans (hb2.mono HB1.out.size)
            clear HS hord ho5 hb2
            go_wp2_with fail
            refine (HN.out _).mono ?_
            rintro e w' ⟨rfl, rfl⟩
            go_wp2
            go_loopg [8, 10] ws.length (fun g1 vs vk wr => ∃ k : Nat, vk = .int .i64 k ∧ vs = .int .i64 (ws.take k).sum ∧ k ≤ ws.length ∧ ws.length - k ≤ g1 ∧ Hid (wr = w2))
            case atStart => exact ⟨0, rfl, rfl, Nat.zero_le _, by omega, rfl⟩
            case round =>
              obtain ⟨k, rfl, rfl, hk, hgk, HW⟩ := hrel
              obtain rfl : w2 = wr := HW.out.symm
              obtain ⟨b0, b1⟩ := sum_take_bd ws 1048576 HM.out.w0 k hk
              by_cases hlt : k < ws.length
              · have hltz : (k : Int) < (ws.length : Int) := by omega
                obtain ⟨bb, bo, rfl, hc⟩ := HR2.out k hlt
                obtain ⟨z0, z1⟩ := HM.out.w0 k hlt
                have HST := Lib.hid (sum_take ws k hlt)
                generalize ws.getD k 0 = z at *
                generalize (ws.take k).sum = s at *
                go_wp2
                go_roundg (ws.length - (k + 1))
                case measure => omega
                case rel => exact ⟨k + 1, by go_num, by rw [HST.out], by omega, by omega, rfl⟩
              · have hltz : ¬ (k : Int) < (ws.length : Int) := by omega
                have hks : (ws.take k).sum = ws.sum := by rw [List.take_of_length_le (by omega)]
                rw [hks]
                clear hks b0 b1
                obtain ⟨X, hX⟩ : ∃ X, X = splitL t ws ord := ⟨_, rfl⟩
                have hXl : X.length = ws.length := by rw [hX]; exact splitL_len _ _ _
                have XF : Hid (∀ k, k < ws.length → -ws.sum < X.getD k 0 * ws.sum - t * ws.getD k 0 ∧ X.getD k 0 * ws.sum - t * ws.getD k 0 < ws.sum ∧ (ws.getD k 0 = 0 → X.getD k 0 = 0) ∧ 0 ≤ X.getD k 0 ∧ X.getD k 0 ≤ t) := fun k hk => by rw [hX]; exact split_off HM.out HO.out hk
                have XC : Hid (∀ k, k < ws.length → w2.cell? ⟨g, k, none⟩ = some (.int .i64 (X.getD k 0))) := fun k hk => by rw [hX]; exact (HO5.out.cellAt (splitL_len _ _ _) k hk).1
                have XS : Hid (X.sum = t) := by rw [hX]; exact split_sum HM.out HO.out
                have XO : Hid (∀ j k, j < ws.length → k < ws.length → (ws.getD k 0 < ws.getD j 0 ∨ (ws.getD k 0 = ws.getD j 0 ∧ j < k)) → X.getD k 0 ≤ X.getD j 0) := fun j k hj hk hw => by rw [hX]; exact split_order HM.out HO.out hj hk hw
                have XK : Hid (∀ j k, j < ws.length → k < ws.length → ws.getD k 0 = ws.getD j 0 → X.getD j 0 ≤ X.getD k 0 + 1) := fun j k hj hk hw => by rw [hX]; exact split_close hj hk hw
                have HXL := Lib.hid hXl
                have XB : Hid (∀ k, k ≤ ws.length → 0 ≤ (X.take k).sum ∧ (X.take k).sum ≤ (k : Int) * 1099511627776) := fun k hk => sum_take_bd X 1099511627776 (fun i hi => by have := XF.out i (by omega); omega) k (by omega)
                clear hXl hX HO HO5 hgk
                go_wp2
                go_loopg [9, 11, 12, 13] ws.length (fun g1 vs vk _ _ wr => ∃ k nd : Nat, vk = .int .i64 k ∧ vs = .int .i64 (X.take k).sum ∧ k ≤ ws.length ∧ ws.length - k ≤ g1 ∧ Hid (wr = w2.drewN nd))
                case atStart => exact ⟨0, 0, rfl, rfl, Nat.zero_le _, by omega, rfl⟩
                case round =>
                  obtain ⟨m, nd, rfl, rfl, hm, hgm, HV⟩ := hrel
                  obtain ⟨sb0, sb1⟩ := XB.out m hm
                  have hv := HV.out
                  subst hv
                  clear HV
                  by_cases hmlt : m < ws.length
                  · have hmz : (m : Int) < (ws.length : Int) := by omega
                    obtain ⟨bb, bo, rfl, hc⟩ := HR2.out m hmlt
                    have hx := XC.out m hmlt
                    obtain ⟨z0, z1⟩ := HM.out.w0 m hmlt
                    obtain ⟨f1, f2, f3, f4, f5⟩ := XF.out m hmlt
                    obtain ⟨p1, p2, _, _, _, _, _⟩ := part_bd HM.out m hmlt
                    have HST : Hid ((X.take (m + 1)).sum = (X.take m).sum + X.getD m 0) := sum_take X m (by have := HXL.out; omega)
                    have HZ3 := Lib.hid f3
                    have xm0 : 0 ≤ X.getD m 0 * ws.sum := Int.mul_nonneg f4 (Int.le_of_lt hs0)
                    clear f3
                    obtain ⟨xm, hxm⟩ : ∃ q, q = X.getD m 0 := ⟨_, rfl⟩
                    obtain ⟨wm, hwm⟩ : ∃ q, q = ws.getD m 0 := ⟨_, rfl⟩
                    rw [← hxm] at hx f1 f2 f4 f5 HST HZ3 xm0
                    rw [← hwm] at hc z0 z1 f1 f2 p1 p2 HZ3
                    have HXM := Lib.hid hxm
                    have HWM := Lib.hid hwm
                    clear hxm hwm
                    have hA : IntKind.i64.wrap (xm * ws.sum) = xm * ws.sum := by rw [IntKind.wrap_i64]; omega
                    have hB : IntKind.i64.wrap (t * wm) = t * wm := by rw [IntKind.wrap_i64]; omega
                    have hC : IntKind.i64.wrap (xm * ws.sum - t * wm) = xm * ws.sum - t * wm := by rw [IntKind.wrap_i64]; omega
                    go_wp2_with fail
                    go_quiet (fail)
                    clear hA hB hC
                    generalize hoff : xm * ws.sum - t * wm = o at *
                    have HOFF := Lib.hid hoff
                    have t1 : decide (o ≤ -ws.sum) = false := decide_eq_false (by omega)
                    have t2 : decide (ws.sum ≤ o) = false := decide_eq_false (by omega)
                    have t1' : ¬ o ≤ -ws.sum := by omega
                    have t2' : ¬ ws.sum ≤ o := by omega
                    clear hoff
                    have hcases : ((wm == 0) = true ∧ (xm != 0) = false) ∨ (wm == 0) = false := by
                      by_cases e : wm = 0
                      · left; exact ⟨beq_iff_eq.2 e, by rw [HZ3.out e]; rfl⟩
                      · right; exact beq_eq_false_iff_ne.2 e
                    have HCS := Lib.hid hcases
                    clear hcases
                    go_upto_region 21 with (fail)
                    go_cut [114] (fun c wc => c = .bool false ∧ Hid (∃ nd2, wc = w2.drewN nd2))
                    case first =>
                      rcases HCS.out with ⟨hwb, hxb⟩ | hwb
                      · go_wp2
                        go_meet
                        case rel => exact ⟨rfl, ⟨_, rfl⟩⟩
                      · go_wp2
                        go_meet
                        case rel => exact ⟨rfl, ⟨_, rfl⟩⟩
                    obtain ⟨rfl, HWC⟩ := hcut
                    obtain ⟨nd2, rfl⟩ := HWC.out
                    clear HWC
                    go_wp2
                    go_loopg [13] m (fun g1 vj wr => ∃ j nd3 : Nat, vj = .int .i64 j ∧ j ≤ m ∧ m - j ≤ g1 ∧ Hid (wr = w2.drewN nd3))
                    case atStart => exact ⟨0, _, rfl, Nat.zero_le _, by omega, rfl⟩
                    case round =>
                      obtain ⟨j, nd3, rfl, hjm, hgj, HV⟩ := hrel
                      have hv := HV.out
                      subst hv
                      clear HV
                      by_cases hjlt : j < m
                      · have hjz : (j : Int) < (m : Int) := by omega
                        have hjn : (j : Int) < (ws.length : Int) := by omega
                        obtain ⟨b', o', e', hcj⟩ := HR2.out j (by omega)
                        simp only [Option.some.injEq, Addr.mk.injEq, and_true] at e'
                        obtain ⟨rfl, rfl⟩ := e'
                        have hxj := XC.out j (by omega)
                        obtain ⟨_, _, _, g4, g5⟩ := XF.out j (by omega)
                        have k1 := XO.out j m (by omega) hmlt
                        have k2 := XO.out m j hmlt (by omega)
                        have k3 := XK.out j m (by omega) hmlt
                        rw [← HXM.out, ← HWM.out] at k1 k2 k3
                        have hwm1 : IntKind.i64.wrap (xm + 1) = xm + 1 := by rw [IntKind.wrap_i64]; omega
                        generalize X.getD j 0 = xj at *
                        generalize ws.getD j 0 = wj at *
                        rcases Int.lt_trichotomy wj wm with c | c | c
                        · have hle : xj ≤ xm := k2 (.inl c)
                          clear k1 k2 k3
                          go_wp2_with fail
                          refine reg26_lt bb bo g ws.length ci c5 m j wm wj xm xj _ _ _ _ _ _ _ _ _ _ _ _ _ _ _ _ _ _ _ _ _ _ _ _ _ _ _ _ _ _ _ _ _ _ _ _ _ _ _ _ _ _ _ _ _ _ _ _ _ _ _ _ _ _ _ _ _ _ _ _ _ _ _ _ _ _ _ _ _ _ _ _ _ _ _ _ _ _ _ _ _ _ _ _ _ _ _ _ _ _ _ _ _ _ _ _ _ _ _ _ _ _ _ _ _ _ _ _ _ _ _ _ _ _ _ _ _ _ _ _ _ _ _ _ _ _ _ _ _ _ _ _ _ _ _ _ _ _ _ _ _ _ _ _ _ _ _ _ _ _ _ _ _ _ _ _ _ _ _ _ _ _ _ _ _ _ _ _ _ _ _ _ _ _ _ _ _ _ _ _ _ _ _ _ _ _ _ _ _ _ _ _ _ _ _ _ _ _ hmlt (by omega) (by exact hc) (by exact hcj) (by exact hx) (by exact hxj) f4 (by omega) c hle ?_
                          intro q v120 v121 v122 v123 v124 v125 v126 v127 v128 v129 v130 v131 v132 v133 v134 v135 v136 v137 v138 v139 v140 v141 v142 v143 v144 v145 v146 v147 v148 v149 v150 v151 v152 v153 v154 v155 v156 v157 v158 v159 v160 v161 v162 v163 v164 v165 v166 v167 v168 v169 v170 v171 v172 v173 v174 v175 v176 v177 v178 v179 v180 v181 v182 v183 v184 v185 v186 v187 v188 v189 v190 v191 v192 v193 v194
                          go_wp2
                          go_roundg (m - (j + 1))
                          case measure => omega
                          case rel => exact ⟨j + 1, _, by go_num, by omega, by omega, rfl⟩
                        · have hle1 : xm ≤ xj := k1 (.inr ⟨c.symm, hjlt⟩)
                          have hle2 : xj ≤ xm + 1 := k3 c.symm
                          have CC := Lib.hid c
                          clear k1 k2 k3 c
                          go_wp2_with fail
                          refine reg26_eq bb bo g ws.length ci c5 m j wm wj xm xj _ _ _ _ _ _ _ _ _ _ _ _ _ _ _ _ _ _ _ _ _ _ _ _ _ _ _ _ _ _ _ _ _ _ _ _ _ _ _ _ _ _ _ _ _ _ _ _ _ _ _ _ _ _ _ _ _ _ _ _ _ _ _ _ _ _ _ _ _ _ _ _ _ _ _ _ _ _ _ _ _ _ _ _ _ _ _ _ _ _ _ _ _ _ _ _ _ _ _ _ _ _ _ _ _ _ _ _ _ _ _ _ _ _ _ _ _ _ _ _ _ _ _ _ _ _ _ _ _ _ _ _ _ _ _ _ _ _ _ _ _ _ _ _ _ _ _ _ _ _ _ _ _ _ _ _ _ _ _ _ _ _ _ _ _ _ _ _ _ _ _ _ _ _ _ _ _ _ _ _ _ _ _ _ _ _ _ _ _ _ _ _ _ _ _ _ _ _ hmlt (by omega) (by exact hc) (by exact hcj) (by exact hx) (by exact hxj) f4 (by omega) CC.out hle1 hle2 ?_
                          intro q v120 v121 v122 v123 v124 v125 v126 v127 v128 v129 v130 v131 v132 v133 v134 v135 v136 v137 v138 v139 v140 v141 v142 v143 v144 v145 v146 v147 v148 v149 v150 v151 v152 v153 v154 v155 v156 v157 v158 v159 v160 v161 v162 v163 v164 v165 v166 v167 v168 v169 v170 v171 v172 v173 v174 v175 v176 v177 v178 v179 v180 v181 v182 v183 v184 v185 v186 v187 v188 v189 v190 v191 v192 v193 v194
                          go_wp2
                          go_roundg (m - (j + 1))
                          case measure => omega
                          case rel => exact ⟨j + 1, _, by go_num, by omega, by omega, rfl⟩
                        · have hle : xm ≤ xj := k1 (.inl c)
                          clear k1 k2 k3
                          go_wp2_with fail
                          refine reg26_gt bb bo g ws.length ci c5 m j wm wj xm xj _ _ _ _ _ _ _ _ _ _ _ _ _ _ _ _ _ _ _ _ _ _ _ _ _ _ _ _ _ _ _ _ _ _ _ _ _ _ _ _ _ _ _ _ _ _ _ _ _ _ _ _ _ _ _ _ _ _ _ _ _ _ _ _ _ _ _ _ _ _ _ _ _ _ _ _ _ _ _ _ _ _ _ _ _ _ _ _ _ _ _ _ _ _ _ _ _ _ _ _ _ _ _ _ _ _ _ _ _ _ _ _ _ _ _ _ _ _ _ _ _ _ _ _ _ _ _ _ _ _ _ _ _ _ _ _ _ _ _ _ _ _ _ _ _ _ _ _ _ _ _ _ _ _ _ _ _ _ _ _ _ _ _ _ _ _ _ _ _ _ _ _ _ _ _ _ _ _ _ _ _ _ _ _ _ _ _ _ _ _ _ _ _ _ _ _ _ _ hmlt (by omega) (by exact hc) (by exact hcj) (by exact hx) (by exact hxj) f4 (by omega) c hle ?_
                          intro q v120 v121 v122 v123 v124 v125 v126 v127 v128 v129 v130 v131 v132 v133 v134 v135 v136 v137 v138 v139 v140 v141 v142 v143 v144 v145 v146 v147 v148 v149 v150 v151 v152 v153 v154 v155 v156 v157 v158 v159 v160 v161 v162 v163 v164 v165 v166 v167 v168 v169 v170 v171 v172 v173 v174 v175 v176 v177 v178 v179 v180 v181 v182 v183 v184 v185 v186 v187 v188 v189 v190 v191 v192 v193 v194
                          go_wp2
                          go_roundg (m - (j + 1))
                          case measure => omega
                          case rel => exact ⟨j + 1, _, by go_num, by omega, by omega, rfl⟩
                      · have hjz : ¬ (j : Int) < (m : Int) := by omega
                        go_wp2
                        go_roundg (ws.length - (m + 1))
                        case measure => omega
                        case rel => exact ⟨m + 1, nd3, by go_num, by rw [HST.out], by omega, by omega, rfl⟩
                  · have hmz : ¬ (m : Int) < (ws.length : Int) := by omega
                    have hfin : (X.take m).sum = t := by rw [List.take_of_length_le (by have := HXL.out; omega)]; exact XS.out
                    rw [hfin]
                    have htt : (t != t) = false := by simp
                    clear sb0 sb1 hfin
                    go_wp2
                    go_roundg (12 - (i + 1))
                    case measure => omega
                    case rel => exact ⟨i + 1, by go_num, by omega, by omega, below_drewN HB2.out _⟩
          · have HS := Lib.hid (split_no ai ws ci t w1 HR1.out (by omega) hmay)
            have HN := Lib.hid (fun W => num_any 1 W)
            clear hmay
            go_wp2_with fail
            refine (HS.out).mono ?_
            rintro e w' ⟨rfl, rfl⟩
            go_wp2_with fail
            refine (HN.out _).mono ?_
            rintro e w' ⟨rfl, rfl⟩
            go_wp2
            go_roundg (12 - (i + 1))
            case measure => omega
            case rel => exact ⟨i + 1, by go_num, by omega, by omega, HB1⟩
      · have hiz : decide ((i : Int) < 12) = false := decide_eq_false (by omega)
        have hiy : ¬ (i : Int) < 12 := by omega
        have HW := Lib.hid (wakes_any wr)
        go_wp2_with fail
        refine (HW.out).mono ?_
        rintro e w1 ⟨rfl, hb1⟩
        have HZ : Hid (Below w.heap.size w w1) := HB.out.trans (hb1.mono HB.out.size)
        clear hb1 HW
        go_wp2
        go_ret
        exact ⟨rfl, HZ.out⟩
    · have hinz : decide ((i : Int) < (n : Int)) = false := decide_eq_false (by omega)
      have hiny : ¬ (i : Int) < (n : Int) := by omega
      have HW := Lib.hid (wakes_any wr)
      go_wp2_with fail
      refine (HW.out).mono ?_
      rintro e w1 ⟨rfl, hb1⟩
      have HZ : Hid (Below w.heap.size w w1) := HB.out.trans (hb1.mono HB.out.size)
      clear hb1 HW
      go_wp2
      go_ret
      exact ⟨rfl, HZ.out⟩
end Go.Proofs.Ytekiknngiefkbaa
