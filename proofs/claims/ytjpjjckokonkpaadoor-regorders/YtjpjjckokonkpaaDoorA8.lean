/- Registers: the page's Set and Merge; registers written over. -/
import Derived.Test.YtjpjjckokonkpaaDoorA7
namespace Go.Proofs.YtjpjjckokonkpaaDoor
open Go.RowKit Go.Lib
set_option linter.unusedVariables false

theorem drop_consG {xs : List RgD} {k : Nat} {y : RgD} (h : xs[k]? = some y) : xs.drop k = y :: xs.drop (k + 1) := by
  obtain ⟨hk, rfl⟩ := List.getElem?_eq_some_iff.1 h
  exact List.drop_eq_getElem_cons hk
def bN (b : Bool) : Nat := if b then 1 else 0
theorem bN_le (b : Bool) : bN b ≤ 1 := by cases b <;> simp [bN]
theorem room1 {X zs : List RgD} {n k B : Nat} (h1 : (X.length + 2) * 32 ≤ B) (h2 : zs.length ≤ k + 1) (h3 : n = X.length) (h4 : k < n) : (zs.length + 1) * 32 ≤ B := Nat.le_trans (Nat.mul_le_mul_right 32 (by omega : zs.length + 1 ≤ X.length + 2)) h1
theorem room2 {X zs : List RgD} {n k B : Nat} {x : RgD} (h1 : (X.length + 2) * 32 ≤ B) (h2 : zs.length ≤ k + 1) (h3 : n = X.length) (h4 : k < n) : ((zs ++ [x]).length + 1) * 32 ≤ B := by
  rw [List.length_append, List.length_singleton]
  exact Nat.le_trans (Nat.mul_le_mul_right 32 (by omega : zs.length + 1 + 1 ≤ X.length + 2)) h1
theorem room3 {X zs : List RgD} {n k B : Nat} (h1 : (X.length + 2) * 32 ≤ B) (h2 : zs.length ≤ k + 1) (h3 : n = X.length) (h4 : k ≤ n) : (zs.length + 1) * 32 ≤ B := Nat.le_trans (Nat.mul_le_mul_right 32 (by omega : zs.length + 1 ≤ X.length + 2)) h1
/-- where the setting stands -/
structure SeI (W0 W : World) (gs : Nat) (v : Value) (x : RgD) (xs : List RgD) (fin : List RgD) (k : Nat) (b : Bool) (zs : List RgD) : Prop where
  own : OwnG W gs v zs
  bel : Below gs W0 W
  tot : zs ++ setG x b (xs.drop k) = fin
  len : zs.length ≤ k + bN b
theorem SeI.quiet {W0 W W' : World} {gs : Nat} {v : Value} {x : RgD} {xs fin : List RgD} {k : Nat} {b : Bool} {zs : List RgD} (h : SeI W0 W gs v x xs fin k b zs) (hs : gs ≤ W.heap.size) (hb : Below W.heap.size W W') : SeI W0 W' gs v x xs fin k b zs := ⟨h.own.below hb, h.bel.trans (hb.mono hs), h.tot, h.len⟩
theorem SeI.same {W0 W w' : World} {gs : Nat} {v v' : Value} {x y : RgD} {xs fin : List RgD} {k : Nat} {b : Bool} {zs : List RgD} (h : SeI W0 W gs v x xs fin k b zs) (hs : gs ≤ W.heap.size) (hy : xs[k]? = some y) (hp : y.p = x.p) (hg : GrewG gs W v zs [if belG y x then x else y] v' w') : SeI W0 w' gs v' x xs fin (k + 1) true (zs ++ [if belG y x then x else y]) := by
  have e := h.tot
  have hl := h.len
  rw [drop_consG hy, setG, if_pos hp] at e
  refine ⟨hg.own, hg.bel h.bel (Nat.le_refl _) hs, ?_, ?_⟩
  · rw [← e, List.append_assoc]; rfl
  · rw [List.length_append, List.length_singleton]
    cases b <;> simp only [bN] at hl ⊢ <;> simp at hl ⊢ <;> omega
theorem SeI.past {W0 W w' : World} {gs : Nat} {v v' : Value} {x y : RgD} {xs fin : List RgD} {k : Nat} {b : Bool} {zs : List RgD} (h : SeI W0 W gs v x xs fin k b zs) (hs : gs ≤ W.heap.size) (hy : xs[k]? = some y) (hp : ¬ y.p = x.p) (hb : b = true ∨ ¬ x.p < y.p) (hg : GrewG gs W v zs [y] v' w') : SeI W0 w' gs v' x xs fin (k + 1) b (zs ++ [y]) := by
  have e := h.tot
  have hl := h.len
  rw [drop_consG hy, setG, if_neg hp] at e
  refine ⟨hg.own, hg.bel h.bel (Nat.le_refl _) hs, ?_, ?_⟩
  · rw [← e, List.append_assoc]
    cases b
    · rcases hb with hb | hb
      · cases hb
      · rw [if_neg (by simp), if_neg hb]; rfl
    · rw [if_pos rfl]; rfl
  · rw [List.length_append, List.length_singleton]; omega
theorem SeI.put {W0 W w' w2 : World} {gs : Nat} {v v' v2 : Value} {x y : RgD} {xs fin : List RgD} {k : Nat} {zs : List RgD} (h : SeI W0 W gs v x xs fin k false zs) (hs : gs ≤ W.heap.size) (hy : xs[k]? = some y) (hp : x.p < y.p) (hg : GrewG gs W v zs [x] v' w') (hg2 : GrewG gs w' v' (zs ++ [x]) [y] v2 w2) : SeI W0 w2 gs v2 x xs fin (k + 1) true (zs ++ [x] ++ [y]) := by
  have e := h.tot
  have hl := h.len
  rw [drop_consG hy, setG, if_neg (by omega), if_neg (by simp), if_pos hp] at e
  have hs2 := hg.gr.size
  refine ⟨hg2.own, hg2.bel (hg.bel h.bel (Nat.le_refl _) hs) (Nat.le_refl _) (by omega), ?_, ?_⟩
  · rw [← e, List.append_assoc, List.append_assoc]; rfl
  · rw [List.length_append, List.length_append, List.length_singleton, List.length_singleton]
    simp only [bN] at hl ⊢
    simp at hl ⊢; omega
set_option maxHeartbeats 8000000 in
set_option maxRecDepth 100000 in
theorem refSet_any (a : Option Addr) (X : List RgD) (n c : Nat) (x : RgD) (w : World) (hx : RowG w a X) (hn : n = X.length) (hl : (X.length + 2) * 32 ≤ 140737488355328) :
    Calls Tryd.prog 18 #[.slice a n c, .int .i64 x.p, .int .i64 x.v, .agg #[.int .i64 x.t, .int .i64 x.r]] w (RegsPost w (setG x false X)) := by
  have mixed : Tryd.prog.follows .mixedOrders = true := by kernel_rfl
  obtain ⟨g, hg⟩ : ∃ g, w.heap.size = g := ⟨_, rfl⟩
  have HG : Hid (w.heap.size = g) := hg
  have b1 := bel1 w (.cells #[.int .i64 x.t, .int .i64 x.r] 29)
  have b2 := bel1 (w.alloc (.cells #[.int .i64 x.t, .int .i64 x.r] 29)) (objG x)
  have HB1 := Lib.hid (b1.trans (b2.mono b1.size))
  have HS1 : Hid (St.StAt ((w.alloc (.cells #[.int .i64 x.t, .int .i64 x.r] 29)).alloc (objG x)) g 0 x.t x.r) := by
    have := (St.StAt.new w x.t x.r).next b2
    rwa [hg] at this
  have HXA : Hid (RgAt ((w.alloc (.cells #[.int .i64 x.t, .int .i64 x.r] 29)).alloc (objG x)) (g + 1) 0 x) := by
    have := RgAt.new (w.alloc (.cells #[.int .i64 x.t, .int .i64 x.r] 29)) x
    rwa [World.size_alloc, hg] at this
  have HZ1 : Hid (((w.alloc (.cells #[.int .i64 x.t, .int .i64 x.r] 29)).alloc (objG x)).heap.size = g + 2) := by show _ = _; rw [World.size_alloc, World.size_alloc, hg]
  have HA := Lib.hid hx
  have HN := Lib.hid hn
  have HL := Lib.hid hl
  obtain ⟨fin, hfin⟩ : ∃ fin, setG x false X = fin := ⟨_, rfl⟩
  rw [hfin]
  have HFIN := Lib.hid hfin
  have hnl : n ≤ 4398046511104 := by omega
  clear hx hn hl b1 b2 hfin
  have hbd := reg_build x.p x.v x.t x.r
  go_enter Tryd.func18, Tryd.ntmps18
  go_wp2
  generalize ((w.alloc (.cells #[.int .i64 x.t, .int .i64 x.r] 29)).alloc (objG x)) = W0 at *
  clear hbd hg
  have HAW : Hid (RowG W0 a X) := HA.out.below HB1.out (Nat.le_refl _)
  have HI0 : Hid (SeI W0 W0 (g + 2) (.slice none 0 0) x X fin 0 false []) := ⟨OwnG.nil _ _, by rw [← HZ1.out]; exact Below.refl _ _, by rw [List.drop_zero, List.nil_append]; exact HFIN.out, by simp [bN]⟩
  have HK : Hid (∀ W, Below (g + 2) W0 W → RgAt W (g + 1) 0 x ∧ St.StAt W g 0 x.t x.r ∧ RowG W a X ∧ g + 2 ≤ W.heap.size) := fun W hb => ⟨HXA.out.below hb (by omega), HS1.out.below hb (by omega), HAW.out.below hb (by rw [HZ1.out]; omega), by have := hb.size; rw [HZ1.out] at this; exact this⟩
  clear HA
  go_loopg [9, 10, 12] n (fun gg s9 s10 s12 wr => ∃ (k : Nat) (b : Bool) (zs : List RgD), s12 = .int .i64 k ∧ s10 = .bool b ∧ k ≤ n ∧ n - k ≤ gg ∧ Hid (SeI W0 wr (g + 2) s9 x X fin k b zs))
  case atStart => exact ⟨0, false, [], rfl, rfl, Nat.zero_le _, by omega, HI0⟩
  case round =>
    obtain ⟨k, b, zs, rfl, rfl, hk, hgk, HI⟩ := hrel
    clear HI0
    obtain ⟨hxa, hsa, hra, hsz⟩ := HK.out _ HI.out.bel
    have HLEN : Hid (zs.length ≤ k + 1) := Nat.le_trans HI.out.len (Nat.add_le_add_left (bN_le b) k)
    by_cases hin : k < n
    · have hinz : (k : Int) < (n : Int) := by omega
      obtain ⟨y, hy⟩ : ∃ y, X[k]? = some y := ⟨_, List.getElem?_eq_getElem (by rw [← HN.out]; exact hin)⟩
      have HY := Lib.hid hy
      obtain ⟨bb, off, rfl, hat⟩ := hra k y hy
      have HAT := Lib.hid hat
      have HXX := Lib.hid hxa
      have HSS := Lib.hid hsa
      clear hy hra hat hxa hsa
      have HL1 := Lib.hid (room1 HL.out HLEN.out HN.out hin)
      have HL2 := Lib.hid (room2 (x := x) HL.out HLEN.out HN.out hin)
      obtain ⟨c0, c1, c2, c3⟩ := HAT.out
      by_cases hp : y.p = x.p
      · have hpb : (y.p == x.p) = true := by simpa using hp
        have HP := Lib.hid hp
        obtain ⟨z, hz⟩ : ∃ z, St.cmpS y.t y.r x.t x.r = z := ⟨_, rfl⟩
        have C := Lib.hid (fun W => St.refCmp_any y.t y.r x.t x.r W)
        rw [hz] at C
        have HBE : Hid (belG y x = decide (z < 0)) := by show _ = _; unfold belG; rw [hz]
        have x1 : St.RegrownTo wr 29 #[.agg #[.int .i64 y.t, .int .i64 y.r], .agg #[.int .i64 x.t, .int .i64 x.r]] (.int .i64 z) := regrown_at fun W' hb => C.out W'
        obtain ⟨q0, q1⟩ := HSS.out.regrown
        obtain ⟨r0, r1, r2, r3⟩ := HAT.out.regrown
        clear hp hz C
        by_cases hz0 : z < 0
        · have hzd : decide (z < 0) = true := decide_eq_true hz0
          have HBT : Hid ((if belG y x then x else y) = x) := by show _ = _; rw [HBE.out, hzd]; rfl
          go_wp2_with fail
          refine wp_region_quiet_below (by assumption) (by kernel_rfl) ?_
          repeat (go_big_quiet_step ((first | (go_at_call 29; with_reducible exact x1 _ _))))
          refine wpQuiet_nil ?_
          intro _ hw'
          obtain ⟨⟨dq, osq⟩, hw''⟩ := hw'
          subst hw''
          have HI2 := Lib.hid (HI.out.quiet hsz (below_regrown _ dq osq))
          have hsz2 : g + 2 ≤ (Go.Sort.grow (redrawn wr dq) osq).heap.size := Nat.le_trans hsz (below_regrown _ dq osq).size
          have HXX2 := Lib.hid (HXX.out.next (below_regrown _ dq osq))
          have HAT2 := Lib.hid (HAT.out.next (below_regrown _ dq osq))
          generalize Go.Sort.grow (redrawn wr dq) osq = w2 at *
          clear c0 c1 c2 c3 q0 q1 r0 r1 r2 r3 x1
          obtain ⟨c0, c1, c2, c3⟩ := HAT2.out
          obtain ⟨d0, d1, d2, d3⟩ := HXX2.out
          go_wp2_with (at_builtin
                       refine wpG_one rfl _ _ rfl (g + 2) w2 u9 zs x rfl HI2.out.own _ rfl rfl HL1.out hsz2 ?_
                       intro v6 w6 hp6
                       rw [← HBT.out] at hp6
                       have HI6 := Lib.hid (SeI.same HI2.out hsz2 HY.out HP.out hp6)
                       clear hp6)
          go_roundg (n - (k + 1))
          case measure => omega
          case rel => exact ⟨k + 1, true, _, by go_num, rfl, by omega, by omega, HI6⟩
        · have hzd : decide (z < 0) = false := decide_eq_false hz0
          have HBT : Hid ((if belG y x then x else y) = y) := by show _ = _; rw [HBE.out, hzd]; rfl
          go_wp2_with fail
          refine wp_region_quiet_below (by assumption) (by kernel_rfl) ?_
          repeat (go_big_quiet_step ((first | (go_at_call 29; with_reducible exact x1 _ _))))
          refine wpQuiet_nil ?_
          intro _ hw'
          obtain ⟨⟨dq, osq⟩, hw''⟩ := hw'
          subst hw''
          have HI2 := Lib.hid (HI.out.quiet hsz (below_regrown _ dq osq))
          have hsz2 : g + 2 ≤ (Go.Sort.grow (redrawn wr dq) osq).heap.size := Nat.le_trans hsz (below_regrown _ dq osq).size
          have HXX2 := Lib.hid (HXX.out.next (below_regrown _ dq osq))
          have HAT2 := Lib.hid (HAT.out.next (below_regrown _ dq osq))
          generalize Go.Sort.grow (redrawn wr dq) osq = w2 at *
          clear c0 c1 c2 c3 q0 q1 r0 r1 r2 r3 x1
          obtain ⟨c0, c1, c2, c3⟩ := HAT2.out
          obtain ⟨d0, d1, d2, d3⟩ := HXX2.out
          go_wp2_with (at_builtin
                       refine wpG_one rfl _ _ rfl (g + 2) w2 u9 zs y rfl HI2.out.own _ rfl rfl HL1.out hsz2 ?_
                       intro v6 w6 hp6
                       rw [← HBT.out] at hp6
                       have HI6 := Lib.hid (SeI.same HI2.out hsz2 HY.out HP.out hp6)
                       clear hp6)
          go_roundg (n - (k + 1))
          case measure => omega
          case rel => exact ⟨k + 1, true, _, by go_num, rfl, by omega, by omega, HI6⟩
      · have hpb : (y.p == x.p) = false := by simpa using hp
        have HP := Lib.hid hp
        clear hp
        cases b
        · by_cases hlt : x.p < y.p
          · have hltd : decide (x.p < y.p) = true := decide_eq_true hlt
            have HLT := Lib.hid hlt
            obtain ⟨d0, d1, d2, d3⟩ := HXX.out
            clear hlt
            go_wp2_with (at_builtin
                         first
                         | (refine wpG_one rfl _ _ rfl (g + 2) wr u9 zs x rfl HI.out.own _ rfl rfl HL1.out hsz ?_
                            intro v6 w6 hp6
                            have HP6 := Lib.hid hp6
                            have HB6 := Lib.hid (hp6.bel HI.out.bel (Nat.le_refl _) hsz)
                            have HS6 : Hid (g + 2 ≤ w6.heap.size) := Nat.le_trans hsz hp6.gr.size
                            obtain ⟨bb', off', ebo, hat6⟩ := (HK.out _ HB6.out).2.2.1 k y HY.out
                            obtain ⟨rfl, rfl⟩ : bb' = bb ∧ off' = off := by simpa using ebo.symm
                            clear ebo hp6 c0 c1 c2 c3 d0 d1 d2 d3
                            obtain ⟨c0, c1, c2, c3⟩ := hat6)
                         | (refine wpG_one rfl _ _ rfl (g + 2) w6 v6 (zs ++ [x]) y rfl HP6.out.own _ rfl rfl HL2.out HS6.out ?_
                            intro v7 w7 hp7
                            have HI7 := Lib.hid (SeI.put HI.out hsz HY.out HLT.out HP6.out hp7)
                            clear hp7))
            go_roundg (n - (k + 1))
            case measure => omega
            case rel => exact ⟨k + 1, true, _, by go_num, rfl, by omega, by omega, HI7⟩
          · have hltd : decide (x.p < y.p) = false := decide_eq_false hlt
            have HLT := Lib.hid (Or.inr hlt : false = true ∨ ¬ x.p < y.p)
            go_wp2_with (at_builtin
                         refine wpG_one rfl _ _ rfl (g + 2) wr u9 zs y rfl HI.out.own _ rfl rfl HL1.out hsz ?_
                         intro v6 w6 hp6
                         have HI6 := Lib.hid (SeI.past HI.out hsz HY.out HP.out HLT.out hp6)
                         clear hp6)
            go_roundg (n - (k + 1))
            case measure => omega
            case rel => exact ⟨k + 1, _, _, by go_num, rfl, by omega, by omega, HI6⟩
        · have HLT := Lib.hid (Or.inl rfl : true = true ∨ ¬ x.p < y.p)
          go_wp2_with (at_builtin
                       refine wpG_one rfl _ _ rfl (g + 2) wr u9 zs y rfl HI.out.own _ rfl rfl HL1.out hsz ?_
                       intro v6 w6 hp6
                       have HI6 := Lib.hid (SeI.past HI.out hsz HY.out HP.out HLT.out hp6)
                       clear hp6)
          go_roundg (n - (k + 1))
          case measure => omega
          case rel => exact ⟨k + 1, _, _, by go_num, rfl, by omega, by omega, HI6⟩
    · obtain rfl : k = n := by omega
      have hinz : ¬ (k : Int) < (k : Int) := by omega
      have HT := Lib.hid HI.out.tot
      rw [List.drop_eq_nil_of_le (by rw [HN.out]; exact Nat.le_refl _)] at HT
      cases b
      · have HT2 : Hid (zs ++ [x] = fin) := HT.out
        obtain ⟨d0, d1, d2, d3⟩ := hxa
        have HL1 := Lib.hid (room3 HL.out HLEN.out HN.out hk)
        go_wp2_with (at_builtin
                     refine wpG_one rfl _ _ rfl (g + 2) wr u9 zs x rfl HI.out.own _ rfl rfl HL1.out hsz ?_
                     intro v6 w6 hp6
                     have HB6 := Lib.hid (hp6.bel HI.out.bel (Nat.le_refl _) hsz)
                     have HO6 := Lib.hid hp6.own
                     rw [HT2.out] at HO6
                     clear hp6)
        go_ret
        exact ⟨_, rfl, HO6.out.mono (by have := HG.out; omega), HB1.out.trans (HB6.out.mono (by have := HG.out; omega))⟩
      · have HT2 : Hid (zs = fin) := by have := HT.out; rw [setG, if_pos rfl, List.append_nil] at this; exact this
        have HO6 := Lib.hid HI.out.own
        rw [HT2.out] at HO6
        go_wp2
        go_ret
        exact ⟨_, rfl, HO6.out.mono (by have := HG.out; omega), HB1.out.trans (HI.out.bel.mono (by have := HG.out; omega))⟩
end Go.Proofs.YtjpjjckokonkpaaDoor
