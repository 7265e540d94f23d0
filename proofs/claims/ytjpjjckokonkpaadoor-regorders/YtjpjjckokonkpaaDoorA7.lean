/- Registers: Get, the page's Get, MaySet; copies; held against each other. -/
import Derived.Test.YtjpjjckokonkpaaDoorA6
namespace Go.Proofs.YtjpjjckokonkpaaDoor
open Go.RowKit Go.Lib
set_option linter.unusedVariables false

def valZ (o : Option RgD) : Int := match o with | some x => x.v | none => 0
def errZ (o : Option RgD) : Int := match o with | some _ => 0 | none => 3
def GetPost (z1 z2 : Int) (w : World) (e : Ending) (w' : World) : Prop := e = .returned (.tuple #[.int .i64 z1, .int .i64 z2]) ∧ Below w.heap.size w w'
set_option maxHeartbeats 1000000 in
theorem get_no (a : Option Addr) (xs : List RgD) (n c : Nat) (q : Int) (w : World) (ht : Pr.Tab w) (hr : RowG w a xs) (hn : n = xs.length) (hl : n ≤ 4398046511104) (h : regsB xs = false) :
    Calls Tryd.prog 13 #[.slice a n c, .int .i64 q] w (GetPost 0 1 w) := by
  have C := Lib.hid (rcheck_any a xs n c w ht hr hn (by omega))
  rw [h] at C
  clear ht hr hn hl h
  go_enter Tryd.func13, Tryd.ntmps13
  go_wp2_with fail
  refine (C.out).mono ?_
  rintro e w1 ⟨rfl, hb⟩
  have HB1 := Lib.hid hb
  clear hb
  simp only [St.errB]
  go_wp2
  go_ret2
  exact ⟨rfl, HB1.out⟩
set_option maxHeartbeats 1000000 in
theorem get_yes (a : Option Addr) (xs : List RgD) (n c : Nat) (q : Int) (w : World) (ht : Pr.Tab w) (hr : RowG w a xs) (hn : n = xs.length) (hl : n ≤ 4398046511104) (h : regsB xs = true) :
    Calls Tryd.prog 13 #[.slice a n c, .int .i64 q] w (GetPost (valZ (getG xs q)) (errZ (getG xs q)) w) := by
  have C := Lib.hid (rcheck_any a xs n c w ht hr hn (by omega))
  rw [h] at C
  have HR := Lib.hid hr
  have HN := Lib.hid hn
  have HASC := Lib.hid (regs_asc h)
  have D := Lib.hid (fun W (hb : Below w.heap.size w W) => search_any a xs n c q W (hr.below hb (Nat.le_refl _)) hn hl (regs_asc h))
  obtain ⟨o, ho⟩ : ∃ o, getG xs q = o := ⟨_, rfl⟩
  rw [ho]
  have HO := Lib.hid ho
  clear ht hr hn hl h ho
  go_enter Tryd.func13, Tryd.ntmps13
  go_wp2_with fail
  refine (C.out).mono ?_
  rintro e w1 ⟨rfl, hb⟩
  have HB1 := Lib.hid hb
  clear hb
  simp only [St.errB]
  go_wp2_with fail
  refine (D.out _ HB1.out).mono ?_
  rintro e w2 ⟨p, rfl, hp, hb⟩
  have HB2 := Lib.hid (HB1.out.trans (hb.mono HB1.out.size))
  have HGET := Lib.hid (here_get HASC.out hp)
  have HP := Lib.hid hp
  clear hb hp
  obtain ⟨hh, hhe⟩ : ∃ hh, hereG xs q p = hh := ⟨_, rfl⟩
  rw [hhe] at HGET ⊢
  have HH := Lib.hid hhe
  clear hhe
  cases hh
  · have HOZ : Hid (o = none) := by show _ = _; rw [← HO.out, HGET.out]; rfl
    go_wp2
    go_ret2
    exact ⟨by rw [HOZ.out]; rfl, HB2.out⟩
  · have hpl : p < xs.length := by
      have := HH.out
      unfold hereG at this
      cases hx : xs[p]? with
      | none => rw [hx] at this; cases this
      | some x => exact (List.getElem?_eq_some_iff.1 hx).1
    have hpn : p < n := by rw [HN.out]; exact hpl
    have hpz : (p : Int) < (n : Int) := by omega
    obtain ⟨x, hx⟩ : ∃ x, xs[p]? = some x := ⟨_, List.getElem?_eq_getElem hpl⟩
    have HOZ : Hid (o = some x) := by show _ = _; rw [← HO.out, HGET.out, if_pos rfl, hx]
    obtain ⟨b, off, rfl, hat⟩ := (HR.out.below HB2.out (Nat.le_refl _)) p x hx
    obtain ⟨c0, c1, c2, c3⟩ := hat
    clear hx hpl
    go_wp2
    go_ret2
    exact ⟨by rw [HOZ.out]; rfl, HB2.out⟩
theorem getG_at {xs : List RgD} {q : Int} {k : Nat} {x : RgD} (hx : xs[k]? = some x) (hq : x.p = q) (h : ∀ j y, j < k → xs[j]? = some y → ¬ y.p = q) : getG xs q = some x := by
  unfold getG
  have hlt := (List.getElem?_eq_some_iff.1 hx).1
  rw [List.find?_eq_some_iff_getElem]
  refine ⟨by simpa using hq, k, hlt, (List.getElem?_eq_some_iff.1 hx).2, fun j hj => ?_⟩
  have := h j _ hj (List.getElem?_eq_getElem (by omega))
  simpa using this
theorem getG_none {xs : List RgD} {q : Int} (h : ∀ (j : Nat) (y : RgD), xs[j]? = some y → ¬ y.p = q) : getG xs q = none := by
  unfold getG
  rw [List.find?_eq_none]
  intro y hy
  obtain ⟨k, hk⟩ := List.getElem?_of_mem hy
  simpa using h k y hk
def RefGet (o : Option RgD) (w : World) (e : Ending) (w' : World) : Prop := e = .returned (.tuple #[.int .i64 (valZ o), .bool o.isSome]) ∧ Below w.heap.size w w'
set_option maxHeartbeats 2000000 in
theorem refGet_any (a : Option Addr) (xs : List RgD) (n c : Nat) (q : Int) (w : World) (hr : RowG w a xs) (hn : n = xs.length) (hl : n ≤ 4398046511104) :
    Calls Tryd.prog 14 #[.slice a n c, .int .i64 q] w (RefGet (getG xs q) w) := by
  have HA := Lib.hid hr
  have HN := Lib.hid hn
  obtain ⟨o, ho⟩ : ∃ o, getG xs q = o := ⟨_, rfl⟩
  rw [ho]
  have HO := Lib.hid ho
  clear hr hn ho
  go_enter Tryd.func14, Tryd.ntmps14
  go_wp2
  go_loopg [6] n (fun gg s6 wr => ∃ k : Nat, s6 = .int .i64 k ∧ k ≤ n ∧ n - k ≤ gg ∧ Hid (∀ j y, j < k → xs[j]? = some y → ¬ y.p = q) ∧ Hid (Below w.heap.size w wr))
  case atStart => exact ⟨0, rfl, Nat.zero_le _, by omega, fun j y hj => absurd hj (Nat.not_lt_zero _), Below.refl _ _⟩
  case round =>
    obtain ⟨k, rfl, hk, hg, HF, HI⟩ := hrel
    by_cases hin : k < n
    · have hinz : (k : Int) < (n : Int) := by omega
      obtain ⟨x, hx⟩ : ∃ x, xs[k]? = some x := ⟨_, List.getElem?_eq_getElem (by rw [← HN.out]; exact hin)⟩
      obtain ⟨b, off, rfl, hat⟩ := (HA.out.below HI.out (Nat.le_refl _)) k x hx
      have HX := Lib.hid hx
      obtain ⟨c0, c1, c2, c3⟩ := hat
      clear hx
      by_cases hq : x.p = q
      · have HOZ : Hid (o = some x) := by show _ = _; rw [← HO.out]; exact getG_at HX.out hq HF.out
        have hqb : (x.p == q) = true := by simpa using hq
        go_wp2
        go_ret2
        exact ⟨by rw [HOZ.out]; rfl, HI.out⟩
      · have hqb : (x.p == q) = false := by simpa using hq
        have HF2 : Hid (∀ j y, j < k + 1 → xs[j]? = some y → ¬ y.p = q) := fun j y hj hy => by
          rcases Nat.lt_or_ge j k with h | h
          · exact HF.out j y h hy
          · obtain rfl : j = k := by omega
            have := HX.out
            rw [hy] at this
            injection this with this
            rw [this]; exact hq
        go_wp2_with fail
        go_roundg (n - (k + 1))
        case measure => omega
        case rel => exact ⟨k + 1, by go_num, by omega, by omega, HF2.out, HI.out⟩
    · obtain rfl : k = n := by omega
      have hinz : ¬ (k : Int) < (k : Int) := by omega
      have HOZ : Hid (o = none) := by show _ = _; rw [← HO.out]; exact getG_none fun j y hy => HF.out j y (by have := (List.getElem?_eq_some_iff.1 hy).1; have := HN.out; omega) hy
      go_wp2
      go_ret2
      exact ⟨by rw [HOZ.out]; rfl, HI.out⟩
set_option maxHeartbeats 1000000 in
theorem maySet_any (a : Option Addr) (X : List RgD) (n c : Nat) (x : RgD) (w : World) (hx : RowG w a X) (hn : n = X.length) (hl : n ≤ 4398046511104) :
    Calls Tryd.prog 17 #[.slice a n c, .int .i64 x.p, .int .i64 x.v, .agg #[.int .i64 x.t, .int .i64 x.r]] w (BoolPost w (regsB X && regB x)) := by
  have b1 := bel1 w (.cells #[.int .i64 x.t, .int .i64 x.r] 29)
  have HB := Lib.hid b1
  have HS := Lib.hid (St.StAt.new w x.t x.r)
  have C := Lib.hid (refRegs_any a X n c _ (hx.below HB.out (Nat.le_refl _)) hn (by omega))
  obtain ⟨rb, hrb⟩ : ∃ rb, regsB X = rb := ⟨_, rfl⟩
  rw [hrb] at C ⊢
  obtain ⟨z, hz⟩ : ∃ z, Pr.errP x.p x.v = z := ⟨_, rfl⟩
  have D := Lib.hid (fun W => Pr.refCheck_any x.p x.v W)
  obtain ⟨sb, hsb⟩ : ∃ sb, St.stB x.t x.r = sb := ⟨_, rfl⟩
  have E := Lib.hid (fun W => St.refStamp_any x.t x.r W)
  rw [hz] at D
  rw [hsb] at E
  have HRB : Hid (regB x = (decide (z = 0) && sb)) := by show _ = _; unfold regB; rw [hz, hsb]
  rw [HRB.out]
  clear hz hsb hrb hx hn hl b1
  cases rb
  · go_enter Tryd.func17, Tryd.ntmps17
    go_wp2_with fail
    refine (C.out).mono ?_
    rintro e w1 ⟨rfl, hb⟩
    have HB1 := Lib.hid (HB.out.trans (hb.mono HB.out.size))
    clear hb
    go_wp2
    go_ret
    exact ⟨rfl, HB1.out⟩
  · by_cases hz0 : z = 0
    · subst hz0
      go_enter Tryd.func17, Tryd.ntmps17
      go_wp2_with fail
      refine (C.out).mono ?_
      rintro e w1 ⟨rfl, hb⟩
      have HB1 := Lib.hid (HB.out.trans (hb.mono HB.out.size))
      have HS1 := Lib.hid (HS.out.next hb)
      clear hb
      go_wp2_with fail
      refine (D.out _).mono ?_
      rintro e w2 ⟨rfl, rfl⟩
      obtain ⟨c0, c1⟩ := HS1.out
      go_wp2_with fail
      refine (E.out _).mono ?_
      rintro e w2 ⟨rfl, hb⟩
      have HB2 := Lib.hid (HB1.out.trans (hb.mono HB1.out.size))
      clear hb
      go_wp2
      go_ret
      exact ⟨by simp, HB2.out⟩
    · have hz1 : (z == 0) = false := by simpa using hz0
      go_enter Tryd.func17, Tryd.ntmps17
      go_wp2_with fail
      refine (C.out).mono ?_
      rintro e w1 ⟨rfl, hb⟩
      have HB1 := Lib.hid (HB.out.trans (hb.mono HB.out.size))
      clear hb
      go_wp2_with fail
      refine (D.out _).mono ?_
      rintro e w2 ⟨rfl, rfl⟩
      go_wp2
      go_ret
      exact ⟨by simp [hz0], HB1.out⟩
theorem take_moreG {xs : List RgD} {k : Nat} {x : RgD} (h : xs[k]? = some x) : xs.take (k + 1) = xs.take k ++ [x] := by rw [List.take_add_one, h]; rfl
set_option maxHeartbeats 2000000 in
theorem copyRegs_any (a : Option Addr) (xs : List RgD) (n c : Nat) (w : World) (hr : RowG w a xs) (hn : n = xs.length) (hl : n * 32 ≤ 140737488355328) : Calls Tryd.prog 9 #[.slice a n c] w (RegsPost w xs) := by
  have HA := Lib.hid hr
  have HN := Lib.hid hn
  clear hr hn
  go_enter Tryd.func9, Tryd.ntmps9
  go_wp2
  go_loopg [3, 4] n (fun g1 v i wr => ∃ k : Nat, i = .int .i64 k ∧ k ≤ n ∧ n - k ≤ g1 ∧ Hid (OwnG wr w.heap.size v (xs.take k)) ∧ Hid (Below w.heap.size w wr))
  case atStart => exact ⟨0, rfl, Nat.zero_le _, by omega, by rw [List.take_zero]; exact OwnG.nil _ _, Below.refl _ _⟩
  case round =>
    obtain ⟨k, rfl, hk, hg, HO, HI⟩ := hrel
    by_cases hin : k < n
    · have hinz : (k : Int) < (n : Int) := by omega
      obtain ⟨x, hx⟩ : ∃ x, xs[k]? = some x := ⟨_, List.getElem?_eq_getElem (by rw [← HN.out]; exact hin)⟩
      have HX := Lib.hid (take_moreG hx)
      obtain ⟨b, off, rfl, hat⟩ := (HA.out.below HI.out (Nat.le_refl _)) k x hx
      obtain ⟨c0, c1, c2, c3⟩ := hat
      clear hx
      have HTL : Hid ((xs.take k).length = k) := by have := HN.out; show _ = _; rw [List.length_take]; omega
      have hsz := HI.out.size
      go_wp2_with (at_builtin
                   refine wpG_one rfl _ _ rfl w.heap.size wr u3 (xs.take k) x rfl HO.out _ rfl rfl (by have := HTL.out; omega) hsz ?_
                   intro v6 w6 hp6
                   have HI6 := Lib.hid (hp6.bel HI.out (Nat.le_refl _) hsz)
                   have HO6 := Lib.hid hp6.own
                   rw [← HX.out] at HO6
                   clear hp6)
      go_roundg (n - (k + 1))
      case measure => omega
      case rel => exact ⟨k + 1, by go_num, by omega, by omega, HO6.out, HI6.out⟩
    · have hinz : ¬ (k : Int) < (n : Int) := by omega
      have HF : Hid (OwnG wr w.heap.size u3 xs) := by
        have h := HO.out
        rw [List.take_of_length_le (by have := HN.out; omega)] at h
        exact h
      go_wp2
      go_ret
      exact ⟨_, rfl, HF.out, HI.out⟩
theorem reg_equal (x : RgD) (w : World) : (Op.equalIn 10000 51 (valG x) (valG x)).run Tryd.prog w = .ok true w := by
  have u3 := Tryd.underlying3
  have a3 := Tryd.isAgg3
  have z3 := Tryd.sizeOf3
  have hS : Tryd.prog.underlying 51 = some (.struct (Tryd.prog.fieldsOf 51)) := by kernel_rfl
  rw [show (10000 : Nat) = 9999 + 1 from rfl, run_equalIn_agg w 9999 51 _ _ hS (by kernel_rfl)]
  simp only [Program.fieldsOf, Tryd.underlying51]
  go_simp
theorem reg_neq (x : RgD) (w : World) : (binOp .neq 51 (valG x) (valG x)).run Tryd.prog w = .ok (.bool false) w := by
  rw [run_neq_struct, reg_equal]
  rfl
theorem reg_guard (op : BinOp) (x y : Operand) (xs ys : Array Value) (w : World) : (eqGuard op 51 x y (.agg xs) (.agg ys)).run Tryd.prog w = .ok () w := run_eqGuard_agg w op 51 x y xs ys (by kernel_rfl)
set_option maxHeartbeats 1000000 in
theorem eqRegs_yes (a b : Option Addr) (xs : List RgD) (n1 n2 c1 c2 : Nat) (w : World) (ha : RowG w a xs) (hb : RowG w b xs) (h1 : n1 = xs.length) (h2 : n2 = xs.length) (hl : xs.length ≤ 4398046511104) :
    Calls Tryd.prog 16 #[.slice a n1 c1, .slice b n2 c2] w (BoolPost w true) := by
  have mixed : Tryd.prog.follows .mixedOrders = true := by kernel_rfl
  have e12 : n2 = n1 := by omega
  subst e12
  have HA := Lib.hid ha
  have HB := Lib.hid hb
  have HN := Lib.hid h1
  have hnl : n2 ≤ 4398046511104 := by omega
  have hG := reg_guard
  clear ha hb h1 h2 hl
  go_enter Tryd.func16, Tryd.ntmps16
  go_wp2
  go_loopg [5] n2 (fun g1 v wr => ∃ k : Nat, v = .int .i64 k ∧ k ≤ n2 ∧ n2 - k ≤ g1 ∧ Hid (Below w.heap.size w wr))
  case atStart => exact ⟨0, rfl, by omega, by omega, Below.refl _ _⟩
  case round =>
    obtain ⟨k, rfl, hk, hg, HI⟩ := hrel
    by_cases hin : k < n2
    · have hinz : (k : Int) < (n2 : Int) := by omega
      obtain ⟨x, hx⟩ : ∃ x, xs[k]? = some x := ⟨_, List.getElem?_eq_getElem (by rw [← HN.out]; exact hin)⟩
      obtain ⟨b1, o1, rfl, hat1⟩ := (HA.out.below HI.out (Nat.le_refl _)) k x hx
      obtain ⟨b2, o2, rfl, hat2⟩ := (HB.out.below HI.out (Nat.le_refl _)) k x hx
      obtain ⟨c0, c1', c2', c3⟩ := hat1
      obtain ⟨d0, d1, d2, d3⟩ := hat2
      have hnq := reg_neq x
      clear hx
      go_wp2_with fail
      go_quiet (fail)
      go_wp2_with fail
      go_roundg (n2 - (k + 1))
      case measure => omega
      case rel => exact ⟨k + 1, by go_num, by omega, by omega, below_drewN HI.out _⟩
    · have hinz : ¬ (k : Int) < (n2 : Int) := by omega
      go_wp2
      go_ret
      exact ⟨rfl, HI.out⟩
end Go.Proofs.YtjpjjckokonkpaaDoor
