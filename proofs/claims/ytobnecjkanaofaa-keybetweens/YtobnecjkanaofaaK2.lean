/- The key between two, byte by byte. -/
import Derived.Test.YtobnecjkanaofaaK1
namespace Go.Proofs.Ytobnecjkanaofaa
open Go.RowKit Go.Lib
set_option linter.unusedVariables false

def lenV : Value → Nat
  | .slice _ n _ => n
  | _ => 0
def MidPost (base : Nat) (w : World) (zs : List Int) (e : Ending) (w' : World) : Prop := ∃ v', e = .returned v' ∧ OwnK .u8 5 w' base v' zs ∧ Below base w w'
def MidI (base : Nat) (w : World) (all : List Int) (a b : ByteArray) (v : Value) (n : Nat) (w' : World) : Prop :=
  ∃ cur, OwnK .u8 5 w' base v cur ∧ cur.length = n ∧ cur ++ mid ((strN a).drop n) ((strN b).drop n) = all ∧ Below base w w' ∧ base ≤ w'.heap.size
def MidJ (base : Nat) (w : World) (all : List Int) (a : ByteArray) (a' : Act) (w' : World) : Prop :=
  ∃ (b : ByteArray) (ad : Option Addr) (n cap : Nat) (u2 u3 u4 u6 u7 u8 u9 u10 u11 u12 u13 u14 u15 u16 u17 u18 u19 u20 u21 u22 u23 u24 u25 u26 u27 u28 u29 u30 u31 u32 u33 u34 u35 u36 u37 u38 : Value), a' = { tmps := #[.string a, .string b, u2, u3, u4, .slice ad n cap, u6, u7, u8, u9, u10, u11, u12, u13, u14, u15, u16, u17, u18, u19, u20, u21, u22, u23, u24, u25, u26, u27, u28, u29, u30, u31, u32, u33, u34, u35, u36, u37, u38], defers := [] } ∧ n < all.length ∧ MidI base w all a b (.slice ad n cap) n w'

theorem mid_last {base : Nat} {w w2 w' : World} {all cur : List Int} {a b : ByteArray} {v v' : Value} {n : Nat} {z x y : Int} (hn : cur.length = n) (hx : x = (strN a).getD n 0) (hy : y = (strN b).getD n 256) (hc : x + 2 ≤ y) (hz : z = x + (y - x) / 2)
    (he : cur ++ mid ((strN a).drop n) ((strN b).drop n) = all) (hb : Below base w w2) (hs : base ≤ w2.heap.size) (h : Grew .u8 5 base w2 v cur [z] v' w') : MidPost base w all (.returned v') w' := by
  refine ⟨v', rfl, ?_, h.bel base w hb (Nat.le_refl _) hs⟩
  have := h.own
  subst hx hy
  rw [mid_stop hc, ← hz] at he
  rw [he] at this
  exact this
theorem mid_next {base : Nat} {w w2 w' : World} {all cur : List Int} {a b b' : ByteArray} {v v' : Value} {n : Nat} {z x y : Int} (hn : cur.length = n) (hx : x = (strN a).getD n 0) (hy : y = (strN b).getD n 256) (hc : ¬ x + 2 ≤ y) (hz : z = x) (hb' : strN b' = usedB x y (strN b))
    (he : cur ++ mid ((strN a).drop n) ((strN b).drop n) = all) (hb : Below base w w2) (hs : base ≤ w2.heap.size) (h : Grew .u8 5 base w2 v cur [z] v' w') : ∃ ad cap, v' = .slice ad (n + 1) cap ∧ n + 1 < all.length ∧ MidI base w all a b' (.slice ad (n + 1) cap) (n + 1) w' := by
  have hg := h.own
  obtain ⟨ad, cap, rfl, _⟩ := h.own.form
  rw [List.length_append, hn] at hg ⊢
  subst hx hy hz
  rw [mid_go hc, ← hb'] at he
  refine ⟨ad, cap, rfl, ?_, cur ++ [(strN a).getD n 0], hg, by simp [hn], ?_, h.bel base w hb (Nat.le_refl _) hs, Nat.le_trans hs h.size⟩
  · rw [← he, List.length_append, List.length_cons, hn]
    have := (mid_len_le _ ((strN a).drop (n + 1)) ((strN b').drop (n + 1)) (Nat.le_refl _)).2
    omega
  · rw [← he]; simp
theorem getD_isB {zs : List Int} (h : IsB zs) (n : Nat) {d : Int} (hd : 0 ≤ d ∧ d ≤ 256) : 0 ≤ zs.getD n d ∧ zs.getD n d ≤ 256 := by
  rw [List.getD_eq_getElem?_getD]
  cases hc : zs[n]? with
  | none => simpa using hd
  | some z => have := h z (List.mem_of_getElem? hc); simp; omega
theorem getD_isB0 {zs : List Int} (h : IsB zs) (n : Nat) : 0 ≤ zs.getD n 0 ∧ zs.getD n 0 < 256 := by
  rw [List.getD_eq_getElem?_getD]
  cases hc : zs[n]? with
  | none => simp
  | some z => have := h z (List.mem_of_getElem? hc); simp; omega
theorem strN_nil : strN ⟨#[]⟩ = [] := rfl

set_option maxHeartbeats 1000000 in
set_option maxRecDepth 100000 in
theorem middle_any (a b : ByteArray) (w : World) (hl : a.size + b.size ≤ 1000000) :
    Calls Try.prog 18 #[.string a, .string b] w (MidPost w.heap.size w (mid (strN a) (strN b))) := by
  have hla : (mid (strN a) (strN b)).length ≤ 1000001 ∧ 1 ≤ (mid (strN a) (strN b)).length := mid_len_le 1000000 _ _ (by rw [strN_len, strN_len]; exact hl)
  obtain ⟨all, hall⟩ : ∃ all, all = mid (strN a) (strN b) := ⟨_, rfl⟩
  obtain ⟨base, hbase⟩ : ∃ base, base = w.heap.size := ⟨_, rfl⟩
  rw [← hall] at hla ⊢
  rw [← hbase]
  have HI : Hid (MidI base w all a b (.slice none 0 0) 0 w) := ⟨[], OwnK.nil _ _ _ _, rfl, by rw [hall]; rfl, Below.refl _ _, by omega⟩
  have HL := Lib.hid hla.1
  clear hl hla hall hbase
  go_enter Try.func18, Try.ntmps18
  go_wp2
  refine wp_scope_jumps 0 (MidJ base w all a) (fun a' _ => all.length - lenV (a'.tmps.getD 5 undef)) rfl ?_ ?_
  · clear HL
    obtain ⟨cur, h1, hn, h2, h3, h4⟩ := HI.out
    obtain rfl : cur = [] := List.eq_nil_of_length_eq_zero hn
    clear hn h2
    have h2 : [] ++ mid ((strN a).drop 0) ((strN b).drop 0) = all := by obtain ⟨c, k1, k2, k3, _⟩ := HI.out; obtain rfl : c = [] := List.eq_nil_of_length_eq_zero k2; exact k3
    have hn : ([] : List Int).length = 0 := rfl
    have hlen : ([] : List Int).length + 1 ≤ 140737488355328 := by simp
    obtain ⟨x, hx⟩ : ∃ x, x = (strN a).getD 0 0 := ⟨_, rfl⟩
    obtain ⟨y, hy⟩ : ∃ y, y = (strN b).getD 0 256 := ⟨_, rfl⟩
    have hxb := getD_isB0 (strN_isB a) 0
    have hyb := getD_isB (strN_isB b) 0 (d := 256) (by omega)
    have CL := Lib.hid (fun W => low_any a 0 W)
    have CH := Lib.hid (fun W => high_any b 0 W)
    rw [← hx] at hxb CL
    rw [← hy] at hyb CH
    have HX := Lib.hid hx
    have HY := Lib.hid hy
    have HN := Lib.hid hn
    clear hx hy hn
    by_cases hc : x + 2 ≤ y
    · obtain ⟨q, hq⟩ : ∃ q, q = (y - x) / 2 := ⟨_, rfl⟩
      have hqt : (y - x).tdiv 2 = q := by rw [Int.tdiv_eq_ediv_of_nonneg (by omega), hq]
      have hqb : 1 ≤ q ∧ x + q ≤ 255 := by omega
      have HP := Lib.hid (show ∀ v2 w3 z, z = x + q → Grew .u8 5 base w (.slice none 0 0) [] [z] v2 w3 → MidPost base w all (.returned v2) w3 from fun v2 w3 z hz h => mid_last HN.out HX.out HY.out hc (by rw [hz, hq]) h2 h3 h4 h)
      clear hq
      go_wp2_with fail
      go_step3
      go_wp2_with fail
      refine (CL.out _).mono ?_
      rintro e wl ⟨rfl, rfl⟩
      go_wp2_with fail
      refine (CH.out _).mono ?_
      rintro e wh ⟨rfl, rfl⟩
      go_wp2_with (at_builtin
                   refine wpB_one rfl _ _ rfl base w (.slice none 0 0) [] _ rfl h1 rfl hlen h4 ?_
                   intro v1 w2 hp1
                   have HQ := Lib.hid (HP.out v1 w2 _ (by first | rfl | omega) hp1)
                   clear hp1)
      simp only [Exit.jump]
      go_ret
      exact HQ.out
    · by_cases hj : y = x + 1
      · have HJ : Hid (∀ v2 w3 z, z = x → Grew .u8 5 base w (.slice none 0 0) [] [z] v2 w3 → ∃ ad cap, v2 = .slice ad (0 + 1) cap ∧ 0 + 1 < all.length ∧ MidI base w all a ⟨#[]⟩ (.slice ad (0 + 1) cap) (0 + 1) w3) := fun v2 w3 z hz h => mid_next HN.out HX.out HY.out hc hz (by rw [usedB_yes hj]; rfl) h2 h3 h4 h
        subst hj
        go_wp2_with fail
        go_step3
        go_wp2_with fail
        refine (CL.out _).mono ?_
        rintro e wl ⟨rfl, rfl⟩
        go_wp2_with fail
        refine (CH.out _).mono ?_
        rintro e wh ⟨rfl, rfl⟩
        go_wp2_with (at_builtin
                     refine wpB_one rfl _ _ rfl base w (.slice none 0 0) [] _ rfl h1 rfl hlen h4 ?_
                     intro v1 w2 hp1
                     obtain ⟨ad1, cap1, rfl, hlt1, hI1⟩ := HJ.out v1 w2 _ (by first | rfl | omega) hp1
                     have HQ := Lib.hid hI1
                     have HLt := Lib.hid hlt1
                     clear hp1 hI1 hlt1)
        go_step3
        exact ⟨rfl, ⟨⟨#[]⟩, ad1, 0 + 1, cap1, _, _, _, _, _, _, _, _, _, _, _, _, _, _, _, _, _, _, _, _, _, _, _, _, _, _, _, _, _, _, _, _, _, _, _, _, rfl, HLt.out, HQ.out⟩⟩
      · have HJ : Hid (∀ v2 w3 z, z = x → Grew .u8 5 base w (.slice none 0 0) [] [z] v2 w3 → ∃ ad cap, v2 = .slice ad (0 + 1) cap ∧ 0 + 1 < all.length ∧ MidI base w all a b (.slice ad (0 + 1) cap) (0 + 1) w3) := fun v2 w3 z hz h => mid_next HN.out HX.out HY.out hc hz (by rw [usedB_no hj]) h2 h3 h4 h
        have hjb : (y == x + 1) = false := by simpa using hj
        go_wp2_with fail
        go_step3
        go_wp2_with fail
        refine (CL.out _).mono ?_
        rintro e wl ⟨rfl, rfl⟩
        go_wp2_with fail
        refine (CH.out _).mono ?_
        rintro e wh ⟨rfl, rfl⟩
        go_wp2_with (at_builtin
                     refine wpB_one rfl _ _ rfl base w (.slice none 0 0) [] _ rfl h1 rfl hlen h4 ?_
                     intro v1 w2 hp1
                     obtain ⟨ad1, cap1, rfl, hlt1, hI1⟩ := HJ.out v1 w2 _ (by first | rfl | omega) hp1
                     have HQ := Lib.hid hI1
                     have HLt := Lib.hid hlt1
                     clear hp1 hI1 hlt1)
        go_step3
        exact ⟨rfl, ⟨b, ad1, 0 + 1, cap1, _, _, _, _, _, _, _, _, _, _, _, _, _, _, _, _, _, _, _, _, _, _, _, _, _, _, _, _, _, _, _, _, _, _, _, _, rfl, HLt.out, HQ.out⟩⟩
  · rintro a' w' ⟨b, ad, n, cap, u2, u3, u4, u6, u7, u8, u9, u10, u11, u12, u13, u14, u15, u16, u17, u18, u19, u20, u21, u22, u23, u24, u25, u26, u27, u28, u29, u30, u31, u32, u33, u34, u35, u36, u37, u38, rfl, hlt, hI⟩
    have HI := Lib.hid hI
    have HLT := Lib.hid hlt
    clear hI hlt
    obtain ⟨cur, h1, hn, h2, h3, h4⟩ := HI.out
    have hlen : cur.length + 1 ≤ 140737488355328 := by have := HL.out; have := HLT.out; omega
    obtain ⟨x, hx⟩ : ∃ x, x = (strN a).getD n 0 := ⟨_, rfl⟩
    obtain ⟨y, hy⟩ : ∃ y, y = (strN b).getD n 256 := ⟨_, rfl⟩
    have hxb := getD_isB0 (strN_isB a) n
    have hyb := getD_isB (strN_isB b) n (d := 256) (by omega)
    have CL := Lib.hid (fun W => low_any a n W)
    have CH := Lib.hid (fun W => high_any b n W)
    rw [← hx] at hxb CL
    rw [← hy] at hyb CH
    have HX := Lib.hid hx
    have HY := Lib.hid hy
    have HN := Lib.hid hn
    clear hx hy hn
    by_cases hc : x + 2 ≤ y
    · obtain ⟨q, hq⟩ : ∃ q, q = (y - x) / 2 := ⟨_, rfl⟩
      have hqt : (y - x).tdiv 2 = q := by rw [Int.tdiv_eq_ediv_of_nonneg (by omega), hq]
      have hqb : 1 ≤ q ∧ x + q ≤ 255 := by omega
      have HP := Lib.hid (show ∀ v2 w3 z, z = x + q → Grew .u8 5 base w' (.slice ad n cap) cur [z] v2 w3 → MidPost base w all (.returned v2) w3 from fun v2 w3 z hz h => mid_last HN.out HX.out HY.out hc (by rw [hz, hq]) h2 h3 h4 h)
      clear hq
      go_wp2_with fail
      refine (CL.out _).mono ?_
      rintro e wl ⟨rfl, rfl⟩
      go_wp2_with fail
      refine (CH.out _).mono ?_
      rintro e wh ⟨rfl, rfl⟩
      go_wp2_with (at_builtin
                   refine wpB_one rfl _ _ rfl base w' (.slice ad n cap) cur _ rfl h1 rfl hlen h4 ?_
                   intro v1 w2 hp1
                   have HQ := Lib.hid (HP.out v1 w2 _ (by first | rfl | omega) hp1)
                   clear hp1)
      simp only [Exit.jump]
      go_ret
      exact HQ.out
    · by_cases hj : y = x + 1
      · have HJ : Hid (∀ v2 w3 z, z = x → Grew .u8 5 base w' (.slice ad n cap) cur [z] v2 w3 → ∃ ad cap, v2 = .slice ad (n + 1) cap ∧ n + 1 < all.length ∧ MidI base w all a ⟨#[]⟩ (.slice ad (n + 1) cap) (n + 1) w3) := fun v2 w3 z hz h => mid_next HN.out HX.out HY.out hc hz (by rw [usedB_yes hj]; rfl) h2 h3 h4 h
        subst hj
        go_wp2_with fail
        refine (CL.out _).mono ?_
        rintro e wl ⟨rfl, rfl⟩
        go_wp2_with fail
        refine (CH.out _).mono ?_
        rintro e wh ⟨rfl, rfl⟩
        go_wp2_with (at_builtin
                     refine wpB_one rfl _ _ rfl base w' (.slice ad n cap) cur _ rfl h1 rfl hlen h4 ?_
                     intro v1 w2 hp1
                     obtain ⟨ad1, cap1, rfl, hlt1, hI1⟩ := HJ.out v1 w2 _ (by first | rfl | omega) hp1
                     have HQ := Lib.hid hI1
                     have HLt := Lib.hid hlt1
                     clear hp1 hI1 hlt1)
        go_step3
        refine ⟨rfl, ⟨⟨#[]⟩, ad1, n + 1, cap1, _, _, _, _, _, _, _, _, _, _, _, _, _, _, _, _, _, _, _, _, _, _, _, _, _, _, _, _, _, _, _, _, _, _, _, _, rfl, HLt.out, HQ.out⟩, ?_⟩
        have := HLt.out
        simp [lenV]
        omega
      · have HJ : Hid (∀ v2 w3 z, z = x → Grew .u8 5 base w' (.slice ad n cap) cur [z] v2 w3 → ∃ ad cap, v2 = .slice ad (n + 1) cap ∧ n + 1 < all.length ∧ MidI base w all a b (.slice ad (n + 1) cap) (n + 1) w3) := fun v2 w3 z hz h => mid_next HN.out HX.out HY.out hc hz (by rw [usedB_no hj]) h2 h3 h4 h
        have hjb : (y == x + 1) = false := by simpa using hj
        go_wp2_with fail
        refine (CL.out _).mono ?_
        rintro e wl ⟨rfl, rfl⟩
        go_wp2_with fail
        refine (CH.out _).mono ?_
        rintro e wh ⟨rfl, rfl⟩
        go_wp2_with (at_builtin
                     refine wpB_one rfl _ _ rfl base w' (.slice ad n cap) cur _ rfl h1 rfl hlen h4 ?_
                     intro v1 w2 hp1
                     obtain ⟨ad1, cap1, rfl, hlt1, hI1⟩ := HJ.out v1 w2 _ (by first | rfl | omega) hp1
                     have HQ := Lib.hid hI1
                     have HLt := Lib.hid hlt1
                     clear hp1 hI1 hlt1)
        go_step3
        refine ⟨rfl, ⟨b, ad1, n + 1, cap1, _, _, _, _, _, _, _, _, _, _, _, _, _, _, _, _, _, _, _, _, _, _, _, _, _, _, _, _, _, _, _, _, _, _, _, _, rfl, HLt.out, HQ.out⟩, ?_⟩
        have := HLt.out
        simp [lenV]
        omega
end Go.Proofs.Ytobnecjkanaofaa
