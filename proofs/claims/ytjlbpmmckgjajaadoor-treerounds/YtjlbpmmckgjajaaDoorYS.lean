/- Joined: TK3 TK4 TK5. -/
import Derived.Test.YtjlbpmmckgjajaaDoorYR

/- Trees: Kids: by their Keys (SortStableFunc, fewer than 20), a row of nodes copied. -/
namespace Go.Proofs.YtjlbpmmckgjajaaDoor
open Go.RowKit Go.Lib Go.Maps Go.Sort Go.Shelf
set_option linter.unusedVariables false

theorem ltB_trans : ∀ {x y z : List Int}, Ky.ltB x y = true → Ky.ltB y z = true → Ky.ltB x z = true
  | _, [], _, h, _ => by rw [Ky.ltB_nil] at h; cases h
  | _, _ :: _, [], _, h => by rw [Ky.ltB_nil] at h; cases h
  | [], _ :: _, _ :: _, _, _ => rfl
  | a :: x, b :: y, c :: z, h1, h2 => by
    simp only [Ky.ltB, Bool.or_eq_true, Bool.and_eq_true, decide_eq_true_eq] at h1 h2 ⊢
    rcases h1 with h1 | ⟨rfl, h1⟩
    · rcases h2 with h2 | ⟨rfl, h2⟩
      · exact .inl (by omega)
      · exact .inl h1
    · rcases h2 with h2 | ⟨rfl, h2⟩
      · exact .inl h2
      · exact .inr ⟨rfl, ltB_trans h1 h2⟩
theorem ltB_tri : ∀ (x y : List Int), Ky.ltB x y = true ∨ x = y ∨ Ky.ltB y x = true
  | [], [] => .inr (.inl rfl)
  | [], _ :: _ => .inl rfl
  | _ :: _, [] => .inr (.inr rfl)
  | a :: x, b :: y => by
    simp only [Ky.ltB, Bool.or_eq_true, Bool.and_eq_true, decide_eq_true_eq]
    rcases Int.lt_trichotomy a b with h | rfl | h
    · exact .inl (.inl h)
    · rcases ltB_tri x y with h | rfl | h
      · exact .inl (.inr ⟨rfl, h⟩)
      · exact .inr (.inl rfl)
      · exact .inr (.inr (.inr ⟨rfl, h⟩))
    · exact .inr (.inr (.inl h))
def cmpT (s t : ByteArray) : Int := if Ky.ltB (strN s) (strN t) then -1 else if strN s = strN t then 0 else 1
theorem isNaNS_any (s : ByteArray) (w : World) : Calls Tryd.prog 58 #[.string s] w fun e w' => e = .returned (.bool false) ∧ w = w' := by
  go_enter Tryd.func58, Tryd.ntmps58
  go_wp2
  go_ret
  exact ⟨rfl, rfl⟩
set_option maxHeartbeats 1000000 in
theorem compareS_any (s t : ByteArray) (w : World) : Calls Tryd.prog 40 #[.string s, .string t] w fun e w' => e = .returned (.int .i64 (cmpT s t)) ∧ w = w' := by
  have H1 := Lib.hid (fun W => isNaNS_any s W)
  have H2 := Lib.hid (fun W => isNaNS_any t W)
  have l1 := Ky.less_strN s t
  cases c1 : Ky.ltB (strN s) (strN t)
  · rw [c1] at l1
    by_cases c2 : strN s = strN t
    · have hc : cmpT s t = 0 := by unfold cmpT; rw [c1, if_neg (by decide), if_pos c2]
      rw [hc]
      obtain rfl := Ky.strN_inj c2
      clear hc c1 c2
      go_enter Tryd.func40, Tryd.ntmps40
      go_wp2_with fail
      refine (H1.out _).mono ?_
      rintro e w' ⟨rfl, rfl⟩
      go_wp2_with fail
      refine (H2.out _).mono ?_
      rintro e w' ⟨rfl, rfl⟩
      go_wp2
      go_ret
      exact ⟨rfl, rfl⟩
    · have hc : cmpT s t = 1 := by unfold cmpT; rw [c1, if_neg (by decide), if_neg c2]
      rw [hc]
      have e1 : (s.toList == t.toList) = false := by rw [Ky.same_strN]; exact decide_eq_false c2
      have e2 : ¬ s.toList = t.toList := by simpa using e1
      clear hc c1 c2
      go_enter Tryd.func40, Tryd.ntmps40
      go_wp2_with fail
      refine (H1.out _).mono ?_
      rintro e w' ⟨rfl, rfl⟩
      go_wp2_with fail
      refine (H2.out _).mono ?_
      rintro e w' ⟨rfl, rfl⟩
      go_wp2
      go_ret
      exact ⟨rfl, rfl⟩
  · rw [c1] at l1
    have hc : cmpT s t = -1 := by unfold cmpT; rw [c1, if_pos rfl]
    rw [hc]
    clear hc c1
    go_enter Tryd.func40, Tryd.ntmps40
    go_wp2_with fail
    refine (H1.out _).mono ?_
    rintro e w' ⟨rfl, rfl⟩
    go_wp2_with fail
    refine (H2.out _).mono ?_
    rintro e w' ⟨rfl, rfl⟩
    go_wp2
    go_ret
    exact ⟨rfl, rfl⟩
def cmpK (x y : ND) : Int := cmpT x.key y.key
set_option maxHeartbeats 1000000 in
theorem cmpK_any (x y : ND) (w : World) : Calls Tryd.prog 39 #[valN x, valN y] w (IntGrow w (cmpK x y)) := by
  have C := Lib.hid (fun W => compareS_any x.key y.key W)
  have hc : cmpK x y = cmpT x.key y.key := rfl
  rw [hc]
  clear hc
  generalize cmpT x.key y.key = z at *
  go_enter Tryd.func39, Tryd.ntmps39
  go_wp2_with fail
  refine (C.out _).mono ?_
  rintro e w' ⟨rfl, rfl⟩
  go_wp2
  go_ret
  exact ⟨rfl, 0, _, by rw [alloc_eq_grow, alloc_eq_grow, grow_grow]; rfl⟩
theorem cmpK_lays (g off size : Nat) (w : World) : CmpLays Tryd.prog 39 #[] ND.enc 5 cmpK g off size w := fun _ _ _ _ x y => cmpK_any x y _
/-- by their Keys, equals as they stood -/
def sortK (l : List ND) : List ND := (Sort.insertionSort (ltOf cmpK) l.toArray 0 l.length).toList
theorem ltK_is (a b : ND) : ltOf cmpK a b = Ky.ltB (strN a.key) (strN b.key) := by
  unfold ltOf cmpK cmpT
  cases h : Ky.ltB (strN a.key) (strN b.key)
  · rw [if_neg (by decide)]
    split <;> decide
  · rw [if_pos rfl]; decide
theorem swoK : SWO (ltOf cmpK) where
  irrefl x := by rw [ltK_is]; exact Ky.ltB_irr _
  trans x y z h1 h2 := by rw [ltK_is] at *; exact ltB_trans h1 h2
  ntrans x y z h1 h2 := by
    rw [ltK_is] at *
    rcases ltB_tri (strN x.key) (strN z.key) with e | e | e
    · rcases ltB_tri (strN y.key) (strN z.key) with f | f | f
      · rw [f] at h2; cases h2
      · rw [← f, h1] at e; cases e
      · rw [ltB_trans e f] at h1; cases h1
    · rw [e]; exact Ky.ltB_irr _
    · cases g : Ky.ltB (strN x.key) (strN z.key)
      · rfl
      · have := Ky.ltB_asymm _ _ g
        rw [e] at this
        cases this
theorem sortK_all (l : List ND) : (sortK l).Perm l := by
  have h := (Sort.insertionSort_holds (lt := ltOf cmpK) swoK l.toArray 0 l.length (Nat.zero_le _) (by simp)).1
  have h1 : Sort.PermIn 0 l.toArray.size l.toArray (Sort.insertionSort (ltOf cmpK) l.toArray 0 l.length) := by simpa using h
  have h2 := perm_all h1
  simpa [sortK] using h2
theorem sortK_len (l : List ND) : (sortK l).length = l.length := (sortK_all l).length_eq
def StPost (w : World) (base : Nat) (v : Value) (xs : List ND) (e : Ending) (w' : World) : Prop := e = .returned (.tuple #[]) ∧ OwnF 44 5 ND.enc w' base v (sortK xs) ∧ Below base w w'
set_option maxHeartbeats 2000000 in
theorem stab_any {W : World} {base : Nat} {v : Value} {xs : List ND} {a : Option Addr} {n cap : Nat} (ho : OwnF 44 5 ND.enc W base v xs) (hv : v = .slice a n cap) (hl : xs.length ≤ 19) (hb : base ≤ W.heap.size) :
    Calls Tryd.prog 75 #[v, .int .i64 0, .int .i64 (n : Int), .func (.func 39) #[] #[]] W (StPost W base v xs) := by
  subst hv
  obtain ⟨a', n', c', e1, hn, hc, hrow, hg⟩ := ho.form flatN
  injection e1 with e1 e2 e3
  subst e1 e2 e3
  by_cases h0 : n = 0
  · subst h0
    refine (ins_none a cap _ W).mono ?_
    rintro e w' ⟨rfl, rfl⟩
    have e1 : xs = [] := List.eq_nil_of_length_eq_zero hn.symm
    subst e1
    have e2 : sortK ([] : List ND) = [] := List.eq_nil_of_length_eq_zero (sortK_len [])
    exact ⟨rfl, by rw [e2]; exact ho, Below.refl _ _⟩
  · obtain ⟨g, rfl⟩ := hg (by omega)
    have hlt := ho.lt (g := g) rfl
    have eg : ∀ args w, (callFunc 39 args).run Tryd.prog w = .ok (.enter 39 args) w := enters_of Tryd.func39 (by kernel_rfl) rfl
    have hd : xs.toArray.toList = xs := by simp
    have hds : xs.toArray.size = n := by simp [hn]
    have hH := OwnF.holds (d := xs.toArray) flatN (by rw [hd]; exact ho) (by rw [hd]; exact hn)
    have hcon := AnyQ.insertionSortCmpFunc (P := Tryd.prog) (ρ := layN_ren) { layN with } 5 aggND sizeND ND.enc flatN.len flatN.one cmpK 39 #[] g 0 cap 0 n xs.toArray W eg (cmpK_lays _ _ _ _) hH hlt.2 (Nat.zero_le _) (by rw [hds]; exact Nat.le_refl _) (by rw [hds]; omega)
    rw [hds] at hcon
    change Calls Tryd.prog 75 _ _ _ at hcon
    refine hcon.mono ?_
    rintro e w' ⟨rfl, m, os, rfl⟩
    refine ⟨rfl, ?_, sortW_bel (Below.refl _ _) hlt.2 hlt.1⟩
    have e2 : sortK xs = (Sort.insertionSort (ltOf cmpK) xs.toArray 0 n).toList := by unfold sortK; rw [← hn]
    rw [e2]
    exact ho.sorted flatN hn m _ os (by have h1 := sortK_len xs; rw [e2] at h1; simpa using h1)
end Go.Proofs.YtjlbpmmckgjajaaDoor

/- Trees: Kids. -/
namespace Go.Proofs.YtjlbpmmckgjajaaDoor
open Go.RowKit Go.Lib Go.Maps
set_option linter.unusedVariables false

set_option maxHeartbeats 2000000 in
theorem stable_any {W : World} {base : Nat} {xs : List ND} {a : Option Addr} {n cap : Nat} (ho : OwnF 44 5 ND.enc W base (.slice a n cap) xs) (hl : xs.length ≤ 19) (hn : n = xs.length) (hb : base ≤ W.heap.size) :
    Calls Tryd.prog 57 #[.slice a n cap, .int .i64 (n : Int), .func (.func 39) #[] #[]] W (StPost W base (.slice a n cap) xs) := by
  have mixed : Tryd.prog.follows .mixedOrders = true := by kernel_rfl
  have C := Lib.hid (stab_any ho rfl hl hb)
  have hnl : n ≤ 19 := by omega
  have h1 : ¬ (20 : Int) ≤ (n : Int) := by omega
  have h2 : ¬ (20 : Int) < (n : Int) := by omega
  clear ho hl hn hb
  go_enter Tryd.func57, Tryd.ntmps57
  go_wp2
  refine wp_loop_rounds 1 ?_
  rw [rounds_succ]
  go_wp2_with fail
  refine (C.out).mono ?_
  rintro e w1 ⟨rfl, ho1, hb1⟩
  have HO1 := Lib.hid ho1
  have HB1 := Lib.hid hb1
  clear ho1 hb1 C
  go_wp2
  refine wp_loop_rounds 1 ?_
  rw [rounds_succ]
  go_wp2
  go_end0
  exact ⟨rfl, HO1.out, HB1.out⟩
set_option maxHeartbeats 1000000 in
theorem stableN_any {W : World} {base : Nat} {xs : List ND} {v : Value} (ho : OwnF 44 5 ND.enc W base v xs) (hl : xs.length ≤ 19) (hb : base ≤ W.heap.size) :
    Calls Tryd.prog 38 #[v, .func (.func 39) #[] #[]] W (StPost W base v xs) := by
  have mixed : Tryd.prog.follows .mixedOrders = true := by kernel_rfl
  obtain ⟨a, n, c, rfl, hn, -, -, -⟩ := ho.form flatN
  have C := Lib.hid (stable_any ho hl hn hb)
  clear ho hl hn hb
  go_enter Tryd.func38, Tryd.ntmps38
  go_wp2_with fail
  refine (C.out).mono ?_
  rintro e w1 ⟨rfl, ho1, hb1⟩
  have HO1 := Lib.hid ho1
  have HB1 := Lib.hid hb1
  clear ho1 hb1 C
  go_wp2
  go_end0
  exact ⟨rfl, HO1.out, HB1.out⟩
def CloneNPost (w : World) (xs : List ND) (e : Ending) (w' : World) : Prop := ∃ v, e = .returned v ∧ OwnF 44 5 ND.enc w' w.heap.size v xs ∧ Below w.heap.size w w'
set_option maxHeartbeats 1000000 in
set_option maxRecDepth 100000 in
theorem cloneN_any (a : Option Addr) (xs : List ND) (n c : Nat) (w : World) (hr : RowF 5 ND.enc w a xs) (hn : n = xs.length) (hl : xs.length ≤ 1000) : Calls Tryd.prog 36 #[.slice a n c] w (CloneNPost w xs) := by
  have mixed : Tryd.prog.follows .mixedOrders = true := by kernel_rfl
  cases a with
  | none =>
    have e1 : xs = [] := by
      cases xs with
      | nil => rfl
      | cons x r =>
        obtain ⟨b, off, e, -⟩ := hr 0 x rfl
        cases e
    subst e1
    have hnil : ∀ W, (binOp .eql 22 (.slice none n c) (.slice none 0 0)).run Tryd.prog W = .ok (.bool true) W := fun W => run_eql_slice_nil W 22 44 none n c Tryd.underlying22
    clear hr hn hl
    go_enter Tryd.func36, Tryd.ntmps36
    go_wp2
    go_ret
    exact ⟨_, rfl, OwnF.nil _ _, Below.refl _ _⟩
  | some p =>
    have hnil : ∀ W, (binOp .eql 22 (.slice (some p) n c) (.slice none 0 0)).run Tryd.prog W = .ok (.bool false) W := fun W => run_eql_slice_nil W 22 44 (some p) n c Tryd.underlying22
    have HB := Lib.hid (box_bel w (.cells #[] 44))
    have HR := Lib.hid (hr.next flatN HB.out)
    have HN := Lib.hid hn
    have HO : Hid (OwnF 44 5 ND.enc (w.alloc (.cells #[] 44)) w.heap.size (.slice (some ⟨w.heap.size, 0, none⟩) 0 0) []) := World.ownsRow_made w #[] 0 (Nat.le_refl _) (by unfold maxLen; omega) rfl
    have HLE : Hid ((([] : List ND).length + xs.length) * 48 ≤ 140737488355328) := by show _ ≤ _; simp only [List.length_nil]; omega
    clear hr hn hl
    go_enter Tryd.func36, Tryd.ntmps36
    go_wp2_with (at_builtin
                 refine wpF_row flatN rfl _ _ rfl w.heap.size (w.alloc (.cells #[] 44)) _ (World.grownBy.refl _ _) (.slice (some ⟨w.heap.size, 0, none⟩) 0 0) [] xs (some p) n c rfl HO.out rfl HN.out HR.out HLE.out HB.out.size ?_
                 intro v1 w1 hp1
                 have HP1 := Lib.hid hp1
                 clear hp1)
    go_ret
    exact ⟨_, rfl, HP1.out.own, HP1.out.bel HB.out (Nat.le_refl _) HB.out.size⟩
end Go.Proofs.YtjlbpmmckgjajaaDoor

/- Trees: Kids. -/
namespace Go.Proofs.YtjlbpmmckgjajaaDoor
open Go.RowKit Go.Lib Go.Maps
set_option linter.unusedVariables false

def KidsPost (W : World) (ns : List ND) (es : List ED) (s : Pl) (e : Ending) (w' : World) : Prop :=
  Below W.heap.size W w' ∧ ((¬ TreeP ns es ∧ e = .returned (.tuple #[.slice none 0 0, .int .i64 1])) ∨
   (TreeP ns es ∧ ∃ v, e = .returned (.tuple #[v, .int .i64 0]) ∧ OwnF 36 2 encP w' W.heap.size v ((sortK (ns.filter (keepB s))).map (·.id))))
set_option maxHeartbeats 4000000 in
set_option maxRecDepth 100000 in
theorem kids_any (na : Option Addr) (ns : List ND) (nn nc : Nat) (ma : Option Addr) (ys : List EV) (mn mc : Nat) (t r : Int) (W : World) (ht : Pr.Tab W) (h : TrR W na ns nn ma ys mn) (hl : ys.length ≤ 400) (hk : ns.length ≤ 19) :
    Calls Tryd.prog 13 #[valT na nn nc ma mn mc, .agg #[.int .i64 t, .int .i64 r]] W (KidsPost W ns (entsY ys) (t, r)) := by
  have mixed : Tryd.prog.follows .mixedOrders = true := by kernel_rfl
  obtain ⟨g, hg⟩ : ∃ g, W.heap.size = g := ⟨_, rfl⟩
  obtain ⟨es, hes⟩ : ∃ es, entsY ys = es := ⟨_, rfl⟩
  obtain ⟨W3, hW3⟩ : ∃ W3, (W.alloc (objT na nn nc ma mn mc)).alloc (.cells #[.int .i64 t, .int .i64 r] 36) = W3 := ⟨_, rfl⟩
  have HB3 : Hid (Below W.heap.size W W3) := by
    show Below _ _ _
    rw [← hW3]
    exact (box_bel W _).trans ((box_bel _ (.cells #[.int .i64 t, .int .i64 r] 36)).mono (by simp))
  have HS3 : Hid (W3.heap.size = g + 2) := by show _ = _; rw [← hW3]; simp [hg]
  have HT3 : Hid (Blk W3 g [.slice na nn nc, .slice ma mn mc]) := by
    show Blk _ _ _
    rw [← hW3, ← hg]
    exact (objT_new W na nn nc ma mn mc).next (box_bel _ _)
  have HP3 : Hid (PlAt W3 (g + 1) (t, r)) := by
    have h1 := stP_new (W.alloc (objT na nn nc ma mn mc)) t r
    rw [hW3, World.size_alloc, hg] at h1
    exact ⟨h1.cell 0 _ rfl, h1.cell 1 _ rfl⟩
  have HTR := Lib.hid (h.next HB3.out)
  have CG := Lib.hid (check_any na ns nn nc ma ys mn mc W3 (ht.below HB3.out ht.lt) HTR.out hl)
  rw [hes] at CG ⊢
  have HG := Lib.hid hg
  have HK := Lib.hid hk
  have t0 := HT3.out.cell 0 _ rfl
  have t1 := HT3.out.cell 1 _ rfl
  clear h ht hl hes hk
  go_enter Tryd.func13, Tryd.ntmps13
  go_wp2_with fail
  clear hW3 hg t0 t1
  refine (CG.out).mono ?_
  rintro e0 w1 ⟨hb1, hcase⟩
  have HB1 : Hid (Below W3.heap.size W3 w1) := hb1
  have HBW1 : Hid (Below W.heap.size W w1) := HB3.out.trans (hb1.mono HB3.out.size)
  clear hb1 CG
  rcases hcase with ⟨hT, rfl⟩ | ⟨hT, rfl⟩
  · have HTP := Lib.hid hT
    have t0 := (HT3.out.next HB1.out).cell 0 _ rfl
    have C1 := Lib.hid (cloneN_any na ns nn nc w1 (HTR.out.nr.next flatN HB1.out) HTR.out.nl (by have := HK.out; omega))
    clear hT
    go_wp2_with fail
    clear t0
    refine (C1.out).mono ?_
    rintro e0 w2 ⟨v2, rfl, ho2, hb2⟩
    obtain ⟨a2, n2, c2, rfl, -, -, -, -⟩ := ho2.form flatN
    have HB2 := Lib.hid hb2
    have HLT : Hid (g + 1 < w1.heap.size) := (HP3.out.next HB1.out).lt
    have C2 := Lib.hid (delN_any w1.heap.size a2 n2 c2 ns (g + 1) (t, r) w2 ho2 (by have := HK.out; omega) hb2.size ((HP3.out.next HB1.out).next hb2) HLT.out)
    clear ho2 hb2 C1
    go_wp2_with fail
    refine (C2.out).mono ?_
    rintro e0 w3 ⟨v3, rfl, ho3, hb3, -⟩
    have HB3b := Lib.hid hb3
    have HB13 : Hid (Below w1.heap.size w1 w3) := HB2.out.trans hb3
    have HFL : Hid ((ns.filter (keepB (t, r))).length ≤ 19) := Nat.le_trans (List.length_filter_le _ _) HK.out
    have C3 := Lib.hid (stableN_any ho3 HFL.out HB13.out.size)
    clear ho3 hb3 C2
    go_wp2_with fail
    refine (C3.out).mono ?_
    rintro e0 w4 ⟨rfl, ho4, hb4⟩
    have HB14 : Hid (Below w1.heap.size w1 w4) := HB13.out.trans hb4
    obtain ⟨a4, n4, c4, rfl, hn4, -, hr4, hg4⟩ := ho4.form flatN
    have HO4 := Lib.hid ho4
    have HN4 := Lib.hid hn4
    have HR4 := Lib.hid hr4
    have hnl : n4 ≤ 19 := by rw [hn4, sortK_len]; exact HFL.out
    obtain ⟨ks, hks⟩ : ∃ ks, sortK (ns.filter (keepB (t, r))) = ks := ⟨_, rfl⟩
    rw [hks] at HO4 HN4 HR4
    have HKS := Lib.hid hks
    clear ho4 hb4 C3 hn4 hr4 hg4 hks
    go_wp2
    go_loopg [8, 25] n4 (fun gg s8 s25 wr => ∃ k : Nat, s25 = .int .i64 k ∧ k ≤ n4 ∧ n4 - k ≤ gg ∧ Hid (OwnF 36 2 encP wr w4.heap.size s8 ((ks.take k).map (·.id))) ∧ Hid (Below w4.heap.size w4 wr))
    case atStart => exact ⟨0, rfl, Nat.zero_le _, by omega, OwnF.nil _ _, Below.refl _ _⟩
    case round =>
      obtain ⟨k, rfl, hk, hgk, HO, HB⟩ := hrel
      by_cases hin : k < n4
      · have hinz : (k : Int) < (n4 : Int) := by omega
        obtain ⟨x, hx⟩ : ∃ x, ks[k]? = some x := ⟨_, List.getElem?_eq_getElem (by rw [← HN4.out]; exact hin)⟩
        obtain ⟨b1, o1, rfl, hat⟩ := (HR4.out.next flatN HB.out) k x hx
        have HX := Lib.hid hx
        have e0 : wr.cell? ⟨b1, o1 + k * 5, none⟩ = some (.int .i64 x.id.1) := hat 0 _ rfl
        have e1 : wr.cell? ⟨b1, o1 + k * 5 + 1, none⟩ = some (.int .i64 x.id.2) := hat 1 _ rfl
        have e2 : wr.cell? ⟨b1, o1 + k * 5 + 2, none⟩ = some (.int .i64 x.par.1) := hat 2 _ rfl
        have e3 : wr.cell? ⟨b1, o1 + k * 5 + 3, none⟩ = some (.int .i64 x.par.2) := hat 3 _ rfl
        have e4 : wr.cell? ⟨b1, o1 + k * 5 + 4, none⟩ = some (.string x.key) := hat 4 _ rfl
        clear hx hat
        go_upto_region 10 with fail
        clear e0 e1 e2 e3 e4
        obtain ⟨w5, hw5⟩ : ∃ w5, wr.alloc (objN x) = w5 := ⟨_, rfl⟩
        have HB5 : Hid (Below w4.heap.size w4 w5) := by show Below _ _ _; rw [← hw5]; exact HB.out.trans ((box_bel wr _).mono HB.out.size)
        have HQ5 : Hid (Blk w5 wr.heap.size x.enc) := by show Blk _ _ _; rw [← hw5]; exact objN_new wr x
        have HO5 : Hid (OwnF 36 2 encP w5 w4.heap.size u8 ((ks.take k).map (·.id))) := by show OwnF _ _ _ _ _ _ _; rw [← hw5]; exact HO.out.below (box_bel wr _)
        rw [hw5]
        clear hw5
        obtain ⟨q, hq⟩ : ∃ q, wr.heap.size = q := ⟨_, rfl⟩
        rw [hq] at HQ5 ⊢
        clear hq
        have k0 := HQ5.out.cell 0 _ rfl
        have k1 := HQ5.out.cell 1 _ rfl
        have HLE : Hid ((((ks.take k).map (·.id)).length + [x.id].length) * 16 ≤ 140737488355328) := by
          show _ ≤ _
          rw [List.length_map, List.length_take, List.length_singleton]
          omega
        have HR6 : Hid (RowF 2 encP (w5.alloc (.cells #[.int .i64 x.id.1, .int .i64 x.id.2] 36)) (some ⟨w5.heap.size, 0, none⟩) [x.id]) := one_rowF w5 x.id _ rfl
        go_wp2_with (at_builtin
                     refine wpF_row flatP rfl _ _ rfl w4.heap.size w5 _ (World.grownBy_alloc w5 _ none) u8 ((ks.take k).map (·.id)) [x.id] (some ⟨w5.heap.size, 0, none⟩) 1 1 rfl HO5.out rfl rfl HR6.out (by exact HLE.out) HB5.out.size ?_
                     intro v6 w6 hp6
                     have HP6 := Lib.hid hp6
                     clear hp6)
        have HQ : Hid (OwnF 36 2 encP w6 w4.heap.size v6 ((ks.take (k + 1)).map (·.id))) := by
          show OwnF _ _ _ _ _ _ _
          rw [take_snoc HX.out, List.map_append]
          exact HP6.out.own
        have HB6 : Hid (Below w4.heap.size w4 w6) := HP6.out.bel HB5.out (Nat.le_refl _) HB5.out.size
        go_roundg (n4 - (k + 1))
        case measure => omega
        case rel => exact ⟨k + 1, by go_num, by omega, by omega, HQ, HB6⟩
      · obtain rfl : k = n4 := by omega
        have hinz : ¬ (k : Int) < (k : Int) := by omega
        have HF : Hid (OwnF 36 2 encP wr W.heap.size u8 (ks.map (·.id))) := by
          have h := HO.out
          rw [List.take_of_length_le (by have := HN4.out; omega)] at h
          exact h.mono (Nat.le_trans HBW1.out.size HB14.out.size)
        have HBE : Hid (Below W.heap.size W wr) := (HBW1.out.trans (HB14.out.mono HBW1.out.size)).trans (HB.out.mono (Nat.le_trans HBW1.out.size HB14.out.size))
        go_wp2
        go_ret2
        exact ⟨HBE.out, .inr ⟨HTP.out, _, rfl, by rw [HKS.out]; exact HF.out⟩⟩
  · have HTP := Lib.hid hT
    clear hT
    go_wp2
    go_ret2
    exact ⟨HBW1.out, .inl ⟨HTP.out, rfl⟩⟩
end Go.Proofs.YtjlbpmmckgjajaaDoor
