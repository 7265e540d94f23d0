/- What is left is handed out, a unit each. -/
import Derived.Test.YtekiknngiefkbaaU2
namespace Go.Proofs.Ytekiknngiefkbaa
open Go.Shelf Go.RowKit Go.Lib Go.Sort Go.Proofs

/-- is i among the places k ≤ t < l of the order? -/
def hit (ord : List Nat) (k l i : Nat) : Bool := (List.range l).any fun t => decide (k ≤ t) && (ord.getD t 0 == i)
theorem hit_iff (ord : List Nat) (k l i : Nat) : hit ord k l i = true ↔ ∃ t, k ≤ t ∧ t < l ∧ ord.getD t 0 = i := by
  unfold hit
  rw [List.any_eq_true]
  constructor
  · rintro ⟨t, h1, h2⟩
    rw [List.mem_range] at h1
    simp only [Bool.and_eq_true, decide_eq_true_eq, beq_iff_eq] at h2
    exact ⟨t, h2.1, h1, h2.2⟩
  · rintro ⟨t, h1, h2, h3⟩
    exact ⟨t, List.mem_range.2 h2, by simp only [Bool.and_eq_true, decide_eq_true_eq, beq_iff_eq]; exact ⟨h1, h3⟩⟩
theorem hit_none (ord : List Nat) (l i : Nat) : hit ord l l i = false := by
  rw [← Bool.not_eq_true, hit_iff]
  rintro ⟨t, h1, h2, _⟩
  omega

theorem OrdOk.length {rs : List Int} {ord : List Nat} (h : OrdOk rs ord) : ord.length = rs.length := by
  have := h.perm.length_eq
  rw [List.length_range] at this
  exact this
theorem OrdOk.lt {rs : List Int} {ord : List Nat} (h : OrdOk rs ord) {t : Nat} (ht : t < rs.length) : ord.getD t 0 < rs.length := by
  have hl : t < ord.length := by rw [h.length]; exact ht
  have : ord.getD t 0 ∈ ord := by
    rw [List.getD_eq_getElem?_getD, List.getElem?_eq_getElem hl, Option.getD_some]; exact List.getElem_mem hl
  exact List.mem_range.1 (h.perm.mem_iff.1 this)
theorem OrdOk.inj {rs : List Int} {ord : List Nat} (h : OrdOk rs ord) {s t : Nat} (hs : s < rs.length) (ht : t < rs.length) (e : ord.getD s 0 = ord.getD t 0) : s = t := by
  rcases Nat.lt_trichotomy s t with c | c | c
  · have := h.up s t c (by rw [h.length]; exact ht)
    rw [e] at this; omega
  · exact c
  · have := h.up t s c (by rw [h.length]; exact hs)
    rw [e] at this; omega
theorem hit_step (ord : List Nat) {k l : Nat} (hk : k < l) (i : Nat) : hit ord k l i = if ord.getD k 0 = i then true else hit ord (k + 1) l i := by
  by_cases c : ord.getD k 0 = i
  · rw [if_pos c, hit_iff]; exact ⟨k, Nat.le_refl _, hk, c⟩
  · rw [if_neg c, Bool.eq_iff_iff, hit_iff, hit_iff]
    constructor
    · rintro ⟨t, h1, h2, h3⟩
      refine ⟨t, ?_, h2, h3⟩
      by_cases e : t = k
      · subst e; exact absurd h3 c
      · omega
    · rintro ⟨t, h1, h2, h3⟩
      exact ⟨t, by omega, h2, h3⟩
theorem hit_self {rs : List Int} {ord : List Nat} (h : OrdOk rs ord) {k l : Nat} (hk : k < l) (hl : l ≤ rs.length) : hit ord (k + 1) l (ord.getD k 0) = false := by
  rw [← Bool.not_eq_true, hit_iff]
  rintro ⟨t, h1, h2, h3⟩
  have := h.inj (by omega) (by omega) h3
  omega

/-- what each has got when all units but k are handed out -/
def gotL (qs : List Int) (ord : List Nat) (k l i : Nat) : Int := qs.getD i 0 + if hit ord k l i then 1 else 0

def HandI (rs qs : List Int) (l gs sz : Nat) (w : World) (go : Nat) (ord : List Nat) (k : Nat) (w' : World) : Prop :=
  OrdOk rs ord ∧ gs ≠ go ∧ (∀ i, i < rs.length → w'.cell? ⟨go, i, none⟩ = some (.int .i64 (ord.getD i 0 : Nat))) ∧ (∃ cs, Bk w' gs cs ∧ cs.size = sz ∧ ∀ i, i < rs.length → cs[i]? = some (.int .i64 (gotL qs ord k l i))) ∧ Below gs w w' ∧ k ≤ l

theorem handI_step {rs qs : List Int} {l gs sz go k : Nat} {w w' : World} {ord : List Nat} (h : HandI rs qs l gs sz w go ord (k + 1) w') (hl : l ≤ rs.length) (hq : ∀ i, i < rs.length → 0 ≤ qs.getD i 0 ∧ qs.getD i 0 ≤ 1099511627776) :
    ∃ (x : Nat) (v : Int), x < rs.length ∧ 0 ≤ v ∧ v ≤ 1099511627777 ∧ w'.cell? ⟨go, k, none⟩ = some (.int .i64 (x : Int)) ∧ w'.cell? ⟨gs, x, none⟩ = some (.int .i64 v) ∧ w'.frozen? ⟨gs, x, none⟩ = false ∧ HandI rs qs l gs sz w go ord k (w'.setCell ⟨gs, x, none⟩ (.int .i64 (v + 1))) := by
  obtain ⟨ho, hne, hc, ⟨cs, hB, hcs, hv⟩, hb, hkl⟩ := h
  have hx := ho.lt (t := k) (by omega)
  have hvx := hv _ hx
  have hb0 := hq _ hx
  refine ⟨ord.getD k 0, gotL qs ord (k + 1) l (ord.getD k 0), hx, ?_, ?_, hc k (by omega), (hB.cell _).trans hvx, hB.frozen _, ho, hne, ?_, ⟨_, hB.set_ _ _, by simpa using hcs, ?_⟩, hb.setCell (Nat.le_refl _) _, by omega⟩
  · unfold gotL; split <;> omega
  · unfold gotL; split <;> omega
  · intro i hi
    rw [World.cell?_setCell_other _ _ _ _ (by intro e; simp only [Addr.mk.injEq] at e; exact hne e.1)]
    exact hc i hi
  · intro i hi
    have hsz : i < cs.size := by
      have := hv i hi
      rcases Nat.lt_or_ge i cs.size with h | h
      · exact h
      · rw [Array.getElem?_eq_none h] at this; cases this
    rw [Array.getElem?_setIfInBounds]
    by_cases e : ord.getD k 0 = i
    · rw [if_pos e, if_pos (by rw [e]; exact hsz)]
      subst e
      unfold gotL
      rw [hit_self ho (by omega) hl, hit_step ord (by omega), if_pos rfl]
      simp
    · rw [if_neg e, hv i hi]
      unfold gotL
      rw [hit_step ord (show k < l by omega), if_neg e]

def HandJ (sh re : Value) (n : Nat) (I : Nat → List Nat → Nat → World → Prop) (a' : Act) (w' : World) : Prop :=
  ∃ (go : Nat) (ord : List Nat) (k : Nat) (u7 u8 u9 u10 u11 u12 u13 u14 u15 u16 u17 u18 u19 u20 u21 : Value), a' = { tmps := #[sh, re, .int .i64 (k : Int), undef, undef, undef, .slice (some ⟨go, 0, none⟩) n n, u7, u8, u9, u10, u11, u12, u13, u14, u15, u16, u17, u18, u19, u20, u21], defers := [] } ∧ I go ord k w'

def HandPost (rs qs : List Int) (l gs sz : Nat) (w : World) (e : Ending) (w' : World) : Prop := e = .returned (.tuple #[]) ∧ ∃ ord, OrdOk rs ord ∧ (∃ cs, Bk w' gs cs ∧ cs.size = sz ∧ ∀ i, i < rs.length → cs[i]? = some (.int .i64 (gotL qs ord 0 l i))) ∧ Below gs w w'

set_option maxHeartbeats 1000000 in
set_option maxRecDepth 100000 in
theorem handOut_any (gs cp br ro cr : Nat) (rs qs : List Int) (cs : Array Value) (l sz : Nat) (zl : Int) (w : World) (hzl : zl = l) (h0 : 0 < rs.length) (h256 : rs.length ≤ 256) (hl : l ≤ rs.length)
    (hrow : ∀ i, i < rs.length → w.cell? ⟨br, ro + i, none⟩ = some (.int .i64 (rs.getD i 0))) (hB : Bk w gs cs) (hcs : cs.size = sz) (hv : ∀ i, i < rs.length → cs[i]? = some (.int .i64 (qs.getD i 0))) (hq : ∀ i, i < rs.length → 0 ≤ qs.getD i 0 ∧ qs.getD i 0 ≤ 1099511627776) :
    Calls Try.prog 17 #[.slice (some ⟨gs, 0, none⟩) rs.length cp, .slice (some ⟨br, ro, none⟩) rs.length cr, .int .i64 zl] w (HandPost rs qs l gs sz w) := by
  subst hzl
  have H := Lib.hid (byRests_any br ro cr rs w h0 h256 hrow)
  have HQ := Lib.hid hq
  have HV := Lib.hid (show ∀ w1, Below w.heap.size w w1 → ∀ go ord, OrdOk rs ord → w.heap.size ≤ go → (∀ i, i < rs.length → w1.cell? ⟨go, i, none⟩ = some (.int .i64 (ord.getD i 0 : Nat))) → HandI rs qs l gs sz w go ord l w1 from by
    intro w1 hb go ord ho hgo hc
    have hlt := hB.lt
    refine ⟨ho, by omega, hc, ⟨cs, (hb.block gs hlt).trans hB, hcs, fun i hi => ?_⟩, hb.mono (by omega), Nat.le_refl _⟩
    rw [hv i hi]; unfold gotL; rw [hit_none]; simp)
  have HE := Lib.hid (show ∀ go ord w1, HandI rs qs l gs sz w go ord 0 w1 → HandPost rs qs l gs sz w (.returned (.tuple #[])) w1 from fun go ord w1 h => ⟨rfl, ord, h.1, h.2.2.2.1, h.2.2.2.2.1⟩)
  clear hrow hB hcs hv hq
  obtain ⟨n, hn⟩ : ∃ n, n = rs.length := ⟨_, rfl⟩
  have HN := Lib.hid hn
  have HL : Hid (l ≤ rs.length) := hl
  rw [← hn] at h0 h256 hl H ⊢
  have hb1 : n ≤ 256 := h256
  clear hn
  go_enter Try.func17, Try.ntmps17
  refine wp_scope_jumps 0 (HandJ (.slice (some ⟨gs, 0, none⟩) n cp) (.slice (some ⟨br, ro, none⟩) n cr) n (HandI rs qs l gs sz w)) (fun a' _ => (intOf (a'.tmps.getD 2 undef)).toNat) rfl ?_ ?_
  · go_wp2_with fail
    refine (H.out).mono ?_
    rintro e w1 ⟨go, ord, rfl, ho, hc, hgo, hlt, hbl⟩
    have HI := Lib.hid (HV.out w1 hbl go ord ho hgo hc)
    clear ho hc hgo hlt hbl HV H
    rw [← HN.out]
    by_cases hl0 : l = 0
    · have HZ := Lib.hid (HE.out go ord w1 (by have := HI.out; rw [hl0] at this ⊢; exact this))
      have hlz : ¬ (0 : Int) < (l : Int) := by omega
      have HL0 := Lib.hid hl0
      clear hl0
      go_wp2_with fail
      go_step3
      go_wp2
      simp only [Exit.jump]
      go_end0
      exact HZ.out
    · obtain ⟨j, hj⟩ : ∃ j, l = j + 1 := ⟨l - 1, by omega⟩
      have hI2 : HandI rs qs l gs sz w go ord (j + 1) w1 := by have := HI.out; rw [← hj]; exact this
      obtain ⟨x, v, hxn, hv0, hv1, c1, c2, f2, hI3⟩ := handI_step hI2 HL.out HQ.out
      have HI3 := Lib.hid hI3
      rw [← HN.out] at hxn
      have hxz : (x : Int) < (n : Int) := by omega
      have hjz : (j : Int) < (n : Int) := by omega
      have hlz : (l : Int) = (j : Int) + 1 := by omega
      have hlp : (0 : Int) < (j : Int) + 1 := by omega
      clear hI2 hI3 hl0 HI hj
      go_wp2_with fail
      go_step3
      go_wp2
      go_step3
      exact ⟨rfl, go, ord, j, _, _, _, _, _, _, _, _, _, _, _, _, _, _, _, rfl, HI3.out⟩
  · rintro a' w' ⟨go, ord, k, u7, u8, u9, u10, u11, u12, u13, u14, u15, u16, u17, u18, u19, u20, u21, rfl, hI⟩
    have HI := Lib.hid hI
    have hkl : k ≤ l := hI.2.2.2.2.2
    clear hI
    by_cases hk0 : k = 0
    · subst hk0
      have HZ := Lib.hid (HE.out go ord w' HI.out)
      go_wp2
      simp only [Exit.jump]
      go_end0
      exact HZ.out
    · obtain ⟨j, rfl⟩ : ∃ j, k = j + 1 := ⟨k - 1, by omega⟩
      obtain ⟨x, v, hxn, hv0, hv1, c1, c2, f2, hI3⟩ := handI_step HI.out HL.out HQ.out
      have HI3 := Lib.hid hI3
      rw [← HN.out] at hxn
      have hxz : (x : Int) < (n : Int) := by omega
      have hjz : (j : Int) < (n : Int) := by omega
      have hlp : (0 : Int) < (j : Int) + 1 := by omega
      clear hI3 HI hk0
      go_wp2
      go_step3
      refine ⟨rfl, ⟨go, ord, j, _, _, _, _, _, _, _, _, _, _, _, _, _, _, _, rfl, HI3.out⟩, ?_⟩
      simp [intOf]
end Go.Proofs.Ytekiknngiefkbaa
