/- Two rows, element by element: goto. -/
import Derived.Test.YtponpbcchfbkpaaH3
namespace Go.Proofs.Ytponpbcchfbkpaa
open Go.RowKit Go.Lib
set_option linter.unusedVariables false

def RowsPost (w : World) (zs : List Int) (e : Ending) (w' : World) : Prop := ∃ v, e = .returned v ∧ OwnK .i64 3 w' w.heap.size v zs ∧ Below w.heap.size w w'
def joinL (l m : List Int) : List Int := List.zipWith max l m
def lackL (l m : List Int) : List Int := List.zipWith (fun x y => max 0 (y - x)) l m
theorem zip_len (f : Int → Int → Int) {l m : List Int} (h : l.length = m.length) : (List.zipWith f l m).length = l.length := by rw [List.length_zipWith]; omega
theorem zip_at (f : Int → Int → Int) {l m : List Int} {k : Nat} (h1 : k < l.length) (h2 : k < m.length) : (List.zipWith f l m).getD k 0 = f (l.getD k 0) (m.getD k 0) := by
  simp only [List.getD_eq_getElem?_getD]
  rw [List.getElem?_eq_getElem (by rw [List.length_zipWith]; omega), List.getElem?_eq_getElem h1, List.getElem?_eq_getElem h2, List.getElem_zipWith]
  rfl

def PwI (zs : List Int) (w w' : World) (v : Option Addr) (k c7 : Nat) : Prop := OwnK .i64 3 w' w.heap.size (.slice v k c7) (zs.take k) ∧ Below w.heap.size w w'
theorem pw_end {zs : List Int} {w w' : World} {v : Option Addr} {k c7 n : Nat} (hk : k = n) (hn : n = zs.length) (h : PwI zs w w' v k c7) : RowsPost w zs (.returned (.slice v k c7)) w' := by
  obtain ⟨h1, h2⟩ := h
  rw [List.take_of_length_le (by omega)] at h1
  exact ⟨_, rfl, h1, h2⟩
theorem pw_next {zs : List Int} {w w' w2 : World} {v : Option Addr} {k c7 : Nat} {v2 : Value} (hk : k < zs.length) (h : PwI zs w w' v k c7) (hg : Grew .i64 3 w.heap.size w' (.slice v k c7) (zs.take k) [zs.getD k 0] v2 w2) : ∃ v' c', v2 = .slice v' (k + 1) c' ∧ PwI zs w w2 v' (k + 1) c' := by
  obtain ⟨h1, h2⟩ := h
  have ho := hg.own
  rw [← take_getD zs k hk] at ho
  obtain ⟨a, c, e, hr, hc, _⟩ := ho.form
  have hl : (zs.take (k + 1)).length = k + 1 := by rw [List.length_take]; omega
  rw [hl] at e
  subst e
  exact ⟨a, c, rfl, ho, hg.bel _ _ h2 (Nat.le_refl _) h2.size⟩

set_option maxHeartbeats 400000 in
theorem stepI_one {ops : Array Oper} {o : Oper} {a : Act} {K : Act → World → Prop} {Q : Exit → Act → World → Prop} {E : Prop} (hgd : o.guard = none) (s x : Operand)
    (ho : o.op = .call { callee := .builtin .append, args := #[s, x], argTypes := #[23, 23] }) (base : Nat) (W : World) (v : Value) (zs : List Int) (z : Int) (hs : a.eval s = v) (hown : OwnK .i64 3 W base v zs)
    (hx : a.eval x = .slice (some ⟨W.heap.size, 0, none⟩) 1 1) (hlen : (zs.length + 1) * 8 ≤ 140737488355328) (hbase : base ≤ W.heap.size)
    (h : ∀ v' w', Grew .i64 3 base W v zs [z] v' w' → K (a.put o.dst v') w') : if Region.wanted o (yielded ops a.tmps) = true then Oper.wp Try.prog o a (W.alloc (.cells #[.int .i64 z] 3)) K Q else E := by
  have hw : Region.wanted o (yielded ops a.tmps) = true := by simp [Region.wanted, hgd]
  rw [if_pos hw]
  obtain ⟨v', w', hr, hg⟩ := run_row (t := 23) (ty := o.type) (bytes := 8) (fun _ => rfl) Try.underlying23 Try.info3 base W _ v zs [z] _ 1 1 ((Below.refl W.heap.size W).alloc (Nat.le_refl _) _) rfl hown (one_row .i64 3 W z) (by simpa using hlen) (by simp; omega) hbase
  unfold Oper.wp execOp
  simp only [ho, resolve, invoke, builtin, Sem.run_bind, Sem.run_pure, Result.andThen_ok, List.map_toArray, List.map_cons, List.map_nil, hs, hx, hr]
  exact h v' w' hg

def PwJ28 (zs : List Int) (w : World) (a b : Option Addr) (n ca cb : Nat) (act : Act) (w' : World) : Prop :=
  ∃ (v : Option Addr) (k c7 : Nat) (u3 u4 u5 u6 u8 u9 u10 u11 u12 u13 u14 u15 u16 u17 u18 u19 u20 u21 u22 u23 u24 u25 u26 u27 u28 : Value), act = { tmps := #[.slice a n ca, .slice b n cb, .func (.func 28) #[] #[], u3, u4, u5, u6, .slice v k c7, u8, u9, u10, u11, u12, u13, u14, u15, u16, u17, u18, u19, u20, u21, u22, u23, u24, u25, u26, u27, u28], defers := [] } ∧ k ≤ n ∧ PwI zs w w' v k c7
def PwF28 (zs l m : List Int) : Prop := ∀ k, k < l.length → ∀ W, Calls Try.prog 28 #[.int .i64 (l.getD k 0), .int .i64 (m.getD k 0)] W fun e w' => e = .returned (.int .i64 (zs.getD k 0)) ∧ W = w'

set_option maxHeartbeats 4000000 in
set_option maxRecDepth 100000 in
theorem pairwise_larger (a b : Option Addr) (l m zs : List Int) (n ca cb : Nat) (w : World) (ha : RowK .i64 w a l) (hb : RowK .i64 w b m) (hna : n = l.length) (hnb : n = m.length) (hz : n = zs.length) (hl : n ≤ 16) (hf : PwF28 zs l m) :
    Calls Try.prog 27 #[.slice a n ca, .slice b n cb, .func (.func 28) #[] #[]] w (RowsPost w zs) := by
  have mixed : Try.prog.follows .mixedOrders = true := by kernel_rfl
  have HA := Lib.hid ha
  have HB := Lib.hid hb
  have HNA := Lib.hid hna
  have HNB := Lib.hid hnb
  have HZ := Lib.hid hz
  have HF := Lib.hid hf
  clear ha hb hna hnb hz hf
  have HI0 : Hid (PwI zs w w none 0 0) := ⟨OwnK.nil _ _ _ _, Below.refl _ _⟩
  go_enter Try.func27, Try.ntmps27
  go_wp2
  refine wp_scope_jumps 0 (PwJ28 zs w a b n ca cb) (fun a' _ => n - lenOfS (a'.tmps.getD 7 undef)) rfl ?_ ?_
  · by_cases hk : 0 = n
    · have HE := Lib.hid (pw_end hk HZ.out HI0.out)
      subst hk
      go_wp2_with fail
      go_step3
      go_wp2
      simp only [Exit.jump]
      go_ret
      exact HE.out
    · have hkl : 0 < n := by omega
      have hk1 : ¬ ((0 : Nat) : Int) = (n : Int) := by omega
      have hk2 : (((0 : Nat) : Int) == (n : Int)) = false := beq_eq_false_iff_ne.2 hk1
      have hk3 : (0 == n) = false := beq_eq_false_iff_ne.2 hk
      have hk4 : ((0 : Int) == (n : Int)) = false := beq_eq_false_iff_ne.2 (by omega)
      have hk5 : ((0 : Nat) : Int) < (n : Int) := by omega
      obtain ⟨b1, o1, rfl, hc1⟩ := HA.out 0 (by have := HNA.out; omega)
      obtain ⟨b2, o2, rfl, hc2⟩ := HB.out 0 (by have := HNB.out; omega)
      have hp1 := World.block_lt_of_cell? _ _ hc1
      have hp2 := World.block_lt_of_cell? _ _ hc2
      have HC := Lib.hid (HF.out 0 (by have := HNA.out; omega))
      have HQ := Lib.hid (fun (v2 : Value) (w2 : World) => pw_next (zs := zs) (w := w) (w' := w.drew) (w2 := w2) (v := none) (k := 0) (c7 := 0) (v2 := v2) (by have := HZ.out; omega) ⟨HI0.out.1, HI0.out.2.drew⟩)
      have hsz : w.heap.size ≤ w.heap.size := HI0.out.2.size
      have hd3 : w.cell? ⟨b1, o1, none⟩ = some (.int .i64 (l.getD 0 0)) := (HI0.out.2.cell (p := ⟨b1, o1 + 0, none⟩) hp1).trans hc1
      have hd4 : w.cell? ⟨b2, o2, none⟩ = some (.int .i64 (m.getD 0 0)) := (HI0.out.2.cell (p := ⟨b2, o2 + 0, none⟩) hp2).trans hc2
      have hd1 : w.drew.cell? ⟨b1, o1, none⟩ = some (.int .i64 (l.getD 0 0)) := hd3
      have hd2 : w.drew.cell? ⟨b2, o2, none⟩ = some (.int .i64 (m.getD 0 0)) := hd4
      have hd5 : (w.alloc (.cells #[.int .i64 (zs.getD 0 0)] 3)).drew.cell? ⟨b1, o1, none⟩ = some (.int .i64 (l.getD 0 0)) := (((Below.refl w.heap.size w).alloc (Nat.le_refl _) (.cells #[.int .i64 (zs.getD 0 0)] 3)).cell (p := ⟨b1, o1 + 0, none⟩) (Nat.lt_of_lt_of_le hp1 hsz)).trans hd3
      have hd6 : (w.alloc (.cells #[.int .i64 (zs.getD 0 0)] 3)).drew.cell? ⟨b2, o2, none⟩ = some (.int .i64 (m.getD 0 0)) := (((Below.refl w.heap.size w).alloc (Nat.le_refl _) (.cells #[.int .i64 (zs.getD 0 0)] 3)).cell (p := ⟨b2, o2 + 0, none⟩) (Nat.lt_of_lt_of_le hp2 hsz)).trans hd4
      have HK : Hid (∀ w2, Below w.heap.size w w2 → w2.cell? ⟨b1, o1, none⟩ = some (.int .i64 (l.getD 0 0)) ∧ w2.cell? ⟨b2, o2, none⟩ = some (.int .i64 (m.getD 0 0))) := fun w2 hB => ⟨(hB.cell (p := ⟨b1, o1 + 0, none⟩) hp1).trans hc1, (hB.cell (p := ⟨b2, o2 + 0, none⟩) hp2).trans hc2⟩
      clear hc1 hc2 hp1 hp2
      generalize l.getD 0 0 = x at *
      generalize m.getD 0 0 = y at *
      generalize zs.getD 0 0 = z at *
      go_wp2_with fail
      go_step3
      go_wp2_with fail
      go_region_held3 (fun W => W.cell? ⟨b1, o1, none⟩ = some (.int .i64 x) ∧ W.cell? ⟨b2, o2, none⟩ = some (.int .i64 y)) (first | exact ⟨by assumption, by assumption⟩) (first
        | (go_at_call 28
           refine (HC.out _).mono ?_
           rintro e w8 ⟨rfl, rfl⟩)
        | (refine stepI_one (by rfl) _ _ (by rfl) w.heap.size w.drew (.slice none 0 0) (zs.take 0) z (by rfl) HI0.out.1 (by rfl) (by rw [List.length_take]; omega) hsz ?_
           intro v2 w2 hp2
           obtain ⟨v3, c3, rfl, HQ2⟩ := HQ.out v2 w2 hp2
           have HQ2 := Lib.hid HQ2
           obtain ⟨r1, r2⟩ := HK.out _ HQ2.out.2
           clear hp2))
      go_wp2_with fail
      go_step3
      exact ⟨rfl, _, _, _, _, _, _, _, _, _, _, _, _, _, _, _, _, _, _, _, _, _, _, _, _, _, _, _, _, rfl, by omega, HQ2.out⟩
  · rintro a' w' ⟨v, k, c7, u3, u4, u5, u6, u8, u9, u10, u11, u12, u13, u14, u15, u16, u17, u18, u19, u20, u21, u22, u23, u24, u25, u26, u27, u28, rfl, hkn, hI⟩
    have HI := Lib.hid hI
    clear hI HI0
    by_cases hk : k = n
    · have HE := Lib.hid (pw_end hk HZ.out HI.out)
      subst hk
      go_wp2
      simp only [Exit.jump]
      go_ret
      exact HE.out
    · have hkl : k < n := by omega
      have hk1 : ¬ ((k : Nat) : Int) = (n : Int) := by omega
      have hk2 : (((k : Nat) : Int) == (n : Int)) = false := beq_eq_false_iff_ne.2 hk1
      have hk3 : (k == n) = false := beq_eq_false_iff_ne.2 hk

      have hk5 : ((k : Nat) : Int) < (n : Int) := by omega
      obtain ⟨b1, o1, rfl, hc1⟩ := HA.out k (by have := HNA.out; omega)
      obtain ⟨b2, o2, rfl, hc2⟩ := HB.out k (by have := HNB.out; omega)
      have hp1 := World.block_lt_of_cell? _ _ hc1
      have hp2 := World.block_lt_of_cell? _ _ hc2
      have HC := Lib.hid (HF.out k (by have := HNA.out; omega))
      have HQ := Lib.hid (fun (v2 : Value) (w2 : World) => pw_next (zs := zs) (w := w) (w' := w'.drew) (w2 := w2) (v := v) (k := k) (c7 := c7) (v2 := v2) (by have := HZ.out; omega) ⟨HI.out.1, HI.out.2.drew⟩)
      have hsz : w.heap.size ≤ w'.heap.size := HI.out.2.size
      have hd3 : w'.cell? ⟨b1, o1 + k, none⟩ = some (.int .i64 (l.getD k 0)) := (HI.out.2.cell (p := ⟨b1, o1 + k, none⟩) hp1).trans hc1
      have hd4 : w'.cell? ⟨b2, o2 + k, none⟩ = some (.int .i64 (m.getD k 0)) := (HI.out.2.cell (p := ⟨b2, o2 + k, none⟩) hp2).trans hc2
      have hd1 : w'.drew.cell? ⟨b1, o1 + k, none⟩ = some (.int .i64 (l.getD k 0)) := hd3
      have hd2 : w'.drew.cell? ⟨b2, o2 + k, none⟩ = some (.int .i64 (m.getD k 0)) := hd4
      have hd5 : (w'.alloc (.cells #[.int .i64 (zs.getD k 0)] 3)).drew.cell? ⟨b1, o1 + k, none⟩ = some (.int .i64 (l.getD k 0)) := (((Below.refl w'.heap.size w').alloc (Nat.le_refl _) (.cells #[.int .i64 (zs.getD k 0)] 3)).cell (p := ⟨b1, o1 + k, none⟩) (Nat.lt_of_lt_of_le hp1 hsz)).trans hd3
      have hd6 : (w'.alloc (.cells #[.int .i64 (zs.getD k 0)] 3)).drew.cell? ⟨b2, o2 + k, none⟩ = some (.int .i64 (m.getD k 0)) := (((Below.refl w'.heap.size w').alloc (Nat.le_refl _) (.cells #[.int .i64 (zs.getD k 0)] 3)).cell (p := ⟨b2, o2 + k, none⟩) (Nat.lt_of_lt_of_le hp2 hsz)).trans hd4
      have HK : Hid (∀ w2, Below w.heap.size w w2 → w2.cell? ⟨b1, o1 + k, none⟩ = some (.int .i64 (l.getD k 0)) ∧ w2.cell? ⟨b2, o2 + k, none⟩ = some (.int .i64 (m.getD k 0))) := fun w2 hB => ⟨(hB.cell (p := ⟨b1, o1 + k, none⟩) hp1).trans hc1, (hB.cell (p := ⟨b2, o2 + k, none⟩) hp2).trans hc2⟩
      clear hc1 hc2 hp1 hp2
      generalize l.getD k 0 = x at *
      generalize m.getD k 0 = y at *
      generalize zs.getD k 0 = z at *
      go_wp2_with fail
      go_region_held3 (fun W => W.cell? ⟨b1, o1 + k, none⟩ = some (.int .i64 x) ∧ W.cell? ⟨b2, o2 + k, none⟩ = some (.int .i64 y)) (first | exact ⟨by assumption, by assumption⟩) (first
        | (go_at_call 28
           refine (HC.out _).mono ?_
           rintro e w8 ⟨rfl, rfl⟩)
        | (refine stepI_one (by rfl) _ _ (by rfl) w.heap.size w'.drew (.slice v k c7) (zs.take k) z (by rfl) HI.out.1 (by rfl) (by rw [List.length_take]; omega) hsz ?_
           intro v2 w2 hp2
           obtain ⟨v3, c3, rfl, HQ2⟩ := HQ.out v2 w2 hp2
           have HQ2 := Lib.hid HQ2
           obtain ⟨r1, r2⟩ := HK.out _ HQ2.out.2
           clear hp2))
      go_wp2_with fail
      go_step3
      refine ⟨rfl, ⟨_, _, _, _, _, _, _, _, _, _, _, _, _, _, _, _, _, _, _, _, _, _, _, _, _, _, _, _, rfl, by omega, HQ2.out⟩, ?_⟩
      simp [lenOfS]
      omega

def PwJ29 (zs : List Int) (w : World) (a b : Option Addr) (n ca cb : Nat) (act : Act) (w' : World) : Prop :=
  ∃ (v : Option Addr) (k c7 : Nat) (u3 u4 u5 u6 u8 u9 u10 u11 u12 u13 u14 u15 u16 u17 u18 u19 u20 u21 u22 u23 u24 u25 u26 u27 u28 : Value), act = { tmps := #[.slice a n ca, .slice b n cb, .func (.func 29) #[] #[], u3, u4, u5, u6, .slice v k c7, u8, u9, u10, u11, u12, u13, u14, u15, u16, u17, u18, u19, u20, u21, u22, u23, u24, u25, u26, u27, u28], defers := [] } ∧ k ≤ n ∧ PwI zs w w' v k c7
def PwF29 (zs l m : List Int) : Prop := ∀ k, k < l.length → ∀ W, Calls Try.prog 29 #[.int .i64 (l.getD k 0), .int .i64 (m.getD k 0)] W fun e w' => e = .returned (.int .i64 (zs.getD k 0)) ∧ W = w'

set_option maxHeartbeats 4000000 in
set_option maxRecDepth 100000 in
theorem pairwise_behind (a b : Option Addr) (l m zs : List Int) (n ca cb : Nat) (w : World) (ha : RowK .i64 w a l) (hb : RowK .i64 w b m) (hna : n = l.length) (hnb : n = m.length) (hz : n = zs.length) (hl : n ≤ 16) (hf : PwF29 zs l m) :
    Calls Try.prog 27 #[.slice a n ca, .slice b n cb, .func (.func 29) #[] #[]] w (RowsPost w zs) := by
  have mixed : Try.prog.follows .mixedOrders = true := by kernel_rfl
  have HA := Lib.hid ha
  have HB := Lib.hid hb
  have HNA := Lib.hid hna
  have HNB := Lib.hid hnb
  have HZ := Lib.hid hz
  have HF := Lib.hid hf
  clear ha hb hna hnb hz hf
  have HI0 : Hid (PwI zs w w none 0 0) := ⟨OwnK.nil _ _ _ _, Below.refl _ _⟩
  go_enter Try.func27, Try.ntmps27
  go_wp2
  refine wp_scope_jumps 0 (PwJ29 zs w a b n ca cb) (fun a' _ => n - lenOfS (a'.tmps.getD 7 undef)) rfl ?_ ?_
  · by_cases hk : 0 = n
    · have HE := Lib.hid (pw_end hk HZ.out HI0.out)
      subst hk
      go_wp2_with fail
      go_step3
      go_wp2
      simp only [Exit.jump]
      go_ret
      exact HE.out
    · have hkl : 0 < n := by omega
      have hk1 : ¬ ((0 : Nat) : Int) = (n : Int) := by omega
      have hk2 : (((0 : Nat) : Int) == (n : Int)) = false := beq_eq_false_iff_ne.2 hk1
      have hk3 : (0 == n) = false := beq_eq_false_iff_ne.2 hk
      have hk4 : ((0 : Int) == (n : Int)) = false := beq_eq_false_iff_ne.2 (by omega)
      have hk5 : ((0 : Nat) : Int) < (n : Int) := by omega
      obtain ⟨b1, o1, rfl, hc1⟩ := HA.out 0 (by have := HNA.out; omega)
      obtain ⟨b2, o2, rfl, hc2⟩ := HB.out 0 (by have := HNB.out; omega)
      have hp1 := World.block_lt_of_cell? _ _ hc1
      have hp2 := World.block_lt_of_cell? _ _ hc2
      have HC := Lib.hid (HF.out 0 (by have := HNA.out; omega))
      have HQ := Lib.hid (fun (v2 : Value) (w2 : World) => pw_next (zs := zs) (w := w) (w' := w.drew) (w2 := w2) (v := none) (k := 0) (c7 := 0) (v2 := v2) (by have := HZ.out; omega) ⟨HI0.out.1, HI0.out.2.drew⟩)
      have hsz : w.heap.size ≤ w.heap.size := HI0.out.2.size
      have hd3 : w.cell? ⟨b1, o1, none⟩ = some (.int .i64 (l.getD 0 0)) := (HI0.out.2.cell (p := ⟨b1, o1 + 0, none⟩) hp1).trans hc1
      have hd4 : w.cell? ⟨b2, o2, none⟩ = some (.int .i64 (m.getD 0 0)) := (HI0.out.2.cell (p := ⟨b2, o2 + 0, none⟩) hp2).trans hc2
      have hd1 : w.drew.cell? ⟨b1, o1, none⟩ = some (.int .i64 (l.getD 0 0)) := hd3
      have hd2 : w.drew.cell? ⟨b2, o2, none⟩ = some (.int .i64 (m.getD 0 0)) := hd4
      have hd5 : (w.alloc (.cells #[.int .i64 (zs.getD 0 0)] 3)).drew.cell? ⟨b1, o1, none⟩ = some (.int .i64 (l.getD 0 0)) := (((Below.refl w.heap.size w).alloc (Nat.le_refl _) (.cells #[.int .i64 (zs.getD 0 0)] 3)).cell (p := ⟨b1, o1 + 0, none⟩) (Nat.lt_of_lt_of_le hp1 hsz)).trans hd3
      have hd6 : (w.alloc (.cells #[.int .i64 (zs.getD 0 0)] 3)).drew.cell? ⟨b2, o2, none⟩ = some (.int .i64 (m.getD 0 0)) := (((Below.refl w.heap.size w).alloc (Nat.le_refl _) (.cells #[.int .i64 (zs.getD 0 0)] 3)).cell (p := ⟨b2, o2 + 0, none⟩) (Nat.lt_of_lt_of_le hp2 hsz)).trans hd4
      have HK : Hid (∀ w2, Below w.heap.size w w2 → w2.cell? ⟨b1, o1, none⟩ = some (.int .i64 (l.getD 0 0)) ∧ w2.cell? ⟨b2, o2, none⟩ = some (.int .i64 (m.getD 0 0))) := fun w2 hB => ⟨(hB.cell (p := ⟨b1, o1 + 0, none⟩) hp1).trans hc1, (hB.cell (p := ⟨b2, o2 + 0, none⟩) hp2).trans hc2⟩
      clear hc1 hc2 hp1 hp2
      generalize l.getD 0 0 = x at *
      generalize m.getD 0 0 = y at *
      generalize zs.getD 0 0 = z at *
      go_wp2_with fail
      go_step3
      go_wp2_with fail
      go_region_held3 (fun W => W.cell? ⟨b1, o1, none⟩ = some (.int .i64 x) ∧ W.cell? ⟨b2, o2, none⟩ = some (.int .i64 y)) (first | exact ⟨by assumption, by assumption⟩) (first
        | (go_at_call 29
           refine (HC.out _).mono ?_
           rintro e w8 ⟨rfl, rfl⟩)
        | (refine stepI_one (by rfl) _ _ (by rfl) w.heap.size w.drew (.slice none 0 0) (zs.take 0) z (by rfl) HI0.out.1 (by rfl) (by rw [List.length_take]; omega) hsz ?_
           intro v2 w2 hp2
           obtain ⟨v3, c3, rfl, HQ2⟩ := HQ.out v2 w2 hp2
           have HQ2 := Lib.hid HQ2
           obtain ⟨r1, r2⟩ := HK.out _ HQ2.out.2
           clear hp2))
      go_wp2_with fail
      go_step3
      exact ⟨rfl, _, _, _, _, _, _, _, _, _, _, _, _, _, _, _, _, _, _, _, _, _, _, _, _, _, _, _, _, rfl, by omega, HQ2.out⟩
  · rintro a' w' ⟨v, k, c7, u3, u4, u5, u6, u8, u9, u10, u11, u12, u13, u14, u15, u16, u17, u18, u19, u20, u21, u22, u23, u24, u25, u26, u27, u28, rfl, hkn, hI⟩
    have HI := Lib.hid hI
    clear hI HI0
    by_cases hk : k = n
    · have HE := Lib.hid (pw_end hk HZ.out HI.out)
      subst hk
      go_wp2
      simp only [Exit.jump]
      go_ret
      exact HE.out
    · have hkl : k < n := by omega
      have hk1 : ¬ ((k : Nat) : Int) = (n : Int) := by omega
      have hk2 : (((k : Nat) : Int) == (n : Int)) = false := beq_eq_false_iff_ne.2 hk1
      have hk3 : (k == n) = false := beq_eq_false_iff_ne.2 hk

      have hk5 : ((k : Nat) : Int) < (n : Int) := by omega
      obtain ⟨b1, o1, rfl, hc1⟩ := HA.out k (by have := HNA.out; omega)
      obtain ⟨b2, o2, rfl, hc2⟩ := HB.out k (by have := HNB.out; omega)
      have hp1 := World.block_lt_of_cell? _ _ hc1
      have hp2 := World.block_lt_of_cell? _ _ hc2
      have HC := Lib.hid (HF.out k (by have := HNA.out; omega))
      have HQ := Lib.hid (fun (v2 : Value) (w2 : World) => pw_next (zs := zs) (w := w) (w' := w'.drew) (w2 := w2) (v := v) (k := k) (c7 := c7) (v2 := v2) (by have := HZ.out; omega) ⟨HI.out.1, HI.out.2.drew⟩)
      have hsz : w.heap.size ≤ w'.heap.size := HI.out.2.size
      have hd3 : w'.cell? ⟨b1, o1 + k, none⟩ = some (.int .i64 (l.getD k 0)) := (HI.out.2.cell (p := ⟨b1, o1 + k, none⟩) hp1).trans hc1
      have hd4 : w'.cell? ⟨b2, o2 + k, none⟩ = some (.int .i64 (m.getD k 0)) := (HI.out.2.cell (p := ⟨b2, o2 + k, none⟩) hp2).trans hc2
      have hd1 : w'.drew.cell? ⟨b1, o1 + k, none⟩ = some (.int .i64 (l.getD k 0)) := hd3
      have hd2 : w'.drew.cell? ⟨b2, o2 + k, none⟩ = some (.int .i64 (m.getD k 0)) := hd4
      have hd5 : (w'.alloc (.cells #[.int .i64 (zs.getD k 0)] 3)).drew.cell? ⟨b1, o1 + k, none⟩ = some (.int .i64 (l.getD k 0)) := (((Below.refl w'.heap.size w').alloc (Nat.le_refl _) (.cells #[.int .i64 (zs.getD k 0)] 3)).cell (p := ⟨b1, o1 + k, none⟩) (Nat.lt_of_lt_of_le hp1 hsz)).trans hd3
      have hd6 : (w'.alloc (.cells #[.int .i64 (zs.getD k 0)] 3)).drew.cell? ⟨b2, o2 + k, none⟩ = some (.int .i64 (m.getD k 0)) := (((Below.refl w'.heap.size w').alloc (Nat.le_refl _) (.cells #[.int .i64 (zs.getD k 0)] 3)).cell (p := ⟨b2, o2 + k, none⟩) (Nat.lt_of_lt_of_le hp2 hsz)).trans hd4
      have HK : Hid (∀ w2, Below w.heap.size w w2 → w2.cell? ⟨b1, o1 + k, none⟩ = some (.int .i64 (l.getD k 0)) ∧ w2.cell? ⟨b2, o2 + k, none⟩ = some (.int .i64 (m.getD k 0))) := fun w2 hB => ⟨(hB.cell (p := ⟨b1, o1 + k, none⟩) hp1).trans hc1, (hB.cell (p := ⟨b2, o2 + k, none⟩) hp2).trans hc2⟩
      clear hc1 hc2 hp1 hp2
      generalize l.getD k 0 = x at *
      generalize m.getD k 0 = y at *
      generalize zs.getD k 0 = z at *
      go_wp2_with fail
      go_region_held3 (fun W => W.cell? ⟨b1, o1 + k, none⟩ = some (.int .i64 x) ∧ W.cell? ⟨b2, o2 + k, none⟩ = some (.int .i64 y)) (first | exact ⟨by assumption, by assumption⟩) (first
        | (go_at_call 29
           refine (HC.out _).mono ?_
           rintro e w8 ⟨rfl, rfl⟩)
        | (refine stepI_one (by rfl) _ _ (by rfl) w.heap.size w'.drew (.slice v k c7) (zs.take k) z (by rfl) HI.out.1 (by rfl) (by rw [List.length_take]; omega) hsz ?_
           intro v2 w2 hp2
           obtain ⟨v3, c3, rfl, HQ2⟩ := HQ.out v2 w2 hp2
           have HQ2 := Lib.hid HQ2
           obtain ⟨r1, r2⟩ := HK.out _ HQ2.out.2
           clear hp2))
      go_wp2_with fail
      go_step3
      refine ⟨rfl, ⟨_, _, _, _, _, _, _, _, _, _, _, _, _, _, _, _, _, _, _, _, _, _, _, _, _, _, _, _, rfl, by omega, HQ2.out⟩, ?_⟩
      simp [lenOfS]
      omega

end Go.Proofs.Ytponpbcchfbkpaa
