/- One field of an operation as bytes. -/
import Derived.Test.YtabbbpmhmlapgaaDoorO4
namespace Go.Proofs.YtabbbpmhmlapgaaDoor
open Go.RowKit Go.Lib
set_option linter.unusedVariables false

theorem bytes_up {w W W' : World} {zs : List Int} {e : Ending} (hb : Below w.heap.size w W) (h : BytesPost W zs e W') : BytesPost w zs e W' := by
  obtain ⟨v, he, ho, hb2⟩ := h
  exact ⟨v, he, ho.mono hb.size, hb.trans (hb2.mono hb.size)⟩
theorem st_pl {t r : Int} (h : St.stB t r = true) : St.plB t r = true := by simp [St.plB, h]
theorem tab_bd : ∀ p : Nat, p < 19 → -1 ≤ Pr.lowT p ∧ Pr.highT p ≤ 1099511627776 := by decide
theorem errP_bd {p v : Int} (h : Pr.errP p v = 0) : 0 ≤ p ∧ p < 19 ∧ -1 ≤ v ∧ v ≤ 1099511627776 := by
  unfold Pr.errP at h
  cases h1 : Pr.propB p
  · simp [h1] at h
  · obtain ⟨n, rfl, hn⟩ := Pr.propB_yes h1
    obtain ⟨b1, b2⟩ := tab_bd n hn
    by_cases h2 : Pr.lowT (n : Int).toNat ≤ v ∧ v ≤ Pr.highT (n : Int).toNat
    · simp only [Int.toNat_natCast] at h2
      omega
    · rw [h1, if_neg h2] at h
      simp at h
theorem keyB_len {s : ByteArray} (h : Ky.keyB (strN s) = true) : s.size ≤ 64 := by
  rw [Ky.keyB_size] at h
  simp at h
  omega
/-- a field's bytes -/
def fldE (f : Nat) (t r : Int) (ds : List Int) (k nt nr pt pr : Int) (s : ByteArray) (p v : Int) : List Int :=
  match f with
  | 0 => St.encS t r
  | 1 => encL ds
  | 2 => enc k.toNat
  | 3 => St.encS nt nr
  | 4 => St.encS pt pr
  | 5 => enc s.size ++ strN s
  | 6 => enc p.toNat
  | _ => enc (v + 1).toNat

set_option maxHeartbeats 400000 in
theorem field0 (t r q : Int) (da : Option Addr) (ds : List Int) (dn dc : Nat) (k nt nr pt pr : Int) (s : ByteArray) (p v : Int) (w : World) (h : St.plB t r = true) : Calls Tryd.prog 32 #[.agg #[.int .i64 t, .int .i64 r, .int .i64 q, .slice da dn dc, .int .i64 k, .int .i64 nt, .int .i64 nr, .int .i64 pt, .int .i64 pr, .string s, .int .i64 p, .int .i64 v], .int .i64 0] w (BytesPost w (St.encS t r)) := by
  have HB := Lib.hid (box_bel w (.cells #[.int .i64 t, .int .i64 r, .int .i64 q, .slice da dn dc, .int .i64 k, .int .i64 nt, .int .i64 nr, .int .i64 pt, .int .i64 pr, .string s, .int .i64 p, .int .i64 v] 27))
  have C := Lib.hid (St.bytes_yes t r (w.alloc (.cells #[.int .i64 t, .int .i64 r, .int .i64 q, .slice da dn dc, .int .i64 k, .int .i64 nt, .int .i64 nr, .int .i64 pt, .int .i64 pr, .string s, .int .i64 p, .int .i64 v] 27)) h)
  clear h
  go_enter Tryd.func32, Tryd.ntmps32
  go_wp2_with fail
  refine (C.out).mono ?_
  rintro e w1 ⟨v1, rfl, ho, hb⟩
  have HP := Lib.hid (bytes_up HB.out ⟨v1, rfl, ho, hb⟩)
  clear ho hb
  go_wp2
  go_ret2
  exact HP.out

set_option maxHeartbeats 400000 in
theorem field1 (t r q : Int) (da : Option Addr) (ds : List Int) (dn dc : Nat) (k nt nr pt pr : Int) (s : ByteArray) (p v : Int) (w : World) (hr : RowK .i64 w da ds) (hn : dn = ds.length) (h : Hv.vecB ds = true) : Calls Tryd.prog 32 #[.agg #[.int .i64 t, .int .i64 r, .int .i64 q, .slice da dn dc, .int .i64 k, .int .i64 nt, .int .i64 nr, .int .i64 pt, .int .i64 pr, .string s, .int .i64 p, .int .i64 v], .int .i64 1] w (BytesPost w (encL ds)) := by
  have HB := Lib.hid (box_bel w (.cells #[.int .i64 t, .int .i64 r, .int .i64 q, .slice da dn dc, .int .i64 k, .int .i64 nt, .int .i64 nr, .int .i64 pt, .int .i64 pr, .string s, .int .i64 p, .int .i64 v] 27))
  have C := Lib.hid (Hv.bytes_yes da ds dn dc (w.alloc (.cells #[.int .i64 t, .int .i64 r, .int .i64 q, .slice da dn dc, .int .i64 k, .int .i64 nt, .int .i64 nr, .int .i64 pt, .int .i64 pr, .string s, .int .i64 p, .int .i64 v] 27)) (hr.alloc _) hn h)
  clear h hr hn
  go_enter Tryd.func32, Tryd.ntmps32
  go_wp2_with fail
  refine (C.out).mono ?_
  rintro e w1 ⟨v1, rfl, ho, hb⟩
  have HP := Lib.hid (bytes_up HB.out ⟨v1, rfl, ho, hb⟩)
  clear ho hb
  go_wp2
  go_ret2
  exact HP.out

set_option maxHeartbeats 400000 in
theorem field2 (t r q : Int) (da : Option Addr) (ds : List Int) (dn dc : Nat) (k nt nr pt pr : Int) (s : ByteArray) (p v : Int) (w : World) (h : numB k = true) : Calls Tryd.prog 32 #[.agg #[.int .i64 t, .int .i64 r, .int .i64 q, .slice da dn dc, .int .i64 k, .int .i64 nt, .int .i64 nr, .int .i64 pt, .int .i64 pr, .string s, .int .i64 p, .int .i64 v], .int .i64 2] w (BytesPost w (enc k.toNat)) := by
  have HB := Lib.hid (box_bel w (.cells #[.int .i64 t, .int .i64 r, .int .i64 q, .slice da dn dc, .int .i64 k, .int .i64 nt, .int .i64 nr, .int .i64 pt, .int .i64 pr, .string s, .int .i64 p, .int .i64 v] 27))
  have C := Lib.hid (St.num_z k (w.alloc (.cells #[.int .i64 t, .int .i64 r, .int .i64 q, .slice da dn dc, .int .i64 k, .int .i64 nt, .int .i64 nr, .int .i64 pt, .int .i64 pr, .string s, .int .i64 p, .int .i64 v] 27)) h)
  clear h
  go_enter Tryd.func32, Tryd.ntmps32
  go_wp2_with fail
  refine (C.out).mono ?_
  rintro e w1 ⟨v1, rfl, ho, hb⟩
  have HP := Lib.hid (bytes_up HB.out ⟨v1, rfl, ho, hb⟩)
  clear ho hb
  go_wp2
  go_ret2
  exact HP.out

set_option maxHeartbeats 400000 in
theorem field3 (t r q : Int) (da : Option Addr) (ds : List Int) (dn dc : Nat) (k nt nr pt pr : Int) (s : ByteArray) (p v : Int) (w : World) (h : St.plB nt nr = true) : Calls Tryd.prog 32 #[.agg #[.int .i64 t, .int .i64 r, .int .i64 q, .slice da dn dc, .int .i64 k, .int .i64 nt, .int .i64 nr, .int .i64 pt, .int .i64 pr, .string s, .int .i64 p, .int .i64 v], .int .i64 3] w (BytesPost w (St.encS nt nr)) := by
  have HB := Lib.hid (box_bel w (.cells #[.int .i64 t, .int .i64 r, .int .i64 q, .slice da dn dc, .int .i64 k, .int .i64 nt, .int .i64 nr, .int .i64 pt, .int .i64 pr, .string s, .int .i64 p, .int .i64 v] 27))
  have C := Lib.hid (St.bytes_yes nt nr (w.alloc (.cells #[.int .i64 t, .int .i64 r, .int .i64 q, .slice da dn dc, .int .i64 k, .int .i64 nt, .int .i64 nr, .int .i64 pt, .int .i64 pr, .string s, .int .i64 p, .int .i64 v] 27)) h)
  clear h
  go_enter Tryd.func32, Tryd.ntmps32
  go_wp2_with fail
  refine (C.out).mono ?_
  rintro e w1 ⟨v1, rfl, ho, hb⟩
  have HP := Lib.hid (bytes_up HB.out ⟨v1, rfl, ho, hb⟩)
  clear ho hb
  go_wp2
  go_ret2
  exact HP.out

set_option maxHeartbeats 400000 in
theorem field4 (t r q : Int) (da : Option Addr) (ds : List Int) (dn dc : Nat) (k nt nr pt pr : Int) (s : ByteArray) (p v : Int) (w : World) (h : St.plB pt pr = true) : Calls Tryd.prog 32 #[.agg #[.int .i64 t, .int .i64 r, .int .i64 q, .slice da dn dc, .int .i64 k, .int .i64 nt, .int .i64 nr, .int .i64 pt, .int .i64 pr, .string s, .int .i64 p, .int .i64 v], .int .i64 4] w (BytesPost w (St.encS pt pr)) := by
  have HB := Lib.hid (box_bel w (.cells #[.int .i64 t, .int .i64 r, .int .i64 q, .slice da dn dc, .int .i64 k, .int .i64 nt, .int .i64 nr, .int .i64 pt, .int .i64 pr, .string s, .int .i64 p, .int .i64 v] 27))
  have C := Lib.hid (St.bytes_yes pt pr (w.alloc (.cells #[.int .i64 t, .int .i64 r, .int .i64 q, .slice da dn dc, .int .i64 k, .int .i64 nt, .int .i64 nr, .int .i64 pt, .int .i64 pr, .string s, .int .i64 p, .int .i64 v] 27)) h)
  clear h
  go_enter Tryd.func32, Tryd.ntmps32
  go_wp2_with fail
  refine (C.out).mono ?_
  rintro e w1 ⟨v1, rfl, ho, hb⟩
  have HP := Lib.hid (bytes_up HB.out ⟨v1, rfl, ho, hb⟩)
  clear ho hb
  go_wp2
  go_ret2
  exact HP.out

set_option maxHeartbeats 400000 in
theorem field5 (t r q : Int) (da : Option Addr) (ds : List Int) (dn dc : Nat) (k nt nr pt pr : Int) (s : ByteArray) (p v : Int) (w : World) (h : s.size ≤ 65536) : Calls Tryd.prog 32 #[.agg #[.int .i64 t, .int .i64 r, .int .i64 q, .slice da dn dc, .int .i64 k, .int .i64 nt, .int .i64 nr, .int .i64 pt, .int .i64 pr, .string s, .int .i64 p, .int .i64 v], .int .i64 5] w (BytesPost w (enc s.size ++ strN s)) := by
  have HB := Lib.hid (box_bel w (.cells #[.int .i64 t, .int .i64 r, .int .i64 q, .slice da dn dc, .int .i64 k, .int .i64 nt, .int .i64 nr, .int .i64 pt, .int .i64 pr, .string s, .int .i64 p, .int .i64 v] 27))
  have C := Lib.hid (text_yes s (w.alloc (.cells #[.int .i64 t, .int .i64 r, .int .i64 q, .slice da dn dc, .int .i64 k, .int .i64 nt, .int .i64 nr, .int .i64 pt, .int .i64 pr, .string s, .int .i64 p, .int .i64 v] 27)) h)
  clear h
  go_enter Tryd.func32, Tryd.ntmps32
  go_wp2_with fail
  refine (C.out).mono ?_
  rintro e w1 ⟨v1, rfl, ho, hb⟩
  have HP := Lib.hid (bytes_up HB.out ⟨v1, rfl, ho, hb⟩)
  clear ho hb
  go_wp2
  go_ret2
  exact HP.out

set_option maxHeartbeats 400000 in
theorem field6 (t r q : Int) (da : Option Addr) (ds : List Int) (dn dc : Nat) (k nt nr pt pr : Int) (s : ByteArray) (p v : Int) (w : World) (h : numB p = true) : Calls Tryd.prog 32 #[.agg #[.int .i64 t, .int .i64 r, .int .i64 q, .slice da dn dc, .int .i64 k, .int .i64 nt, .int .i64 nr, .int .i64 pt, .int .i64 pr, .string s, .int .i64 p, .int .i64 v], .int .i64 6] w (BytesPost w (enc p.toNat)) := by
  have HB := Lib.hid (box_bel w (.cells #[.int .i64 t, .int .i64 r, .int .i64 q, .slice da dn dc, .int .i64 k, .int .i64 nt, .int .i64 nr, .int .i64 pt, .int .i64 pr, .string s, .int .i64 p, .int .i64 v] 27))
  have C := Lib.hid (St.num_z p (w.alloc (.cells #[.int .i64 t, .int .i64 r, .int .i64 q, .slice da dn dc, .int .i64 k, .int .i64 nt, .int .i64 nr, .int .i64 pt, .int .i64 pr, .string s, .int .i64 p, .int .i64 v] 27)) h)
  clear h
  go_enter Tryd.func32, Tryd.ntmps32
  go_wp2_with fail
  refine (C.out).mono ?_
  rintro e w1 ⟨v1, rfl, ho, hb⟩
  have HP := Lib.hid (bytes_up HB.out ⟨v1, rfl, ho, hb⟩)
  clear ho hb
  go_wp2
  go_ret2
  exact HP.out

set_option maxHeartbeats 400000 in
theorem field7 (t r q : Int) (da : Option Addr) (ds : List Int) (dn dc : Nat) (k nt nr pt pr : Int) (s : ByteArray) (p v : Int) (w : World) (h : numB (v + 1) = true) : Calls Tryd.prog 32 #[.agg #[.int .i64 t, .int .i64 r, .int .i64 q, .slice da dn dc, .int .i64 k, .int .i64 nt, .int .i64 nr, .int .i64 pt, .int .i64 pr, .string s, .int .i64 p, .int .i64 v], .int .i64 7] w (BytesPost w (enc (v + 1).toNat)) := by
  have HB := Lib.hid (box_bel w (.cells #[.int .i64 t, .int .i64 r, .int .i64 q, .slice da dn dc, .int .i64 k, .int .i64 nt, .int .i64 nr, .int .i64 pt, .int .i64 pr, .string s, .int .i64 p, .int .i64 v] 27))
  have C := Lib.hid (St.num_z (v + 1) (w.alloc (.cells #[.int .i64 t, .int .i64 r, .int .i64 q, .slice da dn dc, .int .i64 k, .int .i64 nt, .int .i64 nr, .int .i64 pt, .int .i64 pr, .string s, .int .i64 p, .int .i64 v] 27)) h)
  have hw1 : wrap64 (v + 1) = v + 1 := IntWalk.wrap64_in _ (by simp [numB] at h; omega)
  have hw2 : IntKind.i64.wrap (v + 1) = v + 1 := IntWalk.i64_in _ (by simp [numB] at h; omega)
  clear h
  go_enter Tryd.func32, Tryd.ntmps32
  go_wp2_with fail
  refine (C.out).mono ?_
  rintro e w1 ⟨v1, rfl, ho, hb⟩
  have HP := Lib.hid (bytes_up HB.out ⟨v1, rfl, ho, hb⟩)
  clear ho hb
  go_wp2
  go_ret2
  exact HP.out

/-- which field is the part -/
def fAt (i : Nat) (k : Int) : Nat := if 3 < i ∧ k = 2 then i + 2 else i
theorem fAt_cast (i : Nat) (k : Int) : (if 3 < (i : Int) ∧ k = 2 then (i : Int) + 2 else (i : Int)) = ((fAt i k : Nat) : Int) := by
  unfold fAt
  by_cases h : 3 < i ∧ k = 2
  · rw [if_pos h, if_pos ⟨by omega, h.2⟩]; omega
  · rw [if_neg h, if_neg (by omega)]
theorem fieldAt_is (i : Nat) (k : Int) (w : World) (h1 : i < 6) : Calls Tryd.prog 33 #[.int .i64 (i : Int), .int .i64 k] w fun e w' => e = .returned (.int .i64 ((fAt i k : Nat) : Int)) ∧ w = w' := by
  rw [← fAt_cast]
  exact fieldAt_any i k w (by omega) (by omega)
/-- a part's bytes, all parts' up to one -/
def prtE (i : Nat) (t r : Int) (ds : List Int) (k nt nr pt pr : Int) (s : ByteArray) (p v : Int) : List Int := fldE (fAt i k) t r ds k nt nr pt pr s p v
def preE (n : Nat) (t r : Int) (ds : List Int) (k nt nr pt pr : Int) (s : ByteArray) (p v : Int) : List Int := (List.range n).flatMap fun i => prtE i t r ds k nt nr pt pr s p v
theorem preE_zero (t r : Int) (ds : List Int) (k nt nr pt pr : Int) (s : ByteArray) (p v : Int) : preE 0 t r ds k nt nr pt pr s p v = [] := rfl
theorem preE_succ (n : Nat) (t r : Int) (ds : List Int) (k nt nr pt pr : Int) (s : ByteArray) (p v : Int) : preE (n + 1) t r ds k nt nr pt pr s p v = preE n t r ds k nt nr pt pr s p v ++ prtE n t r ds k nt nr pt pr s p v := by simp [preE, List.range_succ]
/-- an operation's bytes -/
def encO (t r : Int) (ds : List Int) (k nt nr pt pr : Int) (s : ByteArray) (p v : Int) : List Int := preE 6 t r ds k nt nr pt pr s p v
theorem opB_parts {t r q : Int} {ds : List Int} {k nt nr pt pr : Int} {s : ByteArray} {p v : Int} (h : opB t r q ds k nt nr pt pr s p v = true) : St.stB t r = true ∧ St.stB nt nr = true ∧ cntB r q ds = true ∧ kndB k pt pr s p v = true := by
  simp only [opB, Bool.and_eq_true] at h
  exact ⟨h.1.1.1, h.1.1.2, h.1.2, h.2⟩
theorem cntB_parts {r q : Int} {ds : List Int} (h : cntB r q ds = true) : Hv.vecB ds = true ∧ r < ds.length ∧ 1 ≤ q ∧ q ≤ 1099511627776 ∧ q = ds.getD r.toNat 0 + 1 := by
  simp only [cntB, Bool.and_eq_true, decide_eq_true_eq] at h
  exact ⟨h.1.1.1.1, h.1.1.1.2, h.1.1.2, h.1.2, h.2⟩
theorem kndB_parts {k pt pr : Int} {s : ByteArray} {p v : Int} (h : kndB k pt pr s p v = true) : (k = 1 ∧ St.plB pt pr = true ∧ Ky.keyB (strN s) = true ∧ p = 0 ∧ v = 0) ∨ (k = 2 ∧ Pr.errP p v = 0 ∧ pt = 0 ∧ pr = 0 ∧ strN s = []) := by
  unfold kndB at h
  by_cases h1 : k = 1
  · rw [if_pos h1] at h
    simp only [Bool.and_eq_true, decide_eq_true_eq] at h
    exact .inl ⟨h1, h.1.1.1, h.1.1.2, h.1.2, h.2⟩
  · rw [if_neg h1] at h
    by_cases h2 : k = 2
    · rw [if_pos h2] at h
      simp only [Bool.and_eq_true, decide_eq_true_eq] at h
      exact .inr ⟨h2, h.1.1, h.1.2.1, h.1.2.2, h.2⟩
    · rw [if_neg h2] at h
      exact absurd h (by decide)
theorem part_any (t r q : Int) (da : Option Addr) (ds : List Int) (dn dc : Nat) (k nt nr pt pr : Int) (s : ByteArray) (p v : Int) (w : World) (hr : RowK .i64 w da ds) (hn : dn = ds.length) (h : opB t r q ds k nt nr pt pr s p v = true) (i : Nat) (hi : i < 6) : Calls Tryd.prog 32 #[.agg #[.int .i64 t, .int .i64 r, .int .i64 q, .slice da dn dc, .int .i64 k, .int .i64 nt, .int .i64 nr, .int .i64 pt, .int .i64 pr, .string s, .int .i64 p, .int .i64 v], .int .i64 ((fAt i k : Nat) : Int)] w (BytesPost w (prtE i t r ds k nt nr pt pr s p v)) := by
  obtain ⟨h1, h2, h3, h4⟩ := opB_parts h
  obtain ⟨g1, g2, g3, g4, g5⟩ := cntB_parts h3
  have hk : numB k = true := by rcases kndB_parts h4 with ⟨rfl, _⟩ | ⟨rfl, _⟩ <;> rfl
  match i, hi with
  | 0, _ => exact field0 t r q da ds dn dc k nt nr pt pr s p v w (st_pl h1)
  | 1, _ => exact field1 t r q da ds dn dc k nt nr pt pr s p v w hr hn g1
  | 2, _ => exact field2 t r q da ds dn dc k nt nr pt pr s p v w hk
  | 3, _ => exact field3 t r q da ds dn dc k nt nr pt pr s p v w (st_pl h2)
  | 4, _ =>
    rcases kndB_parts h4 with ⟨rfl, k1, k2, k3, k4⟩ | ⟨rfl, k1, k2, k3, k4⟩
    · exact field4 t r q da ds dn dc 1 nt nr pt pr s p v w k1
    · have := errP_bd k1
      exact field6 t r q da ds dn dc 2 nt nr pt pr s p v w (by simp [numB]; omega)
  | 5, _ =>
    rcases kndB_parts h4 with ⟨rfl, k1, k2, k3, k4⟩ | ⟨rfl, k1, k2, k3, k4⟩
    · exact field5 t r q da ds dn dc 1 nt nr pt pr s p v w (by have := keyB_len k2; omega)
    · have := errP_bd k1
      exact field7 t r q da ds dn dc 2 nt nr pt pr s p v w (by simp [numB]; omega)
theorem prtE_len {t r q : Int} {ds : List Int} {k nt nr pt pr : Int} {s : ByteArray} {p v : Int} (h : opB t r q ds k nt nr pt pr s p v = true) (i : Nat) (hi : i < 6) : (prtE i t r ds k nt nr pt pr s p v).length ≤ 153 := by
  obtain ⟨h1, h2, h3, h4⟩ := opB_parts h
  obtain ⟨g1, g2, g3, g4, g5⟩ := cntB_parts h3
  have hn : ∀ n : Nat, n ≤ 4611686018427387904 → (enc n).length ≤ 9 := fun n hn => enc_len9 hn
  match i, hi with
  | 0, _ => exact Nat.le_trans (St.encS_len (st_pl h1)) (by omega)
  | 1, _ => exact Hv.encV_len g1
  | 2, _ => exact Nat.le_trans (hn k.toNat (by rcases kndB_parts h4 with ⟨rfl, _⟩ | ⟨rfl, _⟩ <;> decide)) (by omega)
  | 3, _ => exact Nat.le_trans (St.encS_len (st_pl h2)) (by omega)
  | 4, _ =>
    rcases kndB_parts h4 with ⟨rfl, k1, k2, k3, k4⟩ | ⟨rfl, k1, k2, k3, k4⟩
    · exact Nat.le_trans (St.encS_len k1) (by omega)
    · have := errP_bd k1
      exact Nat.le_trans (hn p.toNat (by omega)) (by omega)
  | 5, _ =>
    rcases kndB_parts h4 with ⟨rfl, k1, k2, k3, k4⟩ | ⟨rfl, k1, k2, k3, k4⟩
    · have h5 := keyB_len k2
      show (enc s.size ++ strN s).length ≤ 153
      rw [List.length_append, strN_len]
      have := hn s.size (by omega)
      omega
    · have := errP_bd k1
      exact Nat.le_trans (hn (v + 1).toNat (by omega)) (by omega)
theorem preE_len {t r q : Int} {ds : List Int} {k nt nr pt pr : Int} {s : ByteArray} {p v : Int} (h : opB t r q ds k nt nr pt pr s p v = true) : ∀ n : Nat, n ≤ 6 → (preE n t r ds k nt nr pt pr s p v).length ≤ 153 * n
  | 0, _ => by simp [preE_zero]
  | n + 1, hn => by
    rw [preE_succ, List.length_append]
    have h1 := preE_len h n (by omega)
    have h2 := prtE_len h n (by omega)
    omega
end Go.Proofs.YtabbbpmhmlapgaaDoor

