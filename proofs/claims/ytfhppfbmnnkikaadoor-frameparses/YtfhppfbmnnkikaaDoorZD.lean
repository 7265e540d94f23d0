/- Joined: O5 O6 OM O7 O8 O9. -/
import Derived.Test.YtfhppfbmnnkikaaDoorZC
import Derived.Test.YtfhppfbmnnkikaaDoorZB

/- One field of an operation as bytes. -/
namespace Go.Proofs.YtfhppfbmnnkikaaDoor
open Go.RowKit Go.Lib
set_option linter.unusedVariables false

theorem bytes_up {w W W' : World} {zs : List Int} {e : Ending} (hb : Below w.heap.size w W) (h : BytesPost W zs e W') : BytesPost w zs e W' := by
  obtain ⟨v, he, ho, hb2⟩ := h
  exact ⟨v, he, ho.mono hb.size, hb.trans (hb2.mono hb.size)⟩
theorem st_pl {t r : Int} (h : St.stB t r = true) : St.plB t r = true := by simp [St.plB, h]
theorem tab_bd : ∀ p : Nat, p < 19 → -1 ≤ Pr.lowT p ∧ Pr.highT p ≤ 1099511627776 := by decide
theorem errP_bd {p v : Int} (h : Pr.errP p v = 0) : 0 ≤ p ∧ p < 19 ∧ -1 ≤ v ∧ v ≤ 1099511627776 := by
  unfold Pr.errP at h
  cases h1 : Pr.propB p
  · simp [h1] at h
  · obtain ⟨n, rfl, hn⟩ := Pr.propB_yes h1
    obtain ⟨b1, b2⟩ := tab_bd n hn
    by_cases h2 : Pr.lowT (n : Int).toNat ≤ v ∧ v ≤ Pr.highT (n : Int).toNat
    · simp only [Int.toNat_natCast] at h2
      omega
    · rw [h1, if_neg h2] at h
      simp at h
theorem keyB_len {s : ByteArray} (h : Ky.keyB (strN s) = true) : s.size ≤ 64 := by
  rw [Ky.keyB_size] at h
  simp at h
  omega
/-- a field's bytes -/
def fldE (f : Nat) (t r : Int) (ds : List Int) (k nt nr pt pr : Int) (s : ByteArray) (p v : Int) : List Int :=
  match f with
  | 0 => St.encS t r
  | 1 => encL ds
  | 2 => enc k.toNat
  | 3 => St.encS nt nr
  | 4 => St.encS pt pr
  | 5 => enc s.size ++ strN s
  | 6 => enc p.toNat
  | _ => enc (v + 1).toNat

set_option maxHeartbeats 400000 in
theorem field0 (t r q : Int) (da : Option Addr) (ds : List Int) (dn dc : Nat) (k nt nr pt pr : Int) (s : ByteArray) (p v : Int) (w : World) (h : St.plB t r = true) : Calls Tryd.prog 62 #[.agg #[.int .i64 t, .int .i64 r, .int .i64 q, .slice da dn dc, .int .i64 k, .int .i64 nt, .int .i64 nr, .int .i64 pt, .int .i64 pr, .string s, .int .i64 p, .int .i64 v], .int .i64 0] w (BytesPost w (St.encS t r)) := by
  have HB := Lib.hid (box_bel w (.cells #[.int .i64 t, .int .i64 r, .int .i64 q, .slice da dn dc, .int .i64 k, .int .i64 nt, .int .i64 nr, .int .i64 pt, .int .i64 pr, .string s, .int .i64 p, .int .i64 v] 27))
  have C := Lib.hid (St.bytes_yes t r (w.alloc (.cells #[.int .i64 t, .int .i64 r, .int .i64 q, .slice da dn dc, .int .i64 k, .int .i64 nt, .int .i64 nr, .int .i64 pt, .int .i64 pr, .string s, .int .i64 p, .int .i64 v] 27)) h)
  clear h
  go_enter Tryd.func62, Tryd.ntmps62
  go_wp2_with fail
  refine (C.out).mono ?_
  rintro e w1 ⟨v1, rfl, ho, hb⟩
  have HP := Lib.hid (bytes_up HB.out ⟨v1, rfl, ho, hb⟩)
  clear ho hb
  go_wp2
  go_ret2
  exact HP.out

set_option maxHeartbeats 400000 in
theorem field1 (t r q : Int) (da : Option Addr) (ds : List Int) (dn dc : Nat) (k nt nr pt pr : Int) (s : ByteArray) (p v : Int) (w : World) (hr : RowK .i64 w da ds) (hn : dn = ds.length) (h : Hv.vecB ds = true) : Calls Tryd.prog 62 #[.agg #[.int .i64 t, .int .i64 r, .int .i64 q, .slice da dn dc, .int .i64 k, .int .i64 nt, .int .i64 nr, .int .i64 pt, .int .i64 pr, .string s, .int .i64 p, .int .i64 v], .int .i64 1] w (BytesPost w (encL ds)) := by
  have HB := Lib.hid (box_bel w (.cells #[.int .i64 t, .int .i64 r, .int .i64 q, .slice da dn dc, .int .i64 k, .int .i64 nt, .int .i64 nr, .int .i64 pt, .int .i64 pr, .string s, .int .i64 p, .int .i64 v] 27))
  have C := Lib.hid (Hv.bytes_yes da ds dn dc (w.alloc (.cells #[.int .i64 t, .int .i64 r, .int .i64 q, .slice da dn dc, .int .i64 k, .int .i64 nt, .int .i64 nr, .int .i64 pt, .int .i64 pr, .string s, .int .i64 p, .int .i64 v] 27)) (hr.alloc _) hn h)
  clear h hr hn
  go_enter Tryd.func62, Tryd.ntmps62
  go_wp2_with fail
  refine (C.out).mono ?_
  rintro e w1 ⟨v1, rfl, ho, hb⟩
  have HP := Lib.hid (bytes_up HB.out ⟨v1, rfl, ho, hb⟩)
  clear ho hb
  go_wp2
  go_ret2
  exact HP.out

set_option maxHeartbeats 400000 in
theorem field2 (t r q : Int) (da : Option Addr) (ds : List Int) (dn dc : Nat) (k nt nr pt pr : Int) (s : ByteArray) (p v : Int) (w : World) (h : numB k = true) : Calls Tryd.prog 62 #[.agg #[.int .i64 t, .int .i64 r, .int .i64 q, .slice da dn dc, .int .i64 k, .int .i64 nt, .int .i64 nr, .int .i64 pt, .int .i64 pr, .string s, .int .i64 p, .int .i64 v], .int .i64 2] w (BytesPost w (enc k.toNat)) := by
  have HB := Lib.hid (box_bel w (.cells #[.int .i64 t, .int .i64 r, .int .i64 q, .slice da dn dc, .int .i64 k, .int .i64 nt, .int .i64 nr, .int .i64 pt, .int .i64 pr, .string s, .int .i64 p, .int .i64 v] 27))
  have C := Lib.hid (St.num_z k (w.alloc (.cells #[.int .i64 t, .int .i64 r, .int .i64 q, .slice da dn dc, .int .i64 k, .int .i64 nt, .int .i64 nr, .int .i64 pt, .int .i64 pr, .string s, .int .i64 p, .int .i64 v] 27)) h)
  clear h
  go_enter Tryd.func62, Tryd.ntmps62
  go_wp2_with fail
  refine (C.out).mono ?_
  rintro e w1 ⟨v1, rfl, ho, hb⟩
  have HP := Lib.hid (bytes_up HB.out ⟨v1, rfl, ho, hb⟩)
  clear ho hb
  go_wp2
  go_ret2
  exact HP.out

set_option maxHeartbeats 400000 in
theorem field3 (t r q : Int) (da : Option Addr) (ds : List Int) (dn dc : Nat) (k nt nr pt pr : Int) (s : ByteArray) (p v : Int) (w : World) (h : St.plB nt nr = true) : Calls Tryd.prog 62 #[.agg #[.int .i64 t, .int .i64 r, .int .i64 q, .slice da dn dc, .int .i64 k, .int .i64 nt, .int .i64 nr, .int .i64 pt, .int .i64 pr, .string s, .int .i64 p, .int .i64 v], .int .i64 3] w (BytesPost w (St.encS nt nr)) := by
  have HB := Lib.hid (box_bel w (.cells #[.int .i64 t, .int .i64 r, .int .i64 q, .slice da dn dc, .int .i64 k, .int .i64 nt, .int .i64 nr, .int .i64 pt, .int .i64 pr, .string s, .int .i64 p, .int .i64 v] 27))
  have C := Lib.hid (St.bytes_yes nt nr (w.alloc (.cells #[.int .i64 t, .int .i64 r, .int .i64 q, .slice da dn dc, .int .i64 k, .int .i64 nt, .int .i64 nr, .int .i64 pt, .int .i64 pr, .string s, .int .i64 p, .int .i64 v] 27)) h)
  clear h
  go_enter Tryd.func62, Tryd.ntmps62
  go_wp2_with fail
  refine (C.out).mono ?_
  rintro e w1 ⟨v1, rfl, ho, hb⟩
  have HP := Lib.hid (bytes_up HB.out ⟨v1, rfl, ho, hb⟩)
  clear ho hb
  go_wp2
  go_ret2
  exact HP.out

set_option maxHeartbeats 400000 in
theorem field4 (t r q : Int) (da : Option Addr) (ds : List Int) (dn dc : Nat) (k nt nr pt pr : Int) (s : ByteArray) (p v : Int) (w : World) (h : St.plB pt pr = true) : Calls Tryd.prog 62 #[.agg #[.int .i64 t, .int .i64 r, .int .i64 q, .slice da dn dc, .int .i64 k, .int .i64 nt, .int .i64 nr, .int .i64 pt, .int .i64 pr, .string s, .int .i64 p, .int .i64 v], .int .i64 4] w (BytesPost w (St.encS pt pr)) := by
  have HB := Lib.hid (box_bel w (.cells #[.int .i64 t, .int .i64 r, .int .i64 q, .slice da dn dc, .int .i64 k, .int .i64 nt, .int .i64 nr, .int .i64 pt, .int .i64 pr, .string s, .int .i64 p, .int .i64 v] 27))
  have C := Lib.hid (St.bytes_yes pt pr (w.alloc (.cells #[.int .i64 t, .int .i64 r, .int .i64 q, .slice da dn dc, .int .i64 k, .int .i64 nt, .int .i64 nr, .int .i64 pt, .int .i64 pr, .string s, .int .i64 p, .int .i64 v] 27)) h)
  clear h
  go_enter Tryd.func62, Tryd.ntmps62
  go_wp2_with fail
  refine (C.out).mono ?_
  rintro e w1 ⟨v1, rfl, ho, hb⟩
  have HP := Lib.hid (bytes_up HB.out ⟨v1, rfl, ho, hb⟩)
  clear ho hb
  go_wp2
  go_ret2
  exact HP.out

set_option maxHeartbeats 400000 in
theorem field5 (t r q : Int) (da : Option Addr) (ds : List Int) (dn dc : Nat) (k nt nr pt pr : Int) (s : ByteArray) (p v : Int) (w : World) (h : s.size ≤ 65536) : Calls Tryd.prog 62 #[.agg #[.int .i64 t, .int .i64 r, .int .i64 q, .slice da dn dc, .int .i64 k, .int .i64 nt, .int .i64 nr, .int .i64 pt, .int .i64 pr, .string s, .int .i64 p, .int .i64 v], .int .i64 5] w (BytesPost w (enc s.size ++ strN s)) := by
  have HB := Lib.hid (box_bel w (.cells #[.int .i64 t, .int .i64 r, .int .i64 q, .slice da dn dc, .int .i64 k, .int .i64 nt, .int .i64 nr, .int .i64 pt, .int .i64 pr, .string s, .int .i64 p, .int .i64 v] 27))
  have C := Lib.hid (text_yes s (w.alloc (.cells #[.int .i64 t, .int .i64 r, .int .i64 q, .slice da dn dc, .int .i64 k, .int .i64 nt, .int .i64 nr, .int .i64 pt, .int .i64 pr, .string s, .int .i64 p, .int .i64 v] 27)) h)
  clear h
  go_enter Tryd.func62, Tryd.ntmps62
  go_wp2_with fail
  refine (C.out).mono ?_
  rintro e w1 ⟨v1, rfl, ho, hb⟩
  have HP := Lib.hid (bytes_up HB.out ⟨v1, rfl, ho, hb⟩)
  clear ho hb
  go_wp2
  go_ret2
  exact HP.out

set_option maxHeartbeats 400000 in
theorem field6 (t r q : Int) (da : Option Addr) (ds : List Int) (dn dc : Nat) (k nt nr pt pr : Int) (s : ByteArray) (p v : Int) (w : World) (h : numB p = true) : Calls Tryd.prog 62 #[.agg #[.int .i64 t, .int .i64 r, .int .i64 q, .slice da dn dc, .int .i64 k, .int .i64 nt, .int .i64 nr, .int .i64 pt, .int .i64 pr, .string s, .int .i64 p, .int .i64 v], .int .i64 6] w (BytesPost w (enc p.toNat)) := by
  have HB := Lib.hid (box_bel w (.cells #[.int .i64 t, .int .i64 r, .int .i64 q, .slice da dn dc, .int .i64 k, .int .i64 nt, .int .i64 nr, .int .i64 pt, .int .i64 pr, .string s, .int .i64 p, .int .i64 v] 27))
  have C := Lib.hid (St.num_z p (w.alloc (.cells #[.int .i64 t, .int .i64 r, .int .i64 q, .slice da dn dc, .int .i64 k, .int .i64 nt, .int .i64 nr, .int .i64 pt, .int .i64 pr, .string s, .int .i64 p, .int .i64 v] 27)) h)
  clear h
  go_enter Tryd.func62, Tryd.ntmps62
  go_wp2_with fail
  refine (C.out).mono ?_
  rintro e w1 ⟨v1, rfl, ho, hb⟩
  have HP := Lib.hid (bytes_up HB.out ⟨v1, rfl, ho, hb⟩)
  clear ho hb
  go_wp2
  go_ret2
  exact HP.out

set_option maxHeartbeats 400000 in
theorem field7 (t r q : Int) (da : Option Addr) (ds : List Int) (dn dc : Nat) (k nt nr pt pr : Int) (s : ByteArray) (p v : Int) (w : World) (h : numB (v + 1) = true) : Calls Tryd.prog 62 #[.agg #[.int .i64 t, .int .i64 r, .int .i64 q, .slice da dn dc, .int .i64 k, .int .i64 nt, .int .i64 nr, .int .i64 pt, .int .i64 pr, .string s, .int .i64 p, .int .i64 v], .int .i64 7] w (BytesPost w (enc (v + 1).toNat)) := by
  have HB := Lib.hid (box_bel w (.cells #[.int .i64 t, .int .i64 r, .int .i64 q, .slice da dn dc, .int .i64 k, .int .i64 nt, .int .i64 nr, .int .i64 pt, .int .i64 pr, .string s, .int .i64 p, .int .i64 v] 27))
  have C := Lib.hid (St.num_z (v + 1) (w.alloc (.cells #[.int .i64 t, .int .i64 r, .int .i64 q, .slice da dn dc, .int .i64 k, .int .i64 nt, .int .i64 nr, .int .i64 pt, .int .i64 pr, .string s, .int .i64 p, .int .i64 v] 27)) h)
  have hw1 : wrap64 (v + 1) = v + 1 := IntWalk.wrap64_in _ (by simp [numB] at h; omega)
  have hw2 : IntKind.i64.wrap (v + 1) = v + 1 := IntWalk.i64_in _ (by simp [numB] at h; omega)
  clear h
  go_enter Tryd.func62, Tryd.ntmps62
  go_wp2_with fail
  refine (C.out).mono ?_
  rintro e w1 ⟨v1, rfl, ho, hb⟩
  have HP := Lib.hid (bytes_up HB.out ⟨v1, rfl, ho, hb⟩)
  clear ho hb
  go_wp2
  go_ret2
  exact HP.out

/-- which field is the part -/
def fAt (i : Nat) (k : Int) : Nat := if 3 < i ∧ k = 2 then i + 2 else i
theorem fAt_cast (i : Nat) (k : Int) : (if 3 < (i : Int) ∧ k = 2 then (i : Int) + 2 else (i : Int)) = ((fAt i k : Nat) : Int) := by
  unfold fAt
  by_cases h : 3 < i ∧ k = 2
  · rw [if_pos h, if_pos ⟨by omega, h.2⟩]; omega
  · rw [if_neg h, if_neg (by omega)]
theorem fieldAt_is (i : Nat) (k : Int) (w : World) (h1 : i < 6) : Calls Tryd.prog 63 #[.int .i64 (i : Int), .int .i64 k] w fun e w' => e = .returned (.int .i64 ((fAt i k : Nat) : Int)) ∧ w = w' := by
  rw [← fAt_cast]
  exact fieldAt_any i k w (by omega) (by omega)
/-- a part's bytes, all parts' up to one -/
def prtE (i : Nat) (t r : Int) (ds : List Int) (k nt nr pt pr : Int) (s : ByteArray) (p v : Int) : List Int := fldE (fAt i k) t r ds k nt nr pt pr s p v
def preE (n : Nat) (t r : Int) (ds : List Int) (k nt nr pt pr : Int) (s : ByteArray) (p v : Int) : List Int := (List.range n).flatMap fun i => prtE i t r ds k nt nr pt pr s p v
theorem preE_zero (t r : Int) (ds : List Int) (k nt nr pt pr : Int) (s : ByteArray) (p v : Int) : preE 0 t r ds k nt nr pt pr s p v = [] := rfl
theorem preE_succ (n : Nat) (t r : Int) (ds : List Int) (k nt nr pt pr : Int) (s : ByteArray) (p v : Int) : preE (n + 1) t r ds k nt nr pt pr s p v = preE n t r ds k nt nr pt pr s p v ++ prtE n t r ds k nt nr pt pr s p v := by simp [preE, List.range_succ]
/-- an operation's bytes -/
def encO (t r : Int) (ds : List Int) (k nt nr pt pr : Int) (s : ByteArray) (p v : Int) : List Int := preE 6 t r ds k nt nr pt pr s p v
theorem opB_parts {t r q : Int} {ds : List Int} {k nt nr pt pr : Int} {s : ByteArray} {p v : Int} (h : opB t r q ds k nt nr pt pr s p v = true) : St.stB t r = true ∧ St.stB nt nr = true ∧ cntB r q ds = true ∧ kndB k pt pr s p v = true := by
  simp only [opB, Bool.and_eq_true] at h
  exact ⟨h.1.1.1, h.1.1.2, h.1.2, h.2⟩
theorem cntB_parts {r q : Int} {ds : List Int} (h : cntB r q ds = true) : Hv.vecB ds = true ∧ r < ds.length ∧ 1 ≤ q ∧ q ≤ 1099511627776 ∧ q = ds.getD r.toNat 0 + 1 := by
  simp only [cntB, Bool.and_eq_true, decide_eq_true_eq] at h
  exact ⟨h.1.1.1.1, h.1.1.1.2, h.1.1.2, h.1.2, h.2⟩
theorem kndB_parts {k pt pr : Int} {s : ByteArray} {p v : Int} (h : kndB k pt pr s p v = true) : (k = 1 ∧ St.plB pt pr = true ∧ Ky.keyB (strN s) = true ∧ p = 0 ∧ v = 0) ∨ (k = 2 ∧ Pr.errP p v = 0 ∧ pt = 0 ∧ pr = 0 ∧ strN s = []) := by
  unfold kndB at h
  by_cases h1 : k = 1
  · rw [if_pos h1] at h
    simp only [Bool.and_eq_true, decide_eq_true_eq] at h
    exact .inl ⟨h1, h.1.1.1, h.1.1.2, h.1.2, h.2⟩
  · rw [if_neg h1] at h
    by_cases h2 : k = 2
    · rw [if_pos h2] at h
      simp only [Bool.and_eq_true, decide_eq_true_eq] at h
      exact .inr ⟨h2, h.1.1, h.1.2.1, h.1.2.2, h.2⟩
    · rw [if_neg h2] at h
      exact absurd h (by decide)
theorem part_any (t r q : Int) (da : Option Addr) (ds : List Int) (dn dc : Nat) (k nt nr pt pr : Int) (s : ByteArray) (p v : Int) (w : World) (hr : RowK .i64 w da ds) (hn : dn = ds.length) (h : opB t r q ds k nt nr pt pr s p v = true) (i : Nat) (hi : i < 6) : Calls Tryd.prog 62 #[.agg #[.int .i64 t, .int .i64 r, .int .i64 q, .slice da dn dc, .int .i64 k, .int .i64 nt, .int .i64 nr, .int .i64 pt, .int .i64 pr, .string s, .int .i64 p, .int .i64 v], .int .i64 ((fAt i k : Nat) : Int)] w (BytesPost w (prtE i t r ds k nt nr pt pr s p v)) := by
  obtain ⟨h1, h2, h3, h4⟩ := opB_parts h
  obtain ⟨g1, g2, g3, g4, g5⟩ := cntB_parts h3
  have hk : numB k = true := by rcases kndB_parts h4 with ⟨rfl, _⟩ | ⟨rfl, _⟩ <;> rfl
  match i, hi with
  | 0, _ => exact field0 t r q da ds dn dc k nt nr pt pr s p v w (st_pl h1)
  | 1, _ => exact field1 t r q da ds dn dc k nt nr pt pr s p v w hr hn g1
  | 2, _ => exact field2 t r q da ds dn dc k nt nr pt pr s p v w hk
  | 3, _ => exact field3 t r q da ds dn dc k nt nr pt pr s p v w (st_pl h2)
  | 4, _ =>
    rcases kndB_parts h4 with ⟨rfl, k1, k2, k3, k4⟩ | ⟨rfl, k1, k2, k3, k4⟩
    · exact field4 t r q da ds dn dc 1 nt nr pt pr s p v w k1
    · have := errP_bd k1
      exact field6 t r q da ds dn dc 2 nt nr pt pr s p v w (by simp [numB]; omega)
  | 5, _ =>
    rcases kndB_parts h4 with ⟨rfl, k1, k2, k3, k4⟩ | ⟨rfl, k1, k2, k3, k4⟩
    · exact field5 t r q da ds dn dc 1 nt nr pt pr s p v w (by have := keyB_len k2; omega)
    · have := errP_bd k1
      exact field7 t r q da ds dn dc 2 nt nr pt pr s p v w (by simp [numB]; omega)
theorem prtE_len {t r q : Int} {ds : List Int} {k nt nr pt pr : Int} {s : ByteArray} {p v : Int} (h : opB t r q ds k nt nr pt pr s p v = true) (i : Nat) (hi : i < 6) : (prtE i t r ds k nt nr pt pr s p v).length ≤ 153 := by
  obtain ⟨h1, h2, h3, h4⟩ := opB_parts h
  obtain ⟨g1, g2, g3, g4, g5⟩ := cntB_parts h3
  have hn : ∀ n : Nat, n ≤ 4611686018427387904 → (enc n).length ≤ 9 := fun n hn => enc_len9 hn
  match i, hi with
  | 0, _ => exact Nat.le_trans (St.encS_len (st_pl h1)) (by omega)
  | 1, _ => exact Hv.encV_len g1
  | 2, _ => exact Nat.le_trans (hn k.toNat (by rcases kndB_parts h4 with ⟨rfl, _⟩ | ⟨rfl, _⟩ <;> decide)) (by omega)
  | 3, _ => exact Nat.le_trans (St.encS_len (st_pl h2)) (by omega)
  | 4, _ =>
    rcases kndB_parts h4 with ⟨rfl, k1, k2, k3, k4⟩ | ⟨rfl, k1, k2, k3, k4⟩
    · exact Nat.le_trans (St.encS_len k1) (by omega)
    · have := errP_bd k1
      exact Nat.le_trans (hn p.toNat (by omega)) (by omega)
  | 5, _ =>
    rcases kndB_parts h4 with ⟨rfl, k1, k2, k3, k4⟩ | ⟨rfl, k1, k2, k3, k4⟩
    · have h5 := keyB_len k2
      show (enc s.size ++ strN s).length ≤ 153
      rw [List.length_append, strN_len]
      have := hn s.size (by omega)
      omega
    · have := errP_bd k1
      exact Nat.le_trans (hn (v + 1).toNat (by omega)) (by omega)
theorem preE_len {t r q : Int} {ds : List Int} {k nt nr pt pr : Int} {s : ByteArray} {p v : Int} (h : opB t r q ds k nt nr pt pr s p v = true) : ∀ n : Nat, n ≤ 6 → (preE n t r ds k nt nr pt pr s p v).length ≤ 153 * n
  | 0, _ => by simp [preE_zero]
  | n + 1, hn => by
    rw [preE_succ, List.length_append]
    have h1 := preE_len h n (by omega)
    have h2 := prtE_len h n (by omega)
    omega
end Go.Proofs.YtfhppfbmnnkikaaDoor

/- An operation's bytes: the program's. -/
namespace Go.Proofs.YtfhppfbmnnkikaaDoor
open Go.RowKit Go.Lib
set_option linter.unusedVariables false

theorem heldO_mk {w0 w1 : World} {n b o : Nat} {t r q : Int} {da : Option Addr} {dn dc : Nat} {k nt nr pt pr : Int} {s : ByteArray} {p v : Int} (h : OpAt w1 b o t r q da dn dc k nt nr pt pr s p v) (hB : Below n w0 w1) : w1.cell? ⟨b, o, none⟩ = some (.int .i64 t) ∧ w1.cell? ⟨b, o + 1, none⟩ = some (.int .i64 r) ∧ w1.cell? ⟨b, o + 2, none⟩ = some (.int .i64 q) ∧ w1.cell? ⟨b, o + 3, none⟩ = some (.slice da dn dc) ∧ w1.cell? ⟨b, o + 4, none⟩ = some (.int .i64 k) ∧ w1.cell? ⟨b, o + 5, none⟩ = some (.int .i64 nt) ∧ w1.cell? ⟨b, o + 6, none⟩ = some (.int .i64 nr) ∧ w1.cell? ⟨b, o + 7, none⟩ = some (.int .i64 pt) ∧ w1.cell? ⟨b, o + 8, none⟩ = some (.int .i64 pr) ∧ w1.cell? ⟨b, o + 9, none⟩ = some (.string s) ∧ w1.cell? ⟨b, o + 10, none⟩ = some (.int .i64 p) ∧ w1.cell? ⟨b, o + 11, none⟩ = some (.int .i64 v) ∧ Hid (Below n w0 w1) := ⟨h.c0, h.c1, h.c2, h.c3, h.c4, h.c5, h.c6, h.c7, h.c8, h.c9, h.c10, h.c11, Lib.hid hB⟩
/-- what the loop over the parts keeps -/
structure BytI (w w' : World) (g : Nat) (t r q : Int) (da : Option Addr) (ds : List Int) (dn dc : Nat) (k nt nr pt pr : Int) (s : ByteArray) (p v : Int) (out : Value) (zs : List Int) : Prop where
  at_ : OpAt w' g 0 t r q da dn dc k nt nr pt pr s p v
  row : RowK .i64 w' da ds
  own : OwnK .u8 5 w' (g + 1) out zs
  bel : Below w.heap.size w w'
  ge : w.heap.size ≤ g
theorem BytI.next {w w1 w2 : World} {g : Nat} {t r q : Int} {da : Option Addr} {ds : List Int} {dn dc : Nat} {k nt nr pt pr : Int} {s : ByteArray} {p v : Int} {out : Value} {zs : List Int} (h : BytI w w1 g t r q da ds dn dc k nt nr pt pr s p v out zs) (hb : Below w1.heap.size w1 w2) : BytI w w2 g t r q da ds dn dc k nt nr pt pr s p v out zs :=
  ⟨h.at_.next hb, h.row.below hb (Nat.le_refl _), h.own.below hb, h.bel.trans (hb.mono h.bel.size), h.ge⟩
theorem BytI.grew {w w1 w2 : World} {g : Nat} {t r q : Int} {da : Option Addr} {ds : List Int} {dn dc : Nat} {k nt nr pt pr : Int} {s : ByteArray} {p v : Int} {out out' : Value} {zs ys : List Int} (h : BytI w w1 g t r q da ds dn dc k nt nr pt pr s p v out zs) (hl : RowLt (g + 1) da ds) (hg : Grew .u8 5 (g + 1) w1 out zs ys out' w2) : BytI w w2 g t r q da ds dn dc k nt nr pt pr s p v out' (zs ++ ys) := by
  have hb : Below (g + 1) w1 w2 := hg.bel _ _ (Below.refl _ _) (Nat.le_refl _) h.at_.lt
  exact ⟨h.at_.below hb (by omega), h.row.below' hl hb, hg.own, h.bel.trans (hb.mono (by have := h.ge; omega)), h.ge⟩
def BytJ (w : World) (g : Nat) (t r q : Int) (da : Option Addr) (ds : List Int) (dn dc : Nat) (k nt nr pt pr : Int) (s : ByteArray) (p v : Int) (act : Act) (w' : World) : Prop :=
  ∃ (v4 : Value) (i : Nat) (u2 u3 u6 u7 u8 u9 u10 u11 u12 u13 u14 u15 u16 u17 u18 u19 u20 u21 u22 u23 u24 u25 u26 u27 u28 u29 u30 : Value), act = { tmps := #[.agg #[.int .i64 t, .int .i64 r, .int .i64 q, .slice da dn dc, .int .i64 k, .int .i64 nt, .int .i64 nr, .int .i64 pt, .int .i64 pr, .string s, .int .i64 p, .int .i64 v], .pointer (some ⟨g, 0, none⟩), u2, u3, v4, .int .i64 (i : Int), u6, u7, u8, u9, u10, u11, u12, u13, u14, u15, u16, u17, u18, u19, u20, u21, u22, u23, u24, u25, u26, u27, u28, u29, u30], defers := [] } ∧ i < 6 ∧ BytI w w' g t r q da ds dn dc k nt nr pt pr s p v v4 (preE i t r ds k nt nr pt pr s p v)
def intOf : Value → Nat
  | .int _ z => z.toNat
  | _ => 0
theorem fieldAt_zero (k : Int) (w : World) : Calls Tryd.prog 63 #[.int .i64 0, .int .i64 k] w fun e w' => e = .returned (.int .i64 0) ∧ w = w' := by
  have := fieldAt_any 0 k w (by omega) (by omega)
  rw [if_neg (by omega)] at this
  exact this
theorem part_zero (t r q : Int) (da : Option Addr) (ds : List Int) (dn dc : Nat) (k nt nr pt pr : Int) (s : ByteArray) (p v : Int) (w : World) (hr : RowK .i64 w da ds) (hn : dn = ds.length) (h : opB t r q ds k nt nr pt pr s p v = true) : Calls Tryd.prog 62 #[.agg #[.int .i64 t, .int .i64 r, .int .i64 q, .slice da dn dc, .int .i64 k, .int .i64 nt, .int .i64 nr, .int .i64 pt, .int .i64 pr, .string s, .int .i64 p, .int .i64 v], .int .i64 0] w (BytesPost w (prtE 0 t r ds k nt nr pt pr s p v)) := field0 t r q da ds dn dc k nt nr pt pr s p v w (st_pl (opB_parts h).1)
theorem check_is (t r q : Int) (da : Option Addr) (ds : List Int) (dn dc : Nat) (k nt nr pt pr : Int) (s : ByteArray) (p v : Int) (w : World) (ht : Pr.Tab w) (hr : RowK .i64 w da ds) (hn : dn = ds.length) (hl : ds.length ≤ 140737488355328) (x : Int) (h : errC (opB t r q ds k nt nr pt pr s p v) = x) : Calls Tryd.prog 10 #[.agg #[.int .i64 t, .int .i64 r, .int .i64 q, .slice da dn dc, .int .i64 k, .int .i64 nt, .int .i64 nr, .int .i64 pt, .int .i64 pr, .string s, .int .i64 p, .int .i64 v]] w (St.IntBel w x) := by rw [← h]; exact opCheck_any t r q da ds dn dc k nt nr pt pr s p v w ht hr hn hl
def opE (t r q : Int) (ds : List Int) (k nt nr pt pr : Int) (s : ByteArray) (p v : Int) : List Int := if opB t r q ds k nt nr pt pr s p v then encO t r ds k nt nr pt pr s p v else []

set_option maxHeartbeats 400000 in
theorem opBytes_no (t r q : Int) (da : Option Addr) (ds : List Int) (dn dc : Nat) (k nt nr pt pr : Int) (s : ByteArray) (p v : Int) (w : World) (ht : Pr.Tab w) (hr : RowK .i64 w da ds) (hn : dn = ds.length) (hl : ds.length ≤ 140737488355328) (h : opB t r q ds k nt nr pt pr s p v = false) : Calls Tryd.prog 32 #[.agg #[.int .i64 t, .int .i64 r, .int .i64 q, .slice da dn dc, .int .i64 k, .int .i64 nt, .int .i64 nr, .int .i64 pt, .int .i64 pr, .string s, .int .i64 p, .int .i64 v]] w (BothPost w [] 1) := by
  have HB := Lib.hid (box_bel w (.cells #[.int .i64 t, .int .i64 r, .int .i64 q, .slice da dn dc, .int .i64 k, .int .i64 nt, .int .i64 nr, .int .i64 pt, .int .i64 pr, .string s, .int .i64 p, .int .i64 v] 27))
  have C := Lib.hid (check_is t r q da ds dn dc k nt nr pt pr s p v (w.alloc (.cells #[.int .i64 t, .int .i64 r, .int .i64 q, .slice da dn dc, .int .i64 k, .int .i64 nt, .int .i64 nr, .int .i64 pt, .int .i64 pr, .string s, .int .i64 p, .int .i64 v] 27)) (ht.alloc _) (hr.alloc _) hn hl 1 (by rw [h]; rfl))
  clear ht hr hn hl h
  go_enter Tryd.func32, Tryd.ntmps32
  go_wp2
  refine wp_scope_jumps 0 (fun _ _ => False) (fun _ _ => 0) rfl ?_ ?_
  · go_wp2_with fail
    refine (C.out).mono ?_
    rintro e w1 ⟨rfl, hb1⟩
    have HB1 := Lib.hid (HB.out.trans (hb1.mono HB.out.size))
    clear hb1
    go_wp2
    simp only [Exit.jump]
    go_ret2
    exact ⟨_, rfl, OwnK.nil _ _ _ _, HB1.out⟩
  · intro _ _ h
    exact h.elim

set_option maxHeartbeats 4000000 in
set_option maxRecDepth 100000 in
theorem opBytes_yes (t r q : Int) (da : Option Addr) (ds : List Int) (dn dc : Nat) (k nt nr pt pr : Int) (s : ByteArray) (p v : Int) (w : World) (ht : Pr.Tab w) (hr : RowK .i64 w da ds) (hn : dn = ds.length) (hl : ds.length ≤ 140737488355328) (h : opB t r q ds k nt nr pt pr s p v = true) : Calls Tryd.prog 32 #[.agg #[.int .i64 t, .int .i64 r, .int .i64 q, .slice da dn dc, .int .i64 k, .int .i64 nt, .int .i64 nr, .int .i64 pt, .int .i64 pr, .string s, .int .i64 p, .int .i64 v]] w (BothPost w (encO t r ds k nt nr pt pr s p v) 0) := by
  have HB := Lib.hid (box_bel w (.cells #[.int .i64 t, .int .i64 r, .int .i64 q, .slice da dn dc, .int .i64 k, .int .i64 nt, .int .i64 nr, .int .i64 pt, .int .i64 pr, .string s, .int .i64 p, .int .i64 v] 27))
  have HLT := Lib.hid (hr.rowLt.mono (show w.heap.size ≤ w.heap.size + 1 by omega))
  have C := Lib.hid (check_is t r q da ds dn dc k nt nr pt pr s p v (w.alloc (.cells #[.int .i64 t, .int .i64 r, .int .i64 q, .slice da dn dc, .int .i64 k, .int .i64 nt, .int .i64 nr, .int .i64 pt, .int .i64 pr, .string s, .int .i64 p, .int .i64 v] 27)) (ht.alloc _) (hr.alloc _) hn hl 0 (by rw [h]; rfl))
  have HI0 : Hid (BytI w (w.alloc (.cells #[.int .i64 t, .int .i64 r, .int .i64 q, .slice da dn dc, .int .i64 k, .int .i64 nt, .int .i64 nr, .int .i64 pt, .int .i64 pr, .string s, .int .i64 p, .int .i64 v] 27)) w.heap.size t r q da ds dn dc k nt nr pt pr s p v (.slice none 0 0) (preE 0 t r ds k nt nr pt pr s p v)) := ⟨OpAt.new w t r q da ds dn dc k nt nr pt pr s p v, hr.alloc _, OwnK.nil _ _ _ _, HB.out, Nat.le_refl _⟩
  have HN := Lib.hid hn
  have HO := Lib.hid h
  clear ht hr hn hl h
  go_enter Tryd.func32, Tryd.ntmps32
  go_wp2
  refine wp_scope_jumps 0 (BytJ w w.heap.size t r q da ds dn dc k nt nr pt pr s p v) (fun a' _ => 6 - intOf (a'.tmps.getD 5 undef)) rfl ?_ ?_
  · go_wp2_with fail
    refine (C.out).mono ?_
    rintro e WX ⟨rfl, hb1⟩
    have HI := Lib.hid (HI0.out.next hb1)
    clear hb1 HI0 HB C
    generalize w.heap.size = g at *
    have HI6 : Hid (0 < 6) := (by omega : 0 < 6)
    have HS := Lib.hid HI.out.bel.size
    have hS0 := heldO_mk (w0 := WX) (n := WX.heap.size) HI.out.at_.drew (Below.refl WX.heap.size WX).drew
    have FA := Lib.hid (fun W => fieldAt_zero k W)
    have FB := Lib.hid (fun W (h : RowK .i64 W da ds) => part_zero t r q da ds dn dc k nt nr pt pr s p v W h HN.out HO.out)
    go_wp2_with fail
    go_step3
    go_wp2_with fail
    go_region_held3 (fun w' => w'.cell? ⟨g, 0, none⟩ = some (.int .i64 t) ∧ w'.cell? ⟨g, 0 + 1, none⟩ = some (.int .i64 r) ∧ w'.cell? ⟨g, 0 + 2, none⟩ = some (.int .i64 q) ∧ w'.cell? ⟨g, 0 + 3, none⟩ = some (.slice da dn dc) ∧ w'.cell? ⟨g, 0 + 4, none⟩ = some (.int .i64 k) ∧ w'.cell? ⟨g, 0 + 5, none⟩ = some (.int .i64 nt) ∧ w'.cell? ⟨g, 0 + 6, none⟩ = some (.int .i64 nr) ∧ w'.cell? ⟨g, 0 + 7, none⟩ = some (.int .i64 pt) ∧ w'.cell? ⟨g, 0 + 8, none⟩ = some (.int .i64 pr) ∧ w'.cell? ⟨g, 0 + 9, none⟩ = some (.string s) ∧ w'.cell? ⟨g, 0 + 10, none⟩ = some (.int .i64 p) ∧ w'.cell? ⟨g, 0 + 11, none⟩ = some (.int .i64 v) ∧ Hid (Below WX.heap.size WX w')) (assumption) (first
      | (go_at_call 63
         (with_reducible refine (FA.out _).mono ?_)
         rintro e w8 ⟨rfl, rfl⟩)
      | (go_at_call 62
         (with_reducible refine (FB.out WX.drew HI.out.row.drew).mono ?_)
         rintro e w9 ⟨v9, rfl, ho9, hb9⟩
         have hS9 := heldO_mk (w0 := WX) (n := WX.heap.size) (HI.out.at_.drew.next hb9) ((Below.refl WX.heap.size WX).drew.trans hb9)
         have HI9 := Lib.hid (HI.out.next ((Below.refl WX.heap.size WX).drew.trans hb9))
         obtain ⟨a9, n9, c9, rfl, hn9, hr9, hc9⟩ := ho9.form'
         have HN9 := Lib.hid hn9
         have HR9 := Lib.hid hr9
         clear ho9 hb9 hn9 hr9 hc9))
    clear hS0 hS9
    have HLn := Lib.hid (preE_len HO.out 0 (by have := HI6.out; omega))
    have HLp := Lib.hid (prtE_len HO.out 0 HI6.out)
    go_wp2_with (at_builtin
                 refine wpB_row rfl _ _ rfl (g + 1) w9 (.slice none 0 0) (preE 0 t r ds k nt nr pt pr s p v) (prtE 0 t r ds k nt nr pt pr s p v) a9 n9 c9 HN9.out rfl HI9.out.own rfl HR9.out (by have h1 := HLn.out; have h2 := HLp.out; have h3 := HI6.out; omega) HI9.out.at_.lt ?_
                 intro v6 w6 hp6
                 have HQ := Lib.hid (HI9.out.grew HLT.out hp6)
                 clear hp6)
    go_step3
    exact ⟨rfl, v6, 1, _, _, _, _, _, _, _, _, _, _, _, _, _, _, _, _, _, _, _, _, _, _, _, _, _, _, _, rfl, by omega, by rw [preE_succ]; exact HQ.out⟩
  · rintro a' WX ⟨v4, i, u2, u3, u6, u7, u8, u9, u10, u11, u12, u13, u14, u15, u16, u17, u18, u19, u20, u21, u22, u23, u24, u25, u26, u27, u28, u29, u30, rfl, hi6, hI⟩
    have HI := Lib.hid hI
    have HI6 := Lib.hid hi6
    clear hI hi6 HI0 HB C
    generalize w.heap.size = g at *
    have hw1 : wrap64 ((i : Int) + 1) = (i : Int) + 1 := IntWalk.wrap64_in _ (by have := HI6.out; omega)
    have hw2 : IntKind.i64.wrap ((i : Int) + 1) = (i : Int) + 1 := IntWalk.i64_in _ (by have := HI6.out; omega)
    by_cases hlast : i + 1 < 6
    · have hd : decide ((i : Int) + 1 < 6) = true := decide_eq_true (by omega)
      have HS := Lib.hid HI.out.bel.size
      have hS0 := heldO_mk (w0 := WX) (n := WX.heap.size) HI.out.at_.drew (Below.refl WX.heap.size WX).drew
      have FA := Lib.hid (fun W => fieldAt_is i k W HI6.out)
      have FB := Lib.hid (fun W (h : RowK .i64 W da ds) => part_any t r q da ds dn dc k nt nr pt pr s p v W h HN.out HO.out i HI6.out)
      go_wp2_with fail


      go_region_held3 (fun w' => w'.cell? ⟨g, 0, none⟩ = some (.int .i64 t) ∧ w'.cell? ⟨g, 0 + 1, none⟩ = some (.int .i64 r) ∧ w'.cell? ⟨g, 0 + 2, none⟩ = some (.int .i64 q) ∧ w'.cell? ⟨g, 0 + 3, none⟩ = some (.slice da dn dc) ∧ w'.cell? ⟨g, 0 + 4, none⟩ = some (.int .i64 k) ∧ w'.cell? ⟨g, 0 + 5, none⟩ = some (.int .i64 nt) ∧ w'.cell? ⟨g, 0 + 6, none⟩ = some (.int .i64 nr) ∧ w'.cell? ⟨g, 0 + 7, none⟩ = some (.int .i64 pt) ∧ w'.cell? ⟨g, 0 + 8, none⟩ = some (.int .i64 pr) ∧ w'.cell? ⟨g, 0 + 9, none⟩ = some (.string s) ∧ w'.cell? ⟨g, 0 + 10, none⟩ = some (.int .i64 p) ∧ w'.cell? ⟨g, 0 + 11, none⟩ = some (.int .i64 v) ∧ Hid (Below WX.heap.size WX w')) (assumption) (first
        | (go_at_call 63
           (with_reducible refine (FA.out _).mono ?_)
           rintro e w8 ⟨rfl, rfl⟩)
        | (go_at_call 62
           (with_reducible refine (FB.out WX.drew HI.out.row.drew).mono ?_)
           rintro e w9 ⟨v9, rfl, ho9, hb9⟩
           have hS9 := heldO_mk (w0 := WX) (n := WX.heap.size) (HI.out.at_.drew.next hb9) ((Below.refl WX.heap.size WX).drew.trans hb9)
           have HI9 := Lib.hid (HI.out.next ((Below.refl WX.heap.size WX).drew.trans hb9))
           obtain ⟨a9, n9, c9, rfl, hn9, hr9, hc9⟩ := ho9.form'
           have HN9 := Lib.hid hn9
           have HR9 := Lib.hid hr9
           clear ho9 hb9 hn9 hr9 hc9))
      clear hS0 hS9
      have HLn := Lib.hid (preE_len HO.out i (by have := HI6.out; omega))
      have HLp := Lib.hid (prtE_len HO.out i HI6.out)
      go_wp2_with (at_builtin
                   refine wpB_row rfl _ _ rfl (g + 1) w9 v4 (preE i t r ds k nt nr pt pr s p v) (prtE i t r ds k nt nr pt pr s p v) a9 n9 c9 HN9.out rfl HI9.out.own rfl HR9.out (by have h1 := HLn.out; have h2 := HLp.out; have h3 := HI6.out; omega) HI9.out.at_.lt ?_
                   intro v6 w6 hp6
                   have HQ := Lib.hid (HI9.out.grew HLT.out hp6)
                   clear hp6)
      go_step3
      refine ⟨rfl, ⟨v6, i + 1, _, _, _, _, _, _, _, _, _, _, _, _, _, _, _, _, _, _, _, _, _, _, _, _, _, _, _, rfl, by omega, by rw [preE_succ]; exact HQ.out⟩, ?_⟩
      simp [intOf]
      omega
    · have hd : decide ((i : Int) + 1 < 6) = false := decide_eq_false (by omega)
      have HI5 : Hid (i = 5) := (by have := HI6.out; omega : i = 5)
      have HS := Lib.hid HI.out.bel.size
      have hS0 := heldO_mk (w0 := WX) (n := WX.heap.size) HI.out.at_.drew (Below.refl WX.heap.size WX).drew
      have FA := Lib.hid (fun W => fieldAt_is i k W HI6.out)
      have FB := Lib.hid (fun W (h : RowK .i64 W da ds) => part_any t r q da ds dn dc k nt nr pt pr s p v W h HN.out HO.out i HI6.out)
      go_wp2_with fail


      go_region_held3 (fun w' => w'.cell? ⟨g, 0, none⟩ = some (.int .i64 t) ∧ w'.cell? ⟨g, 0 + 1, none⟩ = some (.int .i64 r) ∧ w'.cell? ⟨g, 0 + 2, none⟩ = some (.int .i64 q) ∧ w'.cell? ⟨g, 0 + 3, none⟩ = some (.slice da dn dc) ∧ w'.cell? ⟨g, 0 + 4, none⟩ = some (.int .i64 k) ∧ w'.cell? ⟨g, 0 + 5, none⟩ = some (.int .i64 nt) ∧ w'.cell? ⟨g, 0 + 6, none⟩ = some (.int .i64 nr) ∧ w'.cell? ⟨g, 0 + 7, none⟩ = some (.int .i64 pt) ∧ w'.cell? ⟨g, 0 + 8, none⟩ = some (.int .i64 pr) ∧ w'.cell? ⟨g, 0 + 9, none⟩ = some (.string s) ∧ w'.cell? ⟨g, 0 + 10, none⟩ = some (.int .i64 p) ∧ w'.cell? ⟨g, 0 + 11, none⟩ = some (.int .i64 v) ∧ Hid (Below WX.heap.size WX w')) (assumption) (first
        | (go_at_call 63
           (with_reducible refine (FA.out _).mono ?_)
           rintro e w8 ⟨rfl, rfl⟩)
        | (go_at_call 62
           (with_reducible refine (FB.out WX.drew HI.out.row.drew).mono ?_)
           rintro e w9 ⟨v9, rfl, ho9, hb9⟩
           have hS9 := heldO_mk (w0 := WX) (n := WX.heap.size) (HI.out.at_.drew.next hb9) ((Below.refl WX.heap.size WX).drew.trans hb9)
           have HI9 := Lib.hid (HI.out.next ((Below.refl WX.heap.size WX).drew.trans hb9))
           obtain ⟨a9, n9, c9, rfl, hn9, hr9, hc9⟩ := ho9.form'
           have HN9 := Lib.hid hn9
           have HR9 := Lib.hid hr9
           clear ho9 hb9 hn9 hr9 hc9))
      clear hS0 hS9
      have HLn := Lib.hid (preE_len HO.out i (by have := HI6.out; omega))
      have HLp := Lib.hid (prtE_len HO.out i HI6.out)
      go_wp2_with (at_builtin
                   refine wpB_row rfl _ _ rfl (g + 1) w9 v4 (preE i t r ds k nt nr pt pr s p v) (prtE i t r ds k nt nr pt pr s p v) a9 n9 c9 HN9.out rfl HI9.out.own rfl HR9.out (by have h1 := HLn.out; have h2 := HLp.out; have h3 := HI6.out; omega) HI9.out.at_.lt ?_
                   intro v6 w6 hp6
                   have HQ := Lib.hid (HI9.out.grew HLT.out hp6)
                   clear hp6)
      go_wp2
      simp only [Exit.jump]
      go_ret2
      have h5 := HI5.out
      subst h5
      exact ⟨v6, rfl, (by unfold encO; rw [preE_succ]; exact HQ.out.own.mono (by have := HQ.out.ge; omega)), HQ.out.bel⟩
end Go.Proofs.YtfhppfbmnnkikaaDoor

/- What is cut off, and what was taken, of stamps, rows and texts: mathematics. -/
namespace Go.Proofs.YtfhppfbmnnkikaaDoor
open Go.RowKit Go.Lib
set_option linter.unusedVariables false

theorem tkN_pair {bs : List Int} (h : (tkN bs).2.2 = 0) : tkN bs = ((tkN bs).1, (tkN bs).2.1, 0) := by
  rw [← h]

/-- stamps -/
theorem tkSt_cut {t r : Int} (h : St.plB t r = true) {j : Nat} (hj : j < (St.encS t r).length) : St.tkSt ((St.encS t r).take j) = (0, 0, 0, 7) := by
  obtain ⟨h1, h2, h3, h4⟩ := St.plB_num h
  unfold St.encS at hj ⊢
  rw [List.length_append] at hj
  by_cases hc : j < (enc t.toNat).length
  · rw [List.take_append_of_le_length (by omega)]
    have e := tkN_cut (n := t.toNat) (by omega) hc
    rw [St.tkSt_err (by rw [e]; decide), e]
  · have e : (enc t.toNat ++ enc r.toNat).take j = enc t.toNat ++ (enc r.toNat).take (j - (enc t.toNat).length) := by
      rw [List.take_append, List.take_of_length_le (by omega)]
    have e2 := tkN_enc (n := t.toNat) (by omega) ((enc r.toNat).take (j - (enc t.toNat).length))
    have e3 := tkN_cut (n := r.toNat) (by omega) (j := j - (enc t.toNat).length) (by omega)
    rw [e]
    rw [St.tkSt_err2 (by rw [e2]) (by rw [e2]; simp only; rw [List.drop_left, e3]; decide), e2]
    simp only
    rw [List.drop_left, e3]
theorem tkSt_back {bs : List Int} (hb : IsB bs) (h : (St.tkSt bs).2.2.2 = 0) : St.plB (St.tkSt bs).1 (St.tkSt bs).2.1 = true ∧ (St.tkSt bs).2.2.1 ≤ bs.length ∧ St.encS (St.tkSt bs).1 (St.tkSt bs).2.1 = bs.take (St.tkSt bs).2.2.1 := by
  by_cases h1 : (tkN bs).2.2 = 0
  · by_cases h2 : (tkN (bs.drop (tkN bs).2.1)).2.2 = 0
    · cases h3 : St.plB (tkN bs).1 (tkN (bs.drop (tkN bs).2.1)).1
      · rw [St.tkSt_no h1 h2 h3] at h
        simp at h
      · rw [St.tkSt_yes h1 h2 h3]
        obtain ⟨a1, a2, a3, a4, a5⟩ := tkN_back hb h1
        obtain ⟨b1, b2, b3, b4, b5⟩ := tkN_back (hb.drop _) h2
        rw [List.length_drop] at b4
        refine ⟨h3, by simp only; omega, ?_⟩
        simp only [St.encS]
        rw [a5, b5, ← List.take_add]
    · rw [St.tkSt_err2 h1 h2] at h
      exact absurd h h2
  · rw [St.tkSt_err h1] at h
    exact absurd h h1
theorem tkSt_k (bs : List Int) (hb : IsB bs) : (St.tkSt bs).2.2.1 ≤ bs.length := by
  by_cases h : (St.tkSt bs).2.2.2 = 0
  · exact (tkSt_back hb h).2.1
  · by_cases h1 : (tkN bs).2.2 = 0
    · by_cases h2 : (tkN (bs.drop (tkN bs).2.1)).2.2 = 0
      · cases h3 : St.plB (tkN bs).1 (tkN (bs.drop (tkN bs).2.1)).1
        · rw [St.tkSt_no h1 h2 h3]; simp
        · rw [St.tkSt_yes h1 h2 h3] at h; simp at h
      · rw [St.tkSt_err2 h1 h2]; simp
    · rw [St.tkSt_err h1]; simp

/-- rows of numbers -/
theorem tkL_cut (bs : List Int) : ∀ (l : List Int) (p j : Nat) (acc : List Int), (∀ z ∈ l, numB z = true) → bs.drop p = (encs l).take j → j < (encs l).length → tkL bs l.length p acc = ([], 0, 7) := by
  intro l
  induction l with
  | nil => intro p j acc _ _ hj; simp [encs] at hj
  | cons z r ih =>
    intro p j acc h hd hj
    have hz := h z (by simp)
    simp only [numB, decide_eq_true_eq] at hz
    rw [encs_cons] at hd hj
    rw [List.length_append] at hj
    rw [List.length_cons, tkL]
    by_cases hc : j < (enc z.toNat).length
    · rw [List.take_append_of_le_length (by omega)] at hd
      rw [hd, tkN_cut (by omega) hc]
      simp
    · have e : (enc z.toNat ++ encs r).take j = enc z.toNat ++ (encs r).take (j - (enc z.toNat).length) := by
        rw [List.take_append, List.take_of_length_le (by omega)]
      rw [e] at hd
      have e2 := tkN_enc (n := z.toNat) (by omega) ((encs r).take (j - (enc z.toNat).length))
      rw [← hd] at e2
      rw [e2]
      simp only
      rw [if_neg (by simp)]
      exact ih _ (j - (enc z.toNat).length) _ (fun y hy => h y (by simp [hy])) (by rw [← List.drop_drop, hd, List.drop_left]) (by omega)
theorem tkNs_cut {l : List Int} (h : ∀ z ∈ l, numB z = true) (hl : l.length ≤ 1024) {j : Nat} (hj : j < (encL l).length) : tkNs ((encL l).take j) = ([], 0, 7) := by
  unfold encL at hj ⊢
  rw [List.length_append] at hj
  by_cases hc : j < (enc l.length).length
  · rw [List.take_append_of_le_length (by omega)]
    unfold tkNs
    rw [tkN_cut (by omega) hc]
    simp
  · have e : (enc l.length ++ encs l).take j = enc l.length ++ (encs l).take (j - (enc l.length).length) := by
      rw [List.take_append, List.take_of_length_le (by omega)]
    have e2 := tkN_enc (n := l.length) (by omega) ((encs l).take (j - (enc l.length).length))
    unfold tkNs
    rw [e, e2]
    simp only
    rw [if_neg (by simp), if_neg (by omega), Int.toNat_natCast]
    exact tkL_cut _ l _ (j - (enc l.length).length) _ h (by rw [List.drop_left]) (by omega)
theorem tkL_back (bs : List Int) (hb : IsB bs) : ∀ (c p : Nat) (acc : List Int), (tkL bs c p acc).2.2 = 0 → ∃ l : List Int, l.length = c ∧ (tkL bs c p acc).1 = acc ++ l ∧ (tkL bs c p acc).2.1 = p + (encs l).length ∧ encs l = (bs.drop p).take (encs l).length := by
  intro c
  induction c with
  | zero => intro p acc _; exact ⟨[], rfl, by simp [tkL], by simp [tkL, encs], by simp [encs]⟩
  | succ c ih =>
    intro p acc h
    rw [tkL] at h ⊢
    by_cases he : (tkN (bs.drop p)).2.2 = 0
    · rw [if_neg (by simp [he])] at h ⊢
      obtain ⟨l, h1, h2, h3, h4⟩ := ih _ _ h
      obtain ⟨a1, a2, a3, a4, a5⟩ := tkN_back (hb.drop p) he
      have hlen : (enc (tkN (bs.drop p)).1.toNat).length = (tkN (bs.drop p)).2.1 := by
        rw [a5, List.length_take]; omega
      refine ⟨(tkN (bs.drop p)).1 :: l, by simp [h1], by rw [h2]; simp, ?_, ?_⟩
      · rw [h3, encs_cons, List.length_append, hlen]; omega
      · rw [encs_cons, List.length_append, hlen, List.take_add, List.drop_drop, ← h4, ← a5]
    · rw [if_pos he] at h
      exact absurd h he
theorem tkNs_back {bs : List Int} (hb : IsB bs) (h : (tkNs bs).2.2 = 0) : (tkNs bs).2.1 ≤ bs.length ∧ encL (tkNs bs).1 = bs.take (tkNs bs).2.1 := by
  unfold tkNs at h ⊢
  by_cases he : (tkN bs).2.2 = 0
  · rw [if_neg (by simp [he])] at h ⊢
    by_cases h2 : 1024 < (tkN bs).1
    · rw [if_pos h2] at h; simp at h
    · rw [if_neg h2] at h ⊢
      obtain ⟨a1, a2, a3, a4, a5⟩ := tkN_back hb he
      refine ⟨tkL_le bs hb _ _ _ a4, ?_⟩
      obtain ⟨l, h1, h2, h3, h4⟩ := tkL_back bs hb _ _ _ h
      rw [h2, h3, List.nil_append, encL, h1, a5, List.take_add, ← h4]
  · rw [if_pos he] at h
    exact absurd h he

/-- vectors -/
theorem tkV_cut {l : List Int} (h : Hv.vecB l = true) {j : Nat} (hj : j < (encL l).length) : Hv.tkV ((encL l).take j) = ([], 0, 7) := by
  have e := tkNs_cut (Hv.vec_num h) (by have := Hv.vecB_len h; omega) hj
  rw [Hv.tkV_err (by rw [e]; decide), e]
theorem tkV_back {bs : List Int} (hb : IsB bs) (h : (Hv.tkV bs).2.2 = 0) : Hv.vecB (Hv.tkV bs).1 = true ∧ (Hv.tkV bs).2.1 ≤ bs.length ∧ encL (Hv.tkV bs).1 = bs.take (Hv.tkV bs).2.1 := by
  by_cases h1 : (tkNs bs).2.2 = 0
  · cases h2 : Hv.vecB (tkNs bs).1
    · rw [Hv.tkV_no h1 h2] at h; simp at h
    · rw [Hv.tkV_yes h1 h2]
      exact ⟨h2, tkNs_back hb h1⟩
  · rw [Hv.tkV_err h1] at h
    exact absurd h h1
theorem tkV_k (bs : List Int) (hb : IsB bs) : (Hv.tkV bs).2.1 ≤ bs.length := by
  by_cases h : (Hv.tkV bs).2.2 = 0
  · exact (tkV_back hb h).2.1
  · by_cases h1 : (tkNs bs).2.2 = 0
    · cases h2 : Hv.vecB (tkNs bs).1
      · rw [Hv.tkV_no h1 h2]; simp
      · rw [Hv.tkV_yes h1 h2] at h; simp at h
    · rw [Hv.tkV_err h1]; simp

/-- texts -/
theorem strN_of {zs : List Int} (h : IsB zs) : strN (strOfNums zs) = zs := by
  unfold strN
  rw [strOfNums_data, List.map_map]
  conv => rhs; rw [← List.map_id zs]
  apply List.map_congr_left
  intro z hz
  have := h z hz
  simp only [Function.comp_apply, id_eq]
  rw [UInt8.toNat_ofNat']
  omega
theorem tkS_back {bs : List Int} (hb : IsB bs) (h : (tkS bs).2.2 = 0) : (tkS bs).1.size ≤ 65536 ∧ (tkS bs).2.1 ≤ bs.length ∧ enc (tkS bs).1.size ++ strN (tkS bs).1 = bs.take (tkS bs).2.1 := by
  unfold tkS at h ⊢
  by_cases he : (tkN bs).2.2 = 0
  · rw [if_neg (by simp [he])] at h ⊢
    by_cases h2 : 65536 < (tkN bs).1
    · rw [if_pos h2] at h; simp at h
    · rw [if_neg h2] at h ⊢
      by_cases h3 : (bs.length : Int) - (tkN bs).2.1 < (tkN bs).1
      · rw [if_pos h3] at h; simp at h
      · rw [if_neg h3] at h ⊢
        obtain ⟨a1, a2, a3, a4, a5⟩ := tkN_back hb he
        have hs : (strOfNums ((bs.drop (tkN bs).2.1).take (tkN bs).1.toNat)).size = (tkN bs).1.toNat := by
          rw [strOfNums_size, List.length_take, List.length_drop]; omega
        refine ⟨by simp only; omega, by simp only; omega, ?_⟩
        simp only
        rw [hs, strN_of ((hb.drop _).take _), a5, List.take_add]
  · rw [if_pos he] at h
    exact absurd h he
theorem tkS_k (bs : List Int) (hb : IsB bs) : (tkS bs).2.1 ≤ bs.length := by
  by_cases h : (tkS bs).2.2 = 0
  · exact (tkS_back hb h).2.1
  · unfold tkS at h ⊢
    split
    · simp
    · split
      · simp
      · split
        · simp
        · simp_all
end Go.Proofs.YtfhppfbmnnkikaaDoor

/- Which operation bytes begin with: mathematics. -/
namespace Go.Proofs.YtfhppfbmnnkikaaDoor
open Go.RowKit Go.Lib
set_option linter.unusedVariables false

/-- an operation's fields, but for its Seq -/
structure OpR where
  t : Int
  r : Int
  ds : List Int
  k : Int
  nt : Int
  nr : Int
  pt : Int
  pr : Int
  s : ByteArray
  p : Int
  v : Int
def zR : OpR := ⟨0, 0, [], 0, 0, 0, 0, 0, ⟨#[]⟩, 0, 0⟩
def OpR.prt (R : OpR) (i : Nat) : List Int := prtE i R.t R.r R.ds R.k R.nt R.nr R.pt R.pr R.s R.p R.v
def OpR.pre (R : OpR) (n : Nat) : List Int := preE n R.t R.r R.ds R.k R.nt R.nr R.pt R.pr R.s R.p R.v
theorem OpR.pre_succ (R : OpR) (n : Nat) : R.pre (n + 1) = R.pre n ++ R.prt n := preE_succ ..
def OpR.ok (R : OpR) (q : Int) : Bool := opB R.t R.r q R.ds R.k R.nt R.nr R.pt R.pr R.s R.p R.v
/-- the kind that bytes begin with -/
def tkK (bs : List Int) : Int × Nat × Int := if (tkN bs).2.2 ≠ 0 then (0, 0, (tkN bs).2.2) else if (tkN bs).1 = 1 ∨ (tkN bs).1 = 2 then tkN bs else (0, 0, 1)
/-- one field taken -/
def updF (f : Nat) (bs : List Int) (R : OpR) : OpR × Nat × Int :=
  match f with
  | 0 => ({ R with t := (St.tkSt bs).1, r := (St.tkSt bs).2.1 }, (St.tkSt bs).2.2.1, (St.tkSt bs).2.2.2)
  | 1 => ({ R with ds := (Hv.tkV bs).1 }, (Hv.tkV bs).2.1, (Hv.tkV bs).2.2)
  | 2 => ({ R with k := (tkK bs).1 }, (tkK bs).2.1, (tkK bs).2.2)
  | 3 => ({ R with nt := (St.tkSt bs).1, nr := (St.tkSt bs).2.1 }, (St.tkSt bs).2.2.1, (St.tkSt bs).2.2.2)
  | 4 => ({ R with pt := (St.tkSt bs).1, pr := (St.tkSt bs).2.1 }, (St.tkSt bs).2.2.1, (St.tkSt bs).2.2.2)
  | 5 => ({ R with s := (tkS bs).1 }, (tkS bs).2.1, (tkS bs).2.2)
  | 6 => ({ R with p := (tkN bs).1 }, (tkN bs).2.1, (tkN bs).2.2)
  | _ => ({ R with v := (tkN bs).1 - 1 }, (tkN bs).2.1, (tkN bs).2.2)
def stepR (bs : List Int) (i : Nat) (X : OpR × Nat × Int) : OpR × Nat × Int := updF (fAt i X.1.k) (bs.drop X.2.1) X.1
def runR (bs : List Int) : Nat → OpR × Nat × Int
  | 0 => (zR, 0, 0)
  | i + 1 => if (runR bs i).2.2 ≠ 0 then runR bs i else if (stepR bs i (runR bs i)).2.2 ≠ 0 then (zR, 0, (stepR bs i (runR bs i)).2.2) else ((stepR bs i (runR bs i)).1, (runR bs i).2.1 + (stepR bs i (runR bs i)).2.1, 0)
theorem runR_stay {bs : List Int} {i : Nat} (h : (runR bs i).2.2 ≠ 0) : runR bs (i + 1) = runR bs i := by rw [runR, if_pos h]
theorem runR_err {bs : List Int} {i : Nat} (h : (runR bs i).2.2 = 0) (h2 : (stepR bs i (runR bs i)).2.2 ≠ 0) : runR bs (i + 1) = (zR, 0, (stepR bs i (runR bs i)).2.2) := by rw [runR, if_neg (by simp [h]), if_pos h2]
theorem runR_ok {bs : List Int} {i : Nat} (h : (runR bs i).2.2 = 0) (h2 : (stepR bs i (runR bs i)).2.2 = 0) : runR bs (i + 1) = ((stepR bs i (runR bs i)).1, (runR bs i).2.1 + (stepR bs i (runR bs i)).2.1, 0) := by rw [runR, if_neg (by simp [h]), if_neg (by simp [h2])]
theorem runR_off {bs : List Int} {i j : Nat} (hij : i ≤ j) (h : (runR bs i).2.2 ≠ 0) : runR bs j = runR bs i := by
  induction hij with
  | refl => rfl
  | step _ ih => rw [runR_stay (by rw [ih]; exact h), ih]
def seqR (R : OpR) : Int := if R.r < R.ds.length then R.ds.getD R.r.toNat 0 + 1 else 0
/-- the operation that bytes begin with, its Seq, how many bytes, the error -/
def tkO (bs : List Int) : OpR × Int × Nat × Int :=
  if (runR bs 6).2.2 ≠ 0 then (zR, 0, 0, (runR bs 6).2.2) else if (runR bs 6).1.ok (seqR (runR bs 6).1) then ((runR bs 6).1, seqR (runR bs 6).1, (runR bs 6).2.1, 0) else (zR, 0, 0, 1)
theorem tkO_err {bs : List Int} (h : (runR bs 6).2.2 ≠ 0) : tkO bs = (zR, 0, 0, (runR bs 6).2.2) := by rw [tkO, if_pos h]
theorem tkO_no {bs : List Int} (h : (runR bs 6).2.2 = 0) (h2 : (runR bs 6).1.ok (seqR (runR bs 6).1) = false) : tkO bs = (zR, 0, 0, 1) := by rw [tkO, if_neg (by simp [h]), h2]; rfl
theorem tkO_yes {bs : List Int} (h : (runR bs 6).2.2 = 0) (h2 : (runR bs 6).1.ok (seqR (runR bs 6).1) = true) : tkO bs = ((runR bs 6).1, seqR (runR bs 6).1, (runR bs 6).2.1, 0) := by rw [tkO, if_neg (by simp [h]), h2]; rfl

/-- what is there when some parts are taken -/
def recI (i : Nat) (R : OpR) : OpR :=
  ⟨if 0 < i then R.t else 0, if 0 < i then R.r else 0, if 1 < i then R.ds else [], if 2 < i then R.k else 0, if 3 < i then R.nt else 0, if 3 < i then R.nr else 0,
   if 4 < i ∧ R.k = 1 then R.pt else 0, if 4 < i ∧ R.k = 1 then R.pr else 0, if 5 < i ∧ R.k = 1 then R.s else ⟨#[]⟩, if 4 < i ∧ R.k = 2 then R.p else 0, if 5 < i ∧ R.k = 2 then R.v else 0⟩
theorem tkK_enc {k : Int} (hk : k = 1 ∨ k = 2) (y : List Int) : tkK (enc k.toNat ++ y) = (k, (enc k.toNat).length, 0) := by
  have e := tkN_enc (n := k.toNat) (by omega) y
  unfold tkK
  rw [e]
  simp only
  rw [if_neg (by simp), if_pos (by omega), show ((k.toNat : Nat) : Int) = k by omega]
theorem tkK_cut {k : Int} (hk : k = 1 ∨ k = 2) {j : Nat} (hj : j < (enc k.toNat).length) : tkK ((enc k.toNat).take j) = (0, 0, 7) := by
  have e := tkN_cut (n := k.toNat) (by omega) hj
  unfold tkK
  rw [e]
  simp
theorem tkZ_enc {z : Int} (h : numB z = true) (y : List Int) : tkN (enc z.toNat ++ y) = (z, (enc z.toNat).length, 0) := by
  simp [numB] at h
  rw [tkN_enc (by omega), show ((z.toNat : Nat) : Int) = z by omega]
theorem tkZ_cut {z : Int} (h : numB z = true) {j : Nat} (hj : j < (enc z.toNat).length) : tkN ((enc z.toNat).take j) = (0, 0, 7) := by
  simp [numB] at h
  exact tkN_cut (by omega) hj

theorem upd_enc {R : OpR} {q : Int} (h : R.ok q = true) (i : Nat) (hi : i < 6) (y : List Int) : updF (fAt i (recI i R).k) (R.prt i ++ y) (recI i R) = (recI (i + 1) R, (R.prt i).length, 0) := by
  obtain ⟨t, r, ds, k, nt, nr, pt, pr, s, p, v⟩ := R
  obtain ⟨h1, h2, h3, h4⟩ := opB_parts h
  simp only at h1 h2 h3 h4
  obtain ⟨g1, g2, g3, g4, g5⟩ := cntB_parts h3
  match i, hi with
  | 0, _ =>
    have e := St.tkSt_enc (st_pl h1) y
    simp [recI, OpR.prt, prtE, fAt, fldE, updF, e]
  | 1, _ =>
    have e := Hv.tkV_enc g1 y
    simp [recI, OpR.prt, prtE, fAt, fldE, updF, e]
  | 2, _ =>
    have e := tkK_enc (k := k) (by rcases kndB_parts h4 with ⟨rfl, _⟩ | ⟨rfl, _⟩ <;> simp) y
    simp [recI, OpR.prt, prtE, fAt, fldE, updF, e]
  | 3, _ =>
    have e := St.tkSt_enc (st_pl h2) y
    simp [recI, OpR.prt, prtE, fAt, fldE, updF, e]
  | 4, _ =>
    rcases kndB_parts h4 with ⟨rfl, k1, k2, k3, k4⟩ | ⟨rfl, k1, k2, k3, k4⟩
    · have e := St.tkSt_enc k1 y
      simp [recI, OpR.prt, prtE, fAt, fldE, updF, e]
    · have := errP_bd k1
      have e := tkZ_enc (z := p) (by simp [numB]; omega) y
      simp [recI, OpR.prt, prtE, fAt, fldE, updF, e]
  | 5, _ =>
    rcases kndB_parts h4 with ⟨rfl, k1, k2, k3, k4⟩ | ⟨rfl, k1, k2, k3, k4⟩
    · have e := tkS_enc s (by have := keyB_len k2; omega) y
      rw [List.append_assoc] at e
      simp [recI, OpR.prt, prtE, fAt, fldE, updF, e]
    · have := errP_bd k1
      have e := tkZ_enc (z := v + 1) (by simp [numB]; omega) y
      simp [recI, OpR.prt, prtE, fAt, fldE, updF, e]
theorem upd_cut {R : OpR} {q : Int} (h : R.ok q = true) (i : Nat) (hi : i < 6) {j : Nat} (hj : j < (R.prt i).length) : (updF (fAt i (recI i R).k) ((R.prt i).take j) (recI i R)).2.2 = 7 := by
  obtain ⟨t, r, ds, k, nt, nr, pt, pr, s, p, v⟩ := R
  obtain ⟨h1, h2, h3, h4⟩ := opB_parts h
  simp only at h1 h2 h3 h4
  obtain ⟨g1, g2, g3, g4, g5⟩ := cntB_parts h3
  match i, hi with
  | 0, _ => exact congrArg (fun x => x.2.2.2) (tkSt_cut (st_pl h1) hj)
  | 1, _ => exact congrArg (fun x => x.2.2) (tkV_cut g1 hj)
  | 2, _ => exact congrArg (fun x => x.2.2) (tkK_cut (k := k) (by rcases kndB_parts h4 with ⟨rfl, _⟩ | ⟨rfl, _⟩ <;> simp) hj)
  | 3, _ => exact congrArg (fun x => x.2.2.2) (tkSt_cut (st_pl h2) hj)
  | 4, _ =>
    rcases kndB_parts h4 with ⟨rfl, k1, k2, k3, k4⟩ | ⟨rfl, k1, k2, k3, k4⟩
    · exact congrArg (fun x => x.2.2.2) (tkSt_cut k1 hj)
    · have := errP_bd k1
      exact congrArg (fun x => x.2.2) (tkZ_cut (z := p) (by simp [numB]; omega) hj)
  | 5, _ =>
    rcases kndB_parts h4 with ⟨rfl, k1, k2, k3, k4⟩ | ⟨rfl, k1, k2, k3, k4⟩
    · exact congrArg (fun x => x.2.2) (tkS_cut s (by have := keyB_len k2; omega) hj)
    · have := errP_bd k1
      exact congrArg (fun x => x.2.2) (tkZ_cut (z := v + 1) (by simp [numB]; omega) hj)
theorem run_enc {R : OpR} {q : Int} (h : R.ok q = true) : ∀ (n : Nat) (bs y : List Int), n ≤ 6 → bs = R.pre n ++ y → runR bs n = (recI n R, (R.pre n).length, 0) := by
  intro n
  induction n with
  | zero => intro bs y _ _; simp [runR, recI, OpR.pre, preE, zR]
  | succ n ih =>
    intro bs y hn hb
    rw [OpR.pre_succ, List.append_assoc] at hb
    have e := ih bs _ (by omega) hb
    have es : stepR bs n (runR bs n) = (recI (n + 1) R, (R.prt n).length, 0) := by
      unfold stepR
      rw [e]
      simp only
      rw [hb, List.drop_left]
      exact upd_enc h n (by omega) y
    rw [runR_ok (by rw [e]) (by rw [es]), es, e, OpR.pre_succ, List.length_append]
theorem run_cut {R : OpR} {q : Int} (h : R.ok q = true) : ∀ (n j : Nat) (bs z : List Int), n ≤ 6 → bs = (R.pre n ++ z).take j → j < (R.pre n).length → (runR bs n).2.2 = 7 := by
  intro n
  induction n with
  | zero => intro j bs z _ _ hj; simp [OpR.pre, preE] at hj
  | succ n ih =>
    intro j bs z hn hb hj
    rw [OpR.pre_succ, List.length_append] at hj
    rw [OpR.pre_succ, List.append_assoc] at hb
    by_cases hc : j < (R.pre n).length
    · have e := ih j bs _ (by omega) hb hc
      rw [runR_stay (by rw [e]; decide), e]
    · have e2 : bs = R.pre n ++ (R.prt n).take (j - (R.pre n).length) := by
        rw [hb, List.take_append, List.take_of_length_le (by omega), List.take_append_of_le_length (by omega)]
      have e := run_enc h n bs _ (by omega) e2
      have es : (stepR bs n (runR bs n)).2.2 = 7 := by
        unfold stepR
        rw [e]
        simp only
        rw [e2, List.drop_left]
        exact upd_cut h n (by omega) (by omega)
      rw [runR_err (by rw [e]) (by rw [es]; decide), es]
theorem strN_nil {s : ByteArray} (h : strN s = []) : s = ⟨#[]⟩ := by rw [← strOf_strN s, h]; rfl
theorem rec6 {R : OpR} {q : Int} (h : R.ok q = true) : recI 6 R = R := by
  obtain ⟨t, r, ds, k, nt, nr, pt, pr, s, p, v⟩ := R
  obtain ⟨h1, h2, h3, h4⟩ := opB_parts h
  rcases kndB_parts h4 with ⟨rfl, k1, k2, rfl, rfl⟩ | ⟨rfl, k1, rfl, rfl, k4⟩
  · simp [recI]
  · have e : s = ⟨#[]⟩ := strN_nil k4
    subst e
    simp [recI]
theorem seqR_is {R : OpR} {q : Int} (h : R.ok q = true) : seqR R = q := by
  obtain ⟨h1, h2, h3, h4⟩ := opB_parts h
  obtain ⟨g1, g2, g3, g4, g5⟩ := cntB_parts h3
  rw [seqR, if_pos g2, g5]
theorem tkO_enc {R : OpR} {q : Int} (h : R.ok q = true) (x : List Int) : tkO (R.pre 6 ++ x) = (R, q, (R.pre 6).length, 0) := by
  have e := run_enc h 6 _ x (by omega) rfl
  rw [rec6 h] at e
  rw [tkO_yes (by rw [e]) (by rw [e]; simp only; rw [seqR_is h]; exact h), e]
  simp only
  rw [seqR_is h]
theorem tkO_cut {R : OpR} {q : Int} (h : R.ok q = true) {j : Nat} (hj : j < (R.pre 6).length) : tkO ((R.pre 6).take j) = (zR, 0, 0, 7) := by
  have e := run_cut h 6 j ((R.pre 6).take j) [] (by omega) (by simp) hj
  rw [tkO_err (by rw [e]; decide), e]

theorem tkK_back {bs : List Int} (hb : IsB bs) (h : (tkK bs).2.2 = 0) : ((tkK bs).1 = 1 ∨ (tkK bs).1 = 2) ∧ (tkK bs).2.1 ≤ bs.length ∧ enc (tkK bs).1.toNat = bs.take (tkK bs).2.1 := by
  unfold tkK at h ⊢
  by_cases he : (tkN bs).2.2 = 0
  · rw [if_neg (by simp [he])] at h ⊢
    by_cases h2 : (tkN bs).1 = 1 ∨ (tkN bs).1 = 2
    · rw [if_pos h2]
      obtain ⟨a1, a2, a3, a4, a5⟩ := tkN_back hb he
      exact ⟨h2, a4, a5⟩
    · rw [if_neg h2] at h; simp at h
  · rw [if_pos he] at h
    exact absurd h he
/-- what was taken was written so -/
theorem upd_back {bs : List Int} (hb : IsB bs) (R : OpR) (n : Nat) (hn : n < 6) (h : (updF (fAt n R.k) bs R).2.2 = 0) : (updF (fAt n R.k) bs R).1.pre n = R.pre n ∧ (updF (fAt n R.k) bs R).2.1 ≤ bs.length ∧ (updF (fAt n R.k) bs R).1.prt n = bs.take (updF (fAt n R.k) bs R).2.1 := by
  match n, hn with
  | 0, _ => exact ⟨rfl, (tkSt_back hb h).2⟩
  | 1, _ => exact ⟨by simp [OpR.pre, preE, prtE, fldE, fAt, updF, List.range_succ], (tkV_back hb h).2⟩
  | 2, _ => exact ⟨by simp [OpR.pre, preE, prtE, fldE, fAt, updF, List.range_succ], (tkK_back hb h).2⟩
  | 3, _ => exact ⟨by simp [OpR.pre, preE, prtE, fldE, fAt, updF, List.range_succ], (tkSt_back hb h).2⟩
  | 4, _ =>
    by_cases hk : R.k = 2
    · have e : fAt 4 R.k = 6 := by simp [fAt, hk]
      rw [e] at h ⊢
      obtain ⟨a1, a2, a3, a4, a5⟩ := tkN_back hb h
      refine ⟨by simp [OpR.pre, preE, prtE, fldE, fAt, updF, List.range_succ], a4, ?_⟩
      rw [← show _ = bs.take (updF 6 bs R).2.1 from a5]
      simp [OpR.prt, prtE, fldE, fAt, updF, hk]
    · have e : fAt 4 R.k = 4 := by simp [fAt, hk]
      rw [e] at h ⊢
      obtain ⟨a1, a2, a3⟩ := tkSt_back hb h
      refine ⟨by simp [OpR.pre, preE, prtE, fldE, fAt, updF, List.range_succ], a2, ?_⟩
      rw [← show _ = bs.take (updF 4 bs R).2.1 from a3]
      simp [OpR.prt, prtE, fldE, fAt, updF, hk]
  | 5, _ =>
    by_cases hk : R.k = 2
    · have e : fAt 5 R.k = 7 := by simp [fAt, hk]
      rw [e] at h ⊢
      obtain ⟨a1, a2, a3, a4, a5⟩ := tkN_back hb h
      refine ⟨by simp [OpR.pre, preE, prtE, fldE, fAt, updF, List.range_succ, hk], a4, ?_⟩
      rw [← show _ = bs.take (updF 7 bs R).2.1 from a5]
      simp [OpR.prt, prtE, fldE, fAt, updF, hk]
    · have e : fAt 5 R.k = 5 := by simp [fAt, hk]
      rw [e] at h ⊢
      obtain ⟨a1, a2, a3⟩ := tkS_back hb h
      refine ⟨by simp [OpR.pre, preE, prtE, fldE, fAt, updF, List.range_succ, hk], a2, ?_⟩
      rw [← show _ = bs.take (updF 5 bs R).2.1 from a3]
      simp [OpR.prt, prtE, fldE, fAt, updF, hk]
theorem run_back {bs : List Int} (hb : IsB bs) : ∀ n : Nat, n ≤ 6 → (runR bs n).2.2 = 0 → (runR bs n).2.1 ≤ bs.length ∧ (runR bs n).1.pre n = bs.take (runR bs n).2.1 := by
  intro n
  induction n with
  | zero => intro _ _; simp [runR, OpR.pre, preE]
  | succ n ih =>
    intro hn h
    by_cases h0 : (runR bs n).2.2 = 0
    · by_cases h1 : (stepR bs n (runR bs n)).2.2 = 0
      · obtain ⟨i1, i2⟩ := ih (by omega) h0
        obtain ⟨u1, u2, u3⟩ := upd_back (hb.drop (runR bs n).2.1) (runR bs n).1 n (by omega) h1
        rw [runR_ok h0 h1]
        simp only
        rw [List.length_drop] at u2
        refine ⟨by unfold stepR; omega, ?_⟩
        rw [OpR.pre_succ]
        unfold stepR
        rw [u1, u3, i2, List.take_add]
      · rw [runR_err h0 h1] at h
        exact absurd h h1
    · rw [runR_stay h0] at h
      exact absurd h h0
theorem run_k {bs : List Int} (hb : IsB bs) (n : Nat) (hn : n ≤ 6) (h : (runR bs n).2.2 = 0) : (runR bs n).2.1 ≤ bs.length := (run_back hb n hn h).1
theorem upd_keep {bs : List Int} (hb : IsB bs) (R : OpR) (n : Nat) (hn : n < 6) (h : (updF (fAt n R.k) bs R).2.2 = 0) (h0 : 0 < n → St.plB R.t R.r = true) (h1 : 1 < n → Hv.vecB R.ds = true) : St.plB (updF (fAt n R.k) bs R).1.t (updF (fAt n R.k) bs R).1.r = true ∧ (0 < n → Hv.vecB (updF (fAt n R.k) bs R).1.ds = true) := by
  match n, hn with
  | 0, _ => exact ⟨(tkSt_back hb h).1, fun h => by omega⟩
  | 1, _ => exact ⟨h0 (by omega), fun _ => (tkV_back hb h).1⟩
  | 2, _ => exact ⟨h0 (by omega), fun _ => h1 (by omega)⟩
  | 3, _ => exact ⟨h0 (by omega), fun _ => h1 (by omega)⟩
  | 4, _ =>
    by_cases hk : R.k = 2
    · have e : fAt 4 R.k = 6 := by simp [fAt, hk]
      rw [e]; exact ⟨h0 (by omega), fun _ => h1 (by omega)⟩
    · have e : fAt 4 R.k = 4 := by simp [fAt, hk]
      rw [e]; exact ⟨h0 (by omega), fun _ => h1 (by omega)⟩
  | 5, _ =>
    by_cases hk : R.k = 2
    · have e : fAt 5 R.k = 7 := by simp [fAt, hk]
      rw [e]; exact ⟨h0 (by omega), fun _ => h1 (by omega)⟩
    · have e : fAt 5 R.k = 5 := by simp [fAt, hk]
      rw [e]; exact ⟨h0 (by omega), fun _ => h1 (by omega)⟩
theorem run_keep {bs : List Int} (hb : IsB bs) : ∀ n : Nat, n ≤ 6 → (runR bs n).2.2 = 0 → (0 < n → St.plB (runR bs n).1.t (runR bs n).1.r = true) ∧ (1 < n → Hv.vecB (runR bs n).1.ds = true) := by
  intro n
  induction n with
  | zero => intro _ _; exact ⟨fun h => by omega, fun h => by omega⟩
  | succ n ih =>
    intro hn h
    by_cases h0 : (runR bs n).2.2 = 0
    · by_cases h1 : (stepR bs n (runR bs n)).2.2 = 0
      · obtain ⟨i1, i2⟩ := ih (by omega) h0
        obtain ⟨u1, u2⟩ := upd_keep (hb.drop (runR bs n).2.1) (runR bs n).1 n (by omega) h1 i1 i2
        rw [runR_ok h0 h1]
        exact ⟨fun _ => u1, fun h => u2 (by omega)⟩
      · rw [runR_err h0 h1] at h
        exact absurd h h1
    · rw [runR_stay h0] at h
      exact absurd h h0
theorem tkO_back {bs : List Int} (hb : IsB bs) (h : (tkO bs).2.2.2 = 0) : (tkO bs).1.ok (tkO bs).2.1 = true ∧ (tkO bs).2.2.1 ≤ bs.length ∧ (tkO bs).1.pre 6 = bs.take (tkO bs).2.2.1 := by
  by_cases h0 : (runR bs 6).2.2 = 0
  · cases h2 : (runR bs 6).1.ok (seqR (runR bs 6).1)
    · rw [tkO_no h0 h2] at h; simp at h
    · rw [tkO_yes h0 h2]
      exact ⟨h2, run_back hb 6 (by omega) h0⟩
  · rw [tkO_err h0] at h
    exact absurd h h0
end Go.Proofs.YtfhppfbmnnkikaaDoor

/- Blocks of one's own; one field taken. -/
namespace Go.Proofs.YtfhppfbmnnkikaaDoor
open Go.RowKit Go.Lib
set_option linter.unusedVariables false

/-- a block of cells of one's own, that may be written -/
structure Blk (w : World) (g : Nat) (vs : List Value) : Prop where
  cell : ∀ i u, vs[i]? = some u → w.cell? ⟨g, i, none⟩ = some u
  free : ∀ i u, vs[i]? = some u → w.frozen? ⟨g, i, none⟩ = false
theorem Blk.lt {w : World} {g : Nat} {v : Value} {vs : List Value} (h : Blk w g (v :: vs)) : g < w.heap.size := World.block_lt_of_cell? _ _ (h.cell 0 v rfl)
theorem Blk.below {w w' : World} {g B : Nat} {vs : List Value} (h : Blk w g vs) (hb : Below B w w') (hB : g < B) : Blk w' g vs :=
  ⟨fun i u hi => (hb.cell (p := ⟨g, i, none⟩) hB).trans (h.cell i u hi), fun i u hi => (hb.frozen (p := ⟨g, i, none⟩) hB).trans (h.free i u hi)⟩
theorem Blk.next {w w' : World} {g : Nat} {v : Value} {vs : List Value} (h : Blk w g (v :: vs)) (hb : Below w.heap.size w w') : Blk w' g (v :: vs) := h.below hb h.lt
theorem Blk.set {w : World} {g : Nat} {vs : List Value} (h : Blk w g vs) (i : Nat) (u : Value) : Blk (w.setCell ⟨g, i, none⟩ u) g (vs.set i u) := by
  constructor
  · intro j x hj
    rw [List.getElem?_set] at hj
    by_cases e : i = j
    · subst e
      rw [if_pos rfl] at hj
      split at hj
      · rename_i hl
        cases hj
        exact World.cell?_setCell_same' _ _ _ (by rw [h.cell i _ (List.getElem?_eq_getElem hl)]; rfl)
      · cases hj
    · rw [if_neg e] at hj
      rw [World.cell?_setCell_other _ _ _ _ (by simp)]
      exact h.cell j x hj
  · intro j x hj
    rw [World.frozen?_setCell]
    rw [List.getElem?_set] at hj
    by_cases e : i = j
    · subst e
      rw [if_pos rfl] at hj
      split at hj
      · rename_i hl
        exact h.free i _ (List.getElem?_eq_getElem hl)
      · cases hj
    · rw [if_neg e] at hj
      exact h.free j x hj
theorem Blk.other {w : World} {g b : Nat} {vs : List Value} (h : Blk w g vs) (hne : b ≠ g) (i : Nat) (u : Value) : Blk (w.setCell ⟨b, i, none⟩ u) g vs :=
  ⟨fun j x hj => by rw [World.cell?_setCell_far _ _ _ _ (by simpa using hne)]; exact h.cell j x hj, fun j x hj => by rw [World.frozen?_setCell]; exact h.free j x hj⟩
theorem Blk.drew {w : World} {g : Nat} {vs : List Value} (h : Blk w g vs) : Blk w.drew g vs := ⟨h.cell, h.free⟩
theorem Blk.drewN {w : World} {g : Nat} {vs : List Value} (h : Blk w g vs) (n : Nat) : Blk (w.drewN n) g vs := ⟨h.cell, h.free⟩
theorem OwnK.far {kd : IntKind} {e : TypeId} {w : World} {base g : Nat} {v : Value} {zs : List Int} (h : OwnK kd e w base v zs) (hg : g < base) (i : Nat) (u : Value) : OwnK kd e (w.setCell ⟨g, i, none⟩ u) base v zs := by
  refine h.grown (grown_setCell w ⟨g, i, none⟩ u) ?_
  by_cases hn : v.ownBlock = some g
  · have := (h.lt hn).1
    omega
  · exact .inr hn

def OpR.cells (R : OpR) (q : Int) (d : Value) : List Value := [.int .i64 R.t, .int .i64 R.r, .int .i64 q, d, .int .i64 R.k, .int .i64 R.nt, .int .i64 R.nr, .int .i64 R.pt, .int .i64 R.pr, .string R.s, .int .i64 R.p, .int .i64 R.v]

def KindPost (bs : List Int) (w : World) (e : Ending) (w' : World) : Prop := e = .returned (.tuple #[.int .i64 (tkK bs).1, .int .i64 ((tkK bs).2.1 : Int), .int .i64 (tkK bs).2.2]) ∧ w = w'
set_option maxHeartbeats 1000000 in
theorem takeKind_any (a : Option Addr) (bs : List Int) (n cap : Nat) (w : World) (hn : n = bs.length) (hr : RowK .u8 w a bs) (hb : IsB bs) : Calls Tryd.prog 88 #[.slice a n cap] w (KindPost bs w) := by
  have C := Lib.hid (takeNum_n a bs n cap w hn hr hb)
  unfold KindPost tkK
  unfold TakePost at C
  clear hn hr hb
  generalize tkN bs = R at *
  obtain ⟨x1, x2, x3⟩ := R
  simp only at C ⊢
  by_cases h3 : x3 = 0
  · rw [if_neg (by simp [h3])]
    subst h3
    by_cases h1 : x1 = 1
    · subst h1
      rw [if_pos (by simp)]
      go_enter Tryd.func88, Tryd.ntmps88
      go_wp2_with fail
      refine (C.out).mono ?_
      rintro e w1 ⟨rfl, rfl⟩
      go_wp2
      go_ret3
      exact ⟨rfl, rfl⟩
    · have h1' : (x1 == 1) = false := by simpa using h1
      by_cases h2 : x1 = 2
      · subst h2
        rw [if_pos (by simp)]
        go_enter Tryd.func88, Tryd.ntmps88
        go_wp2_with fail
        refine (C.out).mono ?_
        rintro e w1 ⟨rfl, rfl⟩
        go_wp2
        go_ret3
        exact ⟨rfl, rfl⟩
      · have h2' : (x1 == 2) = false := by simpa using h2
        have h1n : (x1 != 1) = true := by simpa using h1
        have h2n : (x1 != 2) = true := by simpa using h2
        rw [if_neg (by simp [h1, h2])]
        go_enter Tryd.func88, Tryd.ntmps88
        go_wp2_with fail
        refine (C.out).mono ?_
        rintro e w1 ⟨rfl, rfl⟩
        go_wp2
        go_ret3
        exact ⟨rfl, rfl⟩
  · rw [if_pos h3]
    have h3' : (x3 == 0) = false := by simpa using h3
    go_enter Tryd.func88, Tryd.ntmps88
    go_wp2_with fail
    refine (C.out).mono ?_
    rintro e w1 ⟨rfl, rfl⟩
    go_wp2
    go_ret3
    exact ⟨rfl, rfl⟩

def FldPost (g : Nat) (X : OpR × Nat × Int) (q : Int) (w : World) (e : Ending) (w' : World) : Prop := ∃ d, e = .returned (.tuple #[.int .i64 (X.2.1 : Int), .int .i64 X.2.2]) ∧ Blk w' g (X.1.cells q d) ∧ OwnK .i64 3 w' (g + 1) d X.1.ds ∧ Below g w w'

set_option maxHeartbeats 1000000 in
theorem takeF0 (g : Nat) (R : OpR) (q : Int) (d : Value) (a : Option Addr) (bs : List Int) (n cap : Nat) (w : World) (hB : Blk w g (R.cells q d)) (ho : OwnK .i64 3 w (g + 1) d R.ds) (hn : n = bs.length) (hr : RowK .u8 w a bs) (hb : IsB bs) (hcap : bs.length ≤ cap) (hlen : bs.length ≤ 140737488355328) : Calls Tryd.prog 64 #[.pointer (some ⟨g, 0, none⟩), .int .i64 0, .slice a n cap] w (FldPost g (updF 0 bs R) q w) := by
  have hlt := hB.lt
  obtain ⟨⟨x1, x2, x3, x4⟩, hx⟩ : ∃ R, St.tkSt bs = R := ⟨_, rfl⟩
  have C := Lib.hid (St.take_is a bs n cap w hn hr hb hcap hlen hx)
  rw [show updF 0 bs R = ({ R with t := x1, r := x2 }, x3, x4) by simp only [updF, hx]]
  clear hn hr hb hcap hlen hx
  go_enter Tryd.func64, Tryd.ntmps64
  go_wp2_with fail
  refine (C.out).mono ?_
  rintro e w1 ⟨rfl, hb1⟩
  have hB1 := hB.next hb1
  have HB1 := Lib.hid hB1
  have HO1 := Lib.hid (ho.below hb1)
  have HL1 := Lib.hid (hb1.mono (Nat.le_of_lt hlt))
  have e0 := hB1.cell 0 _ rfl
  have e1 := hB1.cell 1 _ rfl
  have e2 := hB1.free 0 _ rfl
  have e3 := hB1.free 1 _ rfl
  clear hB1 hb1 ho hB hlt
  go_wp2
  go_ret2
  exact ⟨d, rfl, (HB1.out.set 0 _).set 1 _, (HO1.out.far (Nat.lt_succ_self g) _ _).far (Nat.lt_succ_self g) _ _, (HL1.out.setCell (p := ⟨g, 0, none⟩) (Nat.le_refl _) _).setCell (p := ⟨g, 1, none⟩) (Nat.le_refl _) _⟩

set_option maxHeartbeats 1000000 in
theorem takeF1 (g : Nat) (R : OpR) (q : Int) (d : Value) (a : Option Addr) (bs : List Int) (n cap : Nat) (w : World) (hB : Blk w g (R.cells q d)) (ho : OwnK .i64 3 w (g + 1) d R.ds) (hn : n = bs.length) (hr : RowK .u8 w a bs) (hb : IsB bs) (hcap : bs.length ≤ cap) (hlen : bs.length ≤ 140737488355328) : Calls Tryd.prog 64 #[.pointer (some ⟨g, 0, none⟩), .int .i64 1, .slice a n cap] w (FldPost g (updF 1 bs R) q w) := by
  have hlt := hB.lt
  obtain ⟨⟨x1, x2, x3⟩, hx⟩ : ∃ R, Hv.tkV bs = R := ⟨_, rfl⟩
  have C := Lib.hid (Hv.take_is a bs n cap w hn hr hb hcap hlen hx)
  rw [show updF 1 bs R = ({ R with ds := x1 }, x2, x3) by simp only [updF, hx]]
  clear hn hr hb hcap hlen hx
  go_enter Tryd.func64, Tryd.ntmps64
  go_wp2_with fail
  refine (C.out).mono ?_
  rintro e w1 ⟨v1, rfl, ho1, hb1⟩
  have hB1 := hB.next hb1
  have HB1 := Lib.hid hB1
  have HO1 := Lib.hid (ho1.mono (show g + 1 ≤ w.heap.size from hlt))
  have HL1 := Lib.hid (hb1.mono (Nat.le_of_lt hlt))
  have e0 := hB1.cell 3 _ rfl
  have e2 := hB1.free 3 _ rfl
  obtain ⟨a9, n9, c9, rfl, hn9, hr9, hc9⟩ := ho1.form'
  clear hB1 hb1 ho hB hlt ho1 hn9 hr9 hc9
  go_wp2
  go_ret2
  exact ⟨_, rfl, HB1.out.set 3 _, HO1.out.far (Nat.lt_succ_self g) _ _, HL1.out.setCell (p := ⟨g, 3, none⟩) (Nat.le_refl _) _⟩

set_option maxHeartbeats 1000000 in
theorem takeF2 (g : Nat) (R : OpR) (q : Int) (d : Value) (a : Option Addr) (bs : List Int) (n cap : Nat) (w : World) (hB : Blk w g (R.cells q d)) (ho : OwnK .i64 3 w (g + 1) d R.ds) (hn : n = bs.length) (hr : RowK .u8 w a bs) (hb : IsB bs) (hcap : bs.length ≤ cap) (hlen : bs.length ≤ 140737488355328) : Calls Tryd.prog 64 #[.pointer (some ⟨g, 0, none⟩), .int .i64 2, .slice a n cap] w (FldPost g (updF 2 bs R) q w) := by
  have hlt := hB.lt
  obtain ⟨⟨x1, x2, x3⟩, hx⟩ : ∃ R, tkK bs = R := ⟨_, rfl⟩
  have C := Lib.hid (takeKind_any a bs n cap w hn hr hb)
  unfold KindPost at C
  rw [hx] at C
  rw [show updF 2 bs R = ({ R with k := x1 }, x2, x3) by simp only [updF, hx]]
  clear hn hr hb hcap hlen hx
  go_enter Tryd.func64, Tryd.ntmps64
  go_wp2_with fail
  refine (C.out).mono ?_
  rintro e w1 ⟨rfl, rfl⟩
  have HB1 := Lib.hid hB
  have HO1 := Lib.hid ho
  have HL1 := Lib.hid (Below.refl g w)
  have e0 := hB.cell 4 _ rfl
  have e2 := hB.free 4 _ rfl
  clear ho hB hlt
  go_wp2
  go_ret2
  exact ⟨d, rfl, HB1.out.set 4 _, HO1.out.far (Nat.lt_succ_self g) _ _, HL1.out.setCell (p := ⟨g, 4, none⟩) (Nat.le_refl _) _⟩

set_option maxHeartbeats 1000000 in
theorem takeF3 (g : Nat) (R : OpR) (q : Int) (d : Value) (a : Option Addr) (bs : List Int) (n cap : Nat) (w : World) (hB : Blk w g (R.cells q d)) (ho : OwnK .i64 3 w (g + 1) d R.ds) (hn : n = bs.length) (hr : RowK .u8 w a bs) (hb : IsB bs) (hcap : bs.length ≤ cap) (hlen : bs.length ≤ 140737488355328) : Calls Tryd.prog 64 #[.pointer (some ⟨g, 0, none⟩), .int .i64 3, .slice a n cap] w (FldPost g (updF 3 bs R) q w) := by
  have hlt := hB.lt
  obtain ⟨⟨x1, x2, x3, x4⟩, hx⟩ : ∃ R, St.tkSt bs = R := ⟨_, rfl⟩
  have C := Lib.hid (St.take_is a bs n cap w hn hr hb hcap hlen hx)
  rw [show updF 3 bs R = ({ R with nt := x1, nr := x2 }, x3, x4) by simp only [updF, hx]]
  clear hn hr hb hcap hlen hx
  go_enter Tryd.func64, Tryd.ntmps64
  go_wp2_with fail
  refine (C.out).mono ?_
  rintro e w1 ⟨rfl, hb1⟩
  have hB1 := hB.next hb1
  have HB1 := Lib.hid hB1
  have HO1 := Lib.hid (ho.below hb1)
  have HL1 := Lib.hid (hb1.mono (Nat.le_of_lt hlt))
  have e0 := hB1.cell 5 _ rfl
  have e1 := hB1.cell 6 _ rfl
  have e2 := hB1.free 5 _ rfl
  have e3 := hB1.free 6 _ rfl
  clear hB1 hb1 ho hB hlt
  go_wp2
  go_ret2
  exact ⟨d, rfl, (HB1.out.set 5 _).set 6 _, (HO1.out.far (Nat.lt_succ_self g) _ _).far (Nat.lt_succ_self g) _ _, (HL1.out.setCell (p := ⟨g, 5, none⟩) (Nat.le_refl _) _).setCell (p := ⟨g, 6, none⟩) (Nat.le_refl _) _⟩

set_option maxHeartbeats 1000000 in
theorem takeF4 (g : Nat) (R : OpR) (q : Int) (d : Value) (a : Option Addr) (bs : List Int) (n cap : Nat) (w : World) (hB : Blk w g (R.cells q d)) (ho : OwnK .i64 3 w (g + 1) d R.ds) (hn : n = bs.length) (hr : RowK .u8 w a bs) (hb : IsB bs) (hcap : bs.length ≤ cap) (hlen : bs.length ≤ 140737488355328) : Calls Tryd.prog 64 #[.pointer (some ⟨g, 0, none⟩), .int .i64 4, .slice a n cap] w (FldPost g (updF 4 bs R) q w) := by
  have hlt := hB.lt
  obtain ⟨⟨x1, x2, x3, x4⟩, hx⟩ : ∃ R, St.tkSt bs = R := ⟨_, rfl⟩
  have C := Lib.hid (St.take_is a bs n cap w hn hr hb hcap hlen hx)
  rw [show updF 4 bs R = ({ R with pt := x1, pr := x2 }, x3, x4) by simp only [updF, hx]]
  clear hn hr hb hcap hlen hx
  go_enter Tryd.func64, Tryd.ntmps64
  go_wp2_with fail
  refine (C.out).mono ?_
  rintro e w1 ⟨rfl, hb1⟩
  have hB1 := hB.next hb1
  have HB1 := Lib.hid hB1
  have HO1 := Lib.hid (ho.below hb1)
  have HL1 := Lib.hid (hb1.mono (Nat.le_of_lt hlt))
  have e0 := hB1.cell 7 _ rfl
  have e1 := hB1.cell 8 _ rfl
  have e2 := hB1.free 7 _ rfl
  have e3 := hB1.free 8 _ rfl
  clear hB1 hb1 ho hB hlt
  go_wp2
  go_ret2
  exact ⟨d, rfl, (HB1.out.set 7 _).set 8 _, (HO1.out.far (Nat.lt_succ_self g) _ _).far (Nat.lt_succ_self g) _ _, (HL1.out.setCell (p := ⟨g, 7, none⟩) (Nat.le_refl _) _).setCell (p := ⟨g, 8, none⟩) (Nat.le_refl _) _⟩

set_option maxHeartbeats 1000000 in
theorem takeF5 (g : Nat) (R : OpR) (q : Int) (d : Value) (a : Option Addr) (bs : List Int) (n cap : Nat) (w : World) (hB : Blk w g (R.cells q d)) (ho : OwnK .i64 3 w (g + 1) d R.ds) (hn : n = bs.length) (hr : RowK .u8 w a bs) (hb : IsB bs) (hcap : bs.length ≤ cap) (hlen : bs.length ≤ 140737488355328) : Calls Tryd.prog 64 #[.pointer (some ⟨g, 0, none⟩), .int .i64 5, .slice a n cap] w (FldPost g (updF 5 bs R) q w) := by
  have hlt := hB.lt
  obtain ⟨⟨x1, x2, x3⟩, hx⟩ : ∃ R, tkS bs = R := ⟨_, rfl⟩
  have C := Lib.hid (takeText_n a bs n cap w hn hr hb hcap hlen)
  unfold TextPost at C
  rw [hx] at C
  rw [show updF 5 bs R = ({ R with s := x1 }, x2, x3) by simp only [updF, hx]]
  clear hn hr hb hcap hlen hx
  go_enter Tryd.func64, Tryd.ntmps64
  go_wp2_with fail
  refine (C.out).mono ?_
  rintro e w1 ⟨rfl, rfl⟩
  have HB1 := Lib.hid hB
  have HO1 := Lib.hid ho
  have HL1 := Lib.hid (Below.refl g w)
  have e0 := hB.cell 9 _ rfl
  have e2 := hB.free 9 _ rfl
  clear ho hB hlt
  go_wp2
  go_ret2
  exact ⟨d, rfl, HB1.out.set 9 _, HO1.out.far (Nat.lt_succ_self g) _ _, HL1.out.setCell (p := ⟨g, 9, none⟩) (Nat.le_refl _) _⟩

set_option maxHeartbeats 1000000 in
theorem takeF6 (g : Nat) (R : OpR) (q : Int) (d : Value) (a : Option Addr) (bs : List Int) (n cap : Nat) (w : World) (hB : Blk w g (R.cells q d)) (ho : OwnK .i64 3 w (g + 1) d R.ds) (hn : n = bs.length) (hr : RowK .u8 w a bs) (hb : IsB bs) (hcap : bs.length ≤ cap) (hlen : bs.length ≤ 140737488355328) : Calls Tryd.prog 64 #[.pointer (some ⟨g, 0, none⟩), .int .i64 6, .slice a n cap] w (FldPost g (updF 6 bs R) q w) := by
  have hlt := hB.lt
  obtain ⟨⟨x1, x2, x3⟩, hx⟩ : ∃ R, tkN bs = R := ⟨_, rfl⟩
  have C := Lib.hid (takeNum_n a bs n cap w hn hr hb)
  unfold TakePost at C
  rw [hx] at C
  rw [show updF 6 bs R = ({ R with p := x1 }, x2, x3) by simp only [updF, hx]]
  clear hn hr hb hcap hlen hx
  go_enter Tryd.func64, Tryd.ntmps64
  go_wp2_with fail
  refine (C.out).mono ?_
  rintro e w1 ⟨rfl, rfl⟩
  have HB1 := Lib.hid hB
  have HO1 := Lib.hid ho
  have HL1 := Lib.hid (Below.refl g w)
  have e0 := hB.cell 10 _ rfl
  have e2 := hB.free 10 _ rfl
  clear ho hB hlt
  go_wp2
  go_ret2
  exact ⟨d, rfl, HB1.out.set 10 _, HO1.out.far (Nat.lt_succ_self g) _ _, HL1.out.setCell (p := ⟨g, 10, none⟩) (Nat.le_refl _) _⟩

set_option maxHeartbeats 1000000 in
theorem takeF7 (g : Nat) (R : OpR) (q : Int) (d : Value) (a : Option Addr) (bs : List Int) (n cap : Nat) (w : World) (hB : Blk w g (R.cells q d)) (ho : OwnK .i64 3 w (g + 1) d R.ds) (hn : n = bs.length) (hr : RowK .u8 w a bs) (hb : IsB bs) (hcap : bs.length ≤ cap) (hlen : bs.length ≤ 140737488355328) : Calls Tryd.prog 64 #[.pointer (some ⟨g, 0, none⟩), .int .i64 7, .slice a n cap] w (FldPost g (updF 7 bs R) q w) := by
  have hlt := hB.lt
  obtain ⟨⟨x1, x2, x3⟩, hx⟩ : ∃ R, tkN bs = R := ⟨_, rfl⟩
  have C := Lib.hid (takeNum_n a bs n cap w hn hr hb)
  unfold TakePost at C
  rw [hx] at C
  rw [show updF 7 bs R = ({ R with v := x1 - 1 }, x2, x3) by simp only [updF, hx]]
  have hz := tkN_k bs hb
  rw [hx] at hz
  have hw1 : wrap64 (x1 - 1) = x1 - 1 := IntWalk.wrap64_in _ (by simp only at hz; omega)
  have hw2 : IntKind.i64.wrap (x1 - 1) = x1 - 1 := IntWalk.i64_in _ (by simp only at hz; omega)
  clear hn hr hb hcap hlen hx hz
  go_enter Tryd.func64, Tryd.ntmps64
  go_wp2_with fail
  refine (C.out).mono ?_
  rintro e w1 ⟨rfl, rfl⟩
  have HB1 := Lib.hid hB
  have HO1 := Lib.hid ho
  have HL1 := Lib.hid (Below.refl g w)
  have e0 := hB.cell 11 _ rfl
  have e2 := hB.free 11 _ rfl
  clear ho hB hlt
  go_wp2
  go_ret2
  exact ⟨d, rfl, (HB1.out.set 11 _).set 11 _, (HO1.out.far (Nat.lt_succ_self g) _ _).far (Nat.lt_succ_self g) _ _, (HL1.out.setCell (p := ⟨g, 11, none⟩) (Nat.le_refl _) _).setCell (p := ⟨g, 11, none⟩) (Nat.le_refl _) _⟩

theorem takeField_any (f : Nat) (hf : f < 8) (g : Nat) (R : OpR) (q : Int) (d : Value) (a : Option Addr) (bs : List Int) (n cap : Nat) (w : World) (hB : Blk w g (R.cells q d)) (ho : OwnK .i64 3 w (g + 1) d R.ds) (hn : n = bs.length) (hr : RowK .u8 w a bs) (hb : IsB bs) (hcap : bs.length ≤ cap) (hlen : bs.length ≤ 140737488355328) : Calls Tryd.prog 64 #[.pointer (some ⟨g, 0, none⟩), .int .i64 (f : Int), .slice a n cap] w (FldPost g (updF f bs R) q w) := by
  match f, hf with
  | 0, _ => exact takeF0 g R q d a bs n cap w hB ho hn hr hb hcap hlen
  | 1, _ => exact takeF1 g R q d a bs n cap w hB ho hn hr hb hcap hlen
  | 2, _ => exact takeF2 g R q d a bs n cap w hB ho hn hr hb hcap hlen
  | 3, _ => exact takeF3 g R q d a bs n cap w hB ho hn hr hb hcap hlen
  | 4, _ => exact takeF4 g R q d a bs n cap w hB ho hn hr hb hcap hlen
  | 5, _ => exact takeF5 g R q d a bs n cap w hB ho hn hr hb hcap hlen
  | 6, _ => exact takeF6 g R q d a bs n cap w hB ho hn hr hb hcap hlen
  | 7, _ => exact takeF7 g R q d a bs n cap w hB ho hn hr hb hcap hlen
end Go.Proofs.YtfhppfbmnnkikaaDoor

/- The operation that bytes begin with: the program's. -/
namespace Go.Proofs.YtfhppfbmnnkikaaDoor
open Go.RowKit Go.Lib
set_option linter.unusedVariables false

def TakeOp (R : OpR) (q : Int) (n : Nat) (x : Int) (w : World) (e : Ending) (w' : World) : Prop := ∃ da dn dc, e = .returned (.tuple #[.agg #[.int .i64 R.t, .int .i64 R.r, .int .i64 q, .slice da dn dc, .int .i64 R.k, .int .i64 R.nt, .int .i64 R.nr, .int .i64 R.pt, .int .i64 R.pr, .string R.s, .int .i64 R.p, .int .i64 R.v], .int .i64 (n : Int), .int .i64 x]) ∧ OwnK .i64 3 w' w.heap.size (.slice da dn dc) R.ds ∧ Below w.heap.size w w'
def TakeO (X : OpR × Int × Nat × Int) (w : World) : Ending → World → Prop := TakeOp X.1 X.2.1 X.2.2.1 X.2.2.2 w
theorem op_build0 (w : World) : (Instr.build 27 #[]).run Tryd.prog w = .ok (.agg #[.int .i64 0, .int .i64 0, .int .i64 0, .slice none 0 0, .int .i64 0, .int .i64 0, .int .i64 0, .int .i64 0, .int .i64 0, .string ⟨#[]⟩, .int .i64 0, .int .i64 0]) w := run_build w 27 _ _ (by kernel_rfl)
theorem blk_new (w : World) : Blk (w.alloc (.cells #[.int .i64 0, .int .i64 0, .int .i64 0, .slice none 0 0, .int .i64 0, .int .i64 0, .int .i64 0, .int .i64 0, .int .i64 0, .string ⟨#[]⟩, .int .i64 0, .int .i64 0] 27)) w.heap.size (zR.cells 0 (.slice none 0 0)) := by
  constructor
  · intro i u hi
    match i, hi with
    | 0, hi | 1, hi | 2, hi | 3, hi | 4, hi | 5, hi | 6, hi | 7, hi | 8, hi | 9, hi | 10, hi | 11, hi => simp [OpR.cells, zR] at hi; subst hi; simp
    | _ + 12, hi => simp [OpR.cells] at hi
  · intro i u hi
    match i, hi with
    | 0, hi | 1, hi | 2, hi | 3, hi | 4, hi | 5, hi | 6, hi | 7, hi | 8, hi | 9, hi | 10, hi | 11, hi => simp
    | _ + 12, hi => simp [OpR.cells] at hi
/-- what the loop over the parts keeps -/
structure TakI (w w' : World) (g : Nat) (R : OpR) (da : Option Addr) (dn dc : Nat) : Prop where
  blk : Blk w' g (R.cells 0 (.slice da dn dc))
  own : OwnK .i64 3 w' (g + 1) (.slice da dn dc) R.ds
  bel : Below g w w'
def TakJ (w : World) (g : Nat) (a : Option Addr) (bs : List Int) (n cap : Nat) (act : Act) (w' : World) : Prop :=
  ∃ (R : OpR) (kk i : Nat) (da : Option Addr) (dn dc : Nat) (u1 u4 u6 u7 u8 u9 u10 u11 u12 u13 u14 u15 u16 u17 u18 u19 u20 u21 u22 u23 u24 u25 u26 u27 u28 u29 u30 u31 u32 u33 u34 u35 u36 u37 u38 u39 u40 u41 u42 u43 u44 u45 u46 u47 u48 u49 u50 : Value), act = { tmps := #[.slice a n cap, u1, .pointer (some ⟨g, 0, none⟩), .int .i64 (kk : Int), u4, .int .i64 (i : Int), u6, u7, u8, u9, u10, u11, u12, u13, u14, u15, u16, u17, u18, u19, u20, u21, u22, u23, u24, u25, u26, u27, u28, u29, u30, u31, u32, u33, u34, u35, u36, u37, u38, u39, u40, u41, u42, u43, u44, u45, u46, u47, u48, u49, u50], defers := [] } ∧ i < 6 ∧ runR bs i = (R, kk, 0) ∧ TakI w w' g R da dn dc
theorem run_stepR {bs : List Int} {i kk : Nat} {R : OpR} (h : runR bs i = (R, kk, 0)) {R' : OpR} {k' : Nat} (hs : updF (fAt i R.k) (bs.drop kk) R = (R', k', 0)) : runR bs (i + 1) = (R', kk + k', 0) := by
  have e : stepR bs i (runR bs i) = (R', k', 0) := by rw [h]; exact hs
  rw [runR_ok (by rw [h]) (by rw [e]), e, h]
theorem run_stepE {bs : List Int} {i kk : Nat} {R : OpR} (hi : i < 6) (h : runR bs i = (R, kk, 0)) {R' : OpR} {k' : Nat} {x : Int} (hx : x ≠ 0) (hs : updF (fAt i R.k) (bs.drop kk) R = (R', k', x)) : tkO bs = (zR, 0, 0, x) := by
  have e : stepR bs i (runR bs i) = (R', k', x) := by rw [h]; exact hs
  have e1 : runR bs (i + 1) = (zR, 0, x) := by rw [runR_err (by rw [h]) (by rw [e]; exact hx), e]
  have e6 : runR bs 6 = (zR, 0, x) := by rw [runR_off (i := i + 1) (by omega) (by rw [e1]; exact hx), e1]
  rw [tkO_err (by rw [e6]; exact hx), e6]
theorem fAt_lt (i : Nat) (k : Int) (h : i < 6) : fAt i k < 8 := by unfold fAt; split <;> omega
end Go.Proofs.YtfhppfbmnnkikaaDoor
