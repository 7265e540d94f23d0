/- An operation's bytes: the program's. -/
import Derived.Test.YtabbbpmhmlapgaaDoorO5
namespace Go.Proofs.YtabbbpmhmlapgaaDoor
open Go.RowKit Go.Lib
set_option linter.unusedVariables false

theorem heldO_mk {w0 w1 : World} {n b o : Nat} {t r q : Int} {da : Option Addr} {dn dc : Nat} {k nt nr pt pr : Int} {s : ByteArray} {p v : Int} (h : OpAt w1 b o t r q da dn dc k nt nr pt pr s p v) (hB : Below n w0 w1) : w1.cell? ⟨b, o, none⟩ = some (.int .i64 t) ∧ w1.cell? ⟨b, o + 1, none⟩ = some (.int .i64 r) ∧ w1.cell? ⟨b, o + 2, none⟩ = some (.int .i64 q) ∧ w1.cell? ⟨b, o + 3, none⟩ = some (.slice da dn dc) ∧ w1.cell? ⟨b, o + 4, none⟩ = some (.int .i64 k) ∧ w1.cell? ⟨b, o + 5, none⟩ = some (.int .i64 nt) ∧ w1.cell? ⟨b, o + 6, none⟩ = some (.int .i64 nr) ∧ w1.cell? ⟨b, o + 7, none⟩ = some (.int .i64 pt) ∧ w1.cell? ⟨b, o + 8, none⟩ = some (.int .i64 pr) ∧ w1.cell? ⟨b, o + 9, none⟩ = some (.string s) ∧ w1.cell? ⟨b, o + 10, none⟩ = some (.int .i64 p) ∧ w1.cell? ⟨b, o + 11, none⟩ = some (.int .i64 v) ∧ Hid (Below n w0 w1) := ⟨h.c0, h.c1, h.c2, h.c3, h.c4, h.c5, h.c6, h.c7, h.c8, h.c9, h.c10, h.c11, Lib.hid hB⟩
/-- what the loop over the parts keeps -/
structure BytI (w w' : World) (g : Nat) (t r q : Int) (da : Option Addr) (ds : List Int) (dn dc : Nat) (k nt nr pt pr : Int) (s : ByteArray) (p v : Int) (out : Value) (zs : List Int) : Prop where
  at_ : OpAt w' g 0 t r q da dn dc k nt nr pt pr s p v
  row : RowK .i64 w' da ds
  own : OwnK .u8 5 w' (g + 1) out zs
  bel : Below w.heap.size w w'
  ge : w.heap.size ≤ g
theorem BytI.next {w w1 w2 : World} {g : Nat} {t r q : Int} {da : Option Addr} {ds : List Int} {dn dc : Nat} {k nt nr pt pr : Int} {s : ByteArray} {p v : Int} {out : Value} {zs : List Int} (h : BytI w w1 g t r q da ds dn dc k nt nr pt pr s p v out zs) (hb : Below w1.heap.size w1 w2) : BytI w w2 g t r q da ds dn dc k nt nr pt pr s p v out zs :=
  ⟨h.at_.next hb, h.row.below hb (Nat.le_refl _), h.own.below hb, h.bel.trans (hb.mono h.bel.size), h.ge⟩
theorem BytI.grew {w w1 w2 : World} {g : Nat} {t r q : Int} {da : Option Addr} {ds : List Int} {dn dc : Nat} {k nt nr pt pr : Int} {s : ByteArray} {p v : Int} {out out' : Value} {zs ys : List Int} (h : BytI w w1 g t r q da ds dn dc k nt nr pt pr s p v out zs) (hl : RowLt (g + 1) da ds) (hg : Grew .u8 5 (g + 1) w1 out zs ys out' w2) : BytI w w2 g t r q da ds dn dc k nt nr pt pr s p v out' (zs ++ ys) := by
  have hb : Below (g + 1) w1 w2 := hg.bel _ _ (Below.refl _ _) (Nat.le_refl _) h.at_.lt
  exact ⟨h.at_.below hb (by omega), h.row.below' hl hb, hg.own, h.bel.trans (hb.mono (by have := h.ge; omega)), h.ge⟩
def BytJ (w : World) (g : Nat) (t r q : Int) (da : Option Addr) (ds : List Int) (dn dc : Nat) (k nt nr pt pr : Int) (s : ByteArray) (p v : Int) (act : Act) (w' : World) : Prop :=
  ∃ (v4 : Value) (i : Nat) (u2 u3 u6 u7 u8 u9 u10 u11 u12 u13 u14 u15 u16 u17 u18 u19 u20 u21 u22 u23 u24 u25 u26 u27 u28 u29 u30 : Value), act = { tmps := #[.agg #[.int .i64 t, .int .i64 r, .int .i64 q, .slice da dn dc, .int .i64 k, .int .i64 nt, .int .i64 nr, .int .i64 pt, .int .i64 pr, .string s, .int .i64 p, .int .i64 v], .pointer (some ⟨g, 0, none⟩), u2, u3, v4, .int .i64 (i : Int), u6, u7, u8, u9, u10, u11, u12, u13, u14, u15, u16, u17, u18, u19, u20, u21, u22, u23, u24, u25, u26, u27, u28, u29, u30], defers := [] } ∧ i < 6 ∧ BytI w w' g t r q da ds dn dc k nt nr pt pr s p v v4 (preE i t r ds k nt nr pt pr s p v)
def intOf : Value → Nat
  | .int _ z => z.toNat
  | _ => 0
theorem fieldAt_zero (k : Int) (w : World) : Calls Tryd.prog 33 #[.int .i64 0, .int .i64 k] w fun e w' => e = .returned (.int .i64 0) ∧ w = w' := by
  have := fieldAt_any 0 k w (by omega) (by omega)
  rw [if_neg (by omega)] at this
  exact this
theorem part_zero (t r q : Int) (da : Option Addr) (ds : List Int) (dn dc : Nat) (k nt nr pt pr : Int) (s : ByteArray) (p v : Int) (w : World) (hr : RowK .i64 w da ds) (hn : dn = ds.length) (h : opB t r q ds k nt nr pt pr s p v = true) : Calls Tryd.prog 32 #[.agg #[.int .i64 t, .int .i64 r, .int .i64 q, .slice da dn dc, .int .i64 k, .int .i64 nt, .int .i64 nr, .int .i64 pt, .int .i64 pr, .string s, .int .i64 p, .int .i64 v], .int .i64 0] w (BytesPost w (prtE 0 t r ds k nt nr pt pr s p v)) := field0 t r q da ds dn dc k nt nr pt pr s p v w (st_pl (opB_parts h).1)
theorem check_is (t r q : Int) (da : Option Addr) (ds : List Int) (dn dc : Nat) (k nt nr pt pr : Int) (s : ByteArray) (p v : Int) (w : World) (ht : Pr.Tab w) (hr : RowK .i64 w da ds) (hn : dn = ds.length) (hl : ds.length ≤ 140737488355328) (x : Int) (h : errC (opB t r q ds k nt nr pt pr s p v) = x) : Calls Tryd.prog 7 #[.agg #[.int .i64 t, .int .i64 r, .int .i64 q, .slice da dn dc, .int .i64 k, .int .i64 nt, .int .i64 nr, .int .i64 pt, .int .i64 pr, .string s, .int .i64 p, .int .i64 v]] w (St.IntBel w x) := by rw [← h]; exact opCheck_any t r q da ds dn dc k nt nr pt pr s p v w ht hr hn hl
def opE (t r q : Int) (ds : List Int) (k nt nr pt pr : Int) (s : ByteArray) (p v : Int) : List Int := if opB t r q ds k nt nr pt pr s p v then encO t r ds k nt nr pt pr s p v else []

set_option maxHeartbeats 400000 in
theorem opBytes_no (t r q : Int) (da : Option Addr) (ds : List Int) (dn dc : Nat) (k nt nr pt pr : Int) (s : ByteArray) (p v : Int) (w : World) (ht : Pr.Tab w) (hr : RowK .i64 w da ds) (hn : dn = ds.length) (hl : ds.length ≤ 140737488355328) (h : opB t r q ds k nt nr pt pr s p v = false) : Calls Tryd.prog 18 #[.agg #[.int .i64 t, .int .i64 r, .int .i64 q, .slice da dn dc, .int .i64 k, .int .i64 nt, .int .i64 nr, .int .i64 pt, .int .i64 pr, .string s, .int .i64 p, .int .i64 v]] w (BothPost w [] 1) := by
  have HB := Lib.hid (box_bel w (.cells #[.int .i64 t, .int .i64 r, .int .i64 q, .slice da dn dc, .int .i64 k, .int .i64 nt, .int .i64 nr, .int .i64 pt, .int .i64 pr, .string s, .int .i64 p, .int .i64 v] 27))
  have C := Lib.hid (check_is t r q da ds dn dc k nt nr pt pr s p v (w.alloc (.cells #[.int .i64 t, .int .i64 r, .int .i64 q, .slice da dn dc, .int .i64 k, .int .i64 nt, .int .i64 nr, .int .i64 pt, .int .i64 pr, .string s, .int .i64 p, .int .i64 v] 27)) (ht.alloc _) (hr.alloc _) hn hl 1 (by rw [h]; rfl))
  clear ht hr hn hl h
  go_enter Tryd.func18, Tryd.ntmps18
  go_wp2
  refine wp_scope_jumps 0 (fun _ _ => False) (fun _ _ => 0) rfl ?_ ?_
  · go_wp2_with fail
    refine (C.out).mono ?_
    rintro e w1 ⟨rfl, hb1⟩
    have HB1 := Lib.hid (HB.out.trans (hb1.mono HB.out.size))
    clear hb1
    go_wp2
    simp only [Exit.jump]
    go_ret2
    exact ⟨_, rfl, OwnK.nil _ _ _ _, HB1.out⟩
  · intro _ _ h
    exact h.elim

set_option maxHeartbeats 4000000 in
set_option maxRecDepth 100000 in
theorem opBytes_yes (t r q : Int) (da : Option Addr) (ds : List Int) (dn dc : Nat) (k nt nr pt pr : Int) (s : ByteArray) (p v : Int) (w : World) (ht : Pr.Tab w) (hr : RowK .i64 w da ds) (hn : dn = ds.length) (hl : ds.length ≤ 140737488355328) (h : opB t r q ds k nt nr pt pr s p v = true) : Calls Tryd.prog 18 #[.agg #[.int .i64 t, .int .i64 r, .int .i64 q, .slice da dn dc, .int .i64 k, .int .i64 nt, .int .i64 nr, .int .i64 pt, .int .i64 pr, .string s, .int .i64 p, .int .i64 v]] w (BothPost w (encO t r ds k nt nr pt pr s p v) 0) := by
  have HB := Lib.hid (box_bel w (.cells #[.int .i64 t, .int .i64 r, .int .i64 q, .slice da dn dc, .int .i64 k, .int .i64 nt, .int .i64 nr, .int .i64 pt, .int .i64 pr, .string s, .int .i64 p, .int .i64 v] 27))
  have HLT := Lib.hid (hr.rowLt.mono (show w.heap.size ≤ w.heap.size + 1 by omega))
  have C := Lib.hid (check_is t r q da ds dn dc k nt nr pt pr s p v (w.alloc (.cells #[.int .i64 t, .int .i64 r, .int .i64 q, .slice da dn dc, .int .i64 k, .int .i64 nt, .int .i64 nr, .int .i64 pt, .int .i64 pr, .string s, .int .i64 p, .int .i64 v] 27)) (ht.alloc _) (hr.alloc _) hn hl 0 (by rw [h]; rfl))
  have HI0 : Hid (BytI w (w.alloc (.cells #[.int .i64 t, .int .i64 r, .int .i64 q, .slice da dn dc, .int .i64 k, .int .i64 nt, .int .i64 nr, .int .i64 pt, .int .i64 pr, .string s, .int .i64 p, .int .i64 v] 27)) w.heap.size t r q da ds dn dc k nt nr pt pr s p v (.slice none 0 0) (preE 0 t r ds k nt nr pt pr s p v)) := ⟨OpAt.new w t r q da ds dn dc k nt nr pt pr s p v, hr.alloc _, OwnK.nil _ _ _ _, HB.out, Nat.le_refl _⟩
  have HN := Lib.hid hn
  have HO := Lib.hid h
  clear ht hr hn hl h
  go_enter Tryd.func18, Tryd.ntmps18
  go_wp2
  refine wp_scope_jumps 0 (BytJ w w.heap.size t r q da ds dn dc k nt nr pt pr s p v) (fun a' _ => 6 - intOf (a'.tmps.getD 5 undef)) rfl ?_ ?_
  · go_wp2_with fail
    refine (C.out).mono ?_
    rintro e WX ⟨rfl, hb1⟩
    have HI := Lib.hid (HI0.out.next hb1)
    clear hb1 HI0 HB C
    generalize w.heap.size = g at *
    have HI6 : Hid (0 < 6) := (by omega : 0 < 6)
    have HS := Lib.hid HI.out.bel.size
    have hS0 := heldO_mk (w0 := WX) (n := WX.heap.size) HI.out.at_.drew (Below.refl WX.heap.size WX).drew
    have FA := Lib.hid (fun W => fieldAt_zero k W)
    have FB := Lib.hid (fun W (h : RowK .i64 W da ds) => part_zero t r q da ds dn dc k nt nr pt pr s p v W h HN.out HO.out)
    go_wp2_with fail
    go_step3
    go_wp2_with fail
    go_region_held3 (fun w' => w'.cell? ⟨g, 0, none⟩ = some (.int .i64 t) ∧ w'.cell? ⟨g, 0 + 1, none⟩ = some (.int .i64 r) ∧ w'.cell? ⟨g, 0 + 2, none⟩ = some (.int .i64 q) ∧ w'.cell? ⟨g, 0 + 3, none⟩ = some (.slice da dn dc) ∧ w'.cell? ⟨g, 0 + 4, none⟩ = some (.int .i64 k) ∧ w'.cell? ⟨g, 0 + 5, none⟩ = some (.int .i64 nt) ∧ w'.cell? ⟨g, 0 + 6, none⟩ = some (.int .i64 nr) ∧ w'.cell? ⟨g, 0 + 7, none⟩ = some (.int .i64 pt) ∧ w'.cell? ⟨g, 0 + 8, none⟩ = some (.int .i64 pr) ∧ w'.cell? ⟨g, 0 + 9, none⟩ = some (.string s) ∧ w'.cell? ⟨g, 0 + 10, none⟩ = some (.int .i64 p) ∧ w'.cell? ⟨g, 0 + 11, none⟩ = some (.int .i64 v) ∧ Hid (Below WX.heap.size WX w')) (assumption) (first
      | (go_at_call 33
         (with_reducible refine (FA.out _).mono ?_)
         rintro e w8 ⟨rfl, rfl⟩)
      | (go_at_call 32
         (with_reducible refine (FB.out WX.drew HI.out.row.drew).mono ?_)
         rintro e w9 ⟨v9, rfl, ho9, hb9⟩
         have hS9 := heldO_mk (w0 := WX) (n := WX.heap.size) (HI.out.at_.drew.next hb9) ((Below.refl WX.heap.size WX).drew.trans hb9)
         have HI9 := Lib.hid (HI.out.next ((Below.refl WX.heap.size WX).drew.trans hb9))
         obtain ⟨a9, n9, c9, rfl, hn9, hr9, hc9⟩ := ho9.form'
         have HN9 := Lib.hid hn9
         have HR9 := Lib.hid hr9
         clear ho9 hb9 hn9 hr9 hc9))
    clear hS0 hS9
    have HLn := Lib.hid (preE_len HO.out 0 (by have := HI6.out; omega))
    have HLp := Lib.hid (prtE_len HO.out 0 HI6.out)
    go_wp2_with (at_builtin
                 refine wpB_row rfl _ _ rfl (g + 1) w9 (.slice none 0 0) (preE 0 t r ds k nt nr pt pr s p v) (prtE 0 t r ds k nt nr pt pr s p v) a9 n9 c9 HN9.out rfl HI9.out.own rfl HR9.out (by have h1 := HLn.out; have h2 := HLp.out; have h3 := HI6.out; omega) HI9.out.at_.lt ?_
                 intro v6 w6 hp6
                 have HQ := Lib.hid (HI9.out.grew HLT.out hp6)
                 clear hp6)
    go_step3
    exact ⟨rfl, v6, 1, _, _, _, _, _, _, _, _, _, _, _, _, _, _, _, _, _, _, _, _, _, _, _, _, _, _, _, rfl, by omega, by rw [preE_succ]; exact HQ.out⟩
  · rintro a' WX ⟨v4, i, u2, u3, u6, u7, u8, u9, u10, u11, u12, u13, u14, u15, u16, u17, u18, u19, u20, u21, u22, u23, u24, u25, u26, u27, u28, u29, u30, rfl, hi6, hI⟩
    have HI := Lib.hid hI
    have HI6 := Lib.hid hi6
    clear hI hi6 HI0 HB C
    generalize w.heap.size = g at *
    have hw1 : wrap64 ((i : Int) + 1) = (i : Int) + 1 := IntWalk.wrap64_in _ (by have := HI6.out; omega)
    have hw2 : IntKind.i64.wrap ((i : Int) + 1) = (i : Int) + 1 := IntWalk.i64_in _ (by have := HI6.out; omega)
    by_cases hlast : i + 1 < 6
    · have hd : decide ((i : Int) + 1 < 6) = true := decide_eq_true (by omega)
      have HS := Lib.hid HI.out.bel.size
      have hS0 := heldO_mk (w0 := WX) (n := WX.heap.size) HI.out.at_.drew (Below.refl WX.heap.size WX).drew
      have FA := Lib.hid (fun W => fieldAt_is i k W HI6.out)
      have FB := Lib.hid (fun W (h : RowK .i64 W da ds) => part_any t r q da ds dn dc k nt nr pt pr s p v W h HN.out HO.out i HI6.out)
      go_wp2_with fail


      go_region_held3 (fun w' => w'.cell? ⟨g, 0, none⟩ = some (.int .i64 t) ∧ w'.cell? ⟨g, 0 + 1, none⟩ = some (.int .i64 r) ∧ w'.cell? ⟨g, 0 + 2, none⟩ = some (.int .i64 q) ∧ w'.cell? ⟨g, 0 + 3, none⟩ = some (.slice da dn dc) ∧ w'.cell? ⟨g, 0 + 4, none⟩ = some (.int .i64 k) ∧ w'.cell? ⟨g, 0 + 5, none⟩ = some (.int .i64 nt) ∧ w'.cell? ⟨g, 0 + 6, none⟩ = some (.int .i64 nr) ∧ w'.cell? ⟨g, 0 + 7, none⟩ = some (.int .i64 pt) ∧ w'.cell? ⟨g, 0 + 8, none⟩ = some (.int .i64 pr) ∧ w'.cell? ⟨g, 0 + 9, none⟩ = some (.string s) ∧ w'.cell? ⟨g, 0 + 10, none⟩ = some (.int .i64 p) ∧ w'.cell? ⟨g, 0 + 11, none⟩ = some (.int .i64 v) ∧ Hid (Below WX.heap.size WX w')) (assumption) (first
        | (go_at_call 33
           (with_reducible refine (FA.out _).mono ?_)
           rintro e w8 ⟨rfl, rfl⟩)
        | (go_at_call 32
           (with_reducible refine (FB.out WX.drew HI.out.row.drew).mono ?_)
           rintro e w9 ⟨v9, rfl, ho9, hb9⟩
           have hS9 := heldO_mk (w0 := WX) (n := WX.heap.size) (HI.out.at_.drew.next hb9) ((Below.refl WX.heap.size WX).drew.trans hb9)
           have HI9 := Lib.hid (HI.out.next ((Below.refl WX.heap.size WX).drew.trans hb9))
           obtain ⟨a9, n9, c9, rfl, hn9, hr9, hc9⟩ := ho9.form'
           have HN9 := Lib.hid hn9
           have HR9 := Lib.hid hr9
           clear ho9 hb9 hn9 hr9 hc9))
      clear hS0 hS9
      have HLn := Lib.hid (preE_len HO.out i (by have := HI6.out; omega))
      have HLp := Lib.hid (prtE_len HO.out i HI6.out)
      go_wp2_with (at_builtin
                   refine wpB_row rfl _ _ rfl (g + 1) w9 v4 (preE i t r ds k nt nr pt pr s p v) (prtE i t r ds k nt nr pt pr s p v) a9 n9 c9 HN9.out rfl HI9.out.own rfl HR9.out (by have h1 := HLn.out; have h2 := HLp.out; have h3 := HI6.out; omega) HI9.out.at_.lt ?_
                   intro v6 w6 hp6
                   have HQ := Lib.hid (HI9.out.grew HLT.out hp6)
                   clear hp6)
      go_step3
      refine ⟨rfl, ⟨v6, i + 1, _, _, _, _, _, _, _, _, _, _, _, _, _, _, _, _, _, _, _, _, _, _, _, _, _, _, _, rfl, by omega, by rw [preE_succ]; exact HQ.out⟩, ?_⟩
      simp [intOf]
      omega
    · have hd : decide ((i : Int) + 1 < 6) = false := decide_eq_false (by omega)
      have HI5 : Hid (i = 5) := (by have := HI6.out; omega : i = 5)
      have HS := Lib.hid HI.out.bel.size
      have hS0 := heldO_mk (w0 := WX) (n := WX.heap.size) HI.out.at_.drew (Below.refl WX.heap.size WX).drew
      have FA := Lib.hid (fun W => fieldAt_is i k W HI6.out)
      have FB := Lib.hid (fun W (h : RowK .i64 W da ds) => part_any t r q da ds dn dc k nt nr pt pr s p v W h HN.out HO.out i HI6.out)
      go_wp2_with fail


      go_region_held3 (fun w' => w'.cell? ⟨g, 0, none⟩ = some (.int .i64 t) ∧ w'.cell? ⟨g, 0 + 1, none⟩ = some (.int .i64 r) ∧ w'.cell? ⟨g, 0 + 2, none⟩ = some (.int .i64 q) ∧ w'.cell? ⟨g, 0 + 3, none⟩ = some (.slice da dn dc) ∧ w'.cell? ⟨g, 0 + 4, none⟩ = some (.int .i64 k) ∧ w'.cell? ⟨g, 0 + 5, none⟩ = some (.int .i64 nt) ∧ w'.cell? ⟨g, 0 + 6, none⟩ = some (.int .i64 nr) ∧ w'.cell? ⟨g, 0 + 7, none⟩ = some (.int .i64 pt) ∧ w'.cell? ⟨g, 0 + 8, none⟩ = some (.int .i64 pr) ∧ w'.cell? ⟨g, 0 + 9, none⟩ = some (.string s) ∧ w'.cell? ⟨g, 0 + 10, none⟩ = some (.int .i64 p) ∧ w'.cell? ⟨g, 0 + 11, none⟩ = some (.int .i64 v) ∧ Hid (Below WX.heap.size WX w')) (assumption) (first
        | (go_at_call 33
           (with_reducible refine (FA.out _).mono ?_)
           rintro e w8 ⟨rfl, rfl⟩)
        | (go_at_call 32
           (with_reducible refine (FB.out WX.drew HI.out.row.drew).mono ?_)
           rintro e w9 ⟨v9, rfl, ho9, hb9⟩
           have hS9 := heldO_mk (w0 := WX) (n := WX.heap.size) (HI.out.at_.drew.next hb9) ((Below.refl WX.heap.size WX).drew.trans hb9)
           have HI9 := Lib.hid (HI.out.next ((Below.refl WX.heap.size WX).drew.trans hb9))
           obtain ⟨a9, n9, c9, rfl, hn9, hr9, hc9⟩ := ho9.form'
           have HN9 := Lib.hid hn9
           have HR9 := Lib.hid hr9
           clear ho9 hb9 hn9 hr9 hc9))
      clear hS0 hS9
      have HLn := Lib.hid (preE_len HO.out i (by have := HI6.out; omega))
      have HLp := Lib.hid (prtE_len HO.out i HI6.out)
      go_wp2_with (at_builtin
                   refine wpB_row rfl _ _ rfl (g + 1) w9 v4 (preE i t r ds k nt nr pt pr s p v) (prtE i t r ds k nt nr pt pr s p v) a9 n9 c9 HN9.out rfl HI9.out.own rfl HR9.out (by have h1 := HLn.out; have h2 := HLp.out; have h3 := HI6.out; omega) HI9.out.at_.lt ?_
                   intro v6 w6 hp6
                   have HQ := Lib.hid (HI9.out.grew HLT.out hp6)
                   clear hp6)
      go_wp2
      simp only [Exit.jump]
      go_ret2
      have h5 := HI5.out
      subst h5
      exact ⟨v6, rfl, (by unfold encO; rw [preE_succ]; exact HQ.out.own.mono (by have := HQ.out.ge; omega)), HQ.out.bel⟩
end Go.Proofs.YtabbbpmhmlapgaaDoor

