/- Joined: G1 G2 G3 G4 O1 O2 O3. -/
import Derived.Test.YtjlbpmmckgjajaaDoorZA
import Derived.Laws.BitsAllLaws
import Derived.Test.YtjlbpmmckgjajaaDoorZB
import Derived.Test.YtjlbpmmckgjajaaDoorZC

/- Mathematics of CRC-32: a state goes on by bytes; from unlike states, or by unlike bytes, it comes to unlike states; a number as four bytes. -/
namespace Go.Proofs.YtjlbpmmckgjajaaDoor

set_option linter.unusedVariables false

/-- one bit -/
def crcS (x : Nat) : Nat := x / 2 ^^^ (if x % 2 = 1 then 3988292384 else 0)
def crcN : Nat → Nat → Nat
  | 0, x => x
  | n + 1, x => crcN n (crcS x)
def crcB (x b : Nat) : Nat := crcN 8 (x ^^^ b)
def crcL : Nat → List Int → Nat
  | x, [] => x
  | x, b :: r => crcL (crcB x b.toNat) r
def crc (bs : List Int) : Nat := crcL 4294967295 bs ^^^ 4294967295

theorem xor_lt {a b : Nat} (ha : a < 4294967296) (hb : b < 4294967296) : a ^^^ b < 4294967296 := Nat.xor_lt_two_pow (n := 32) ha hb
theorem xor_cancel {a b c : Nat} (h : a ^^^ c = b ^^^ c) : a = b := by
  have := congrArg (· ^^^ c) h
  simpa [Nat.xor_assoc] using this
theorem crcS_lt {x : Nat} (h : x < 4294967296) : crcS x < 4294967296 := by
  unfold crcS
  refine xor_lt (by omega) ?_
  split <;> omega
theorem crcS_bit {x : Nat} (h : x < 4294967296) : (crcS x).testBit 31 = decide (x % 2 = 1) := by
  unfold crcS
  rw [Nat.testBit_xor, Nat.testBit_lt_two_pow (x := x / 2) (i := 31) (by omega)]
  split
  · rename_i h1
    rw [decide_eq_true h1]
    decide
  · rename_i h1
    rw [decide_eq_false h1]
    decide
theorem crcS_inj {x y : Nat} (hx : x < 4294967296) (hy : y < 4294967296) (h : crcS x = crcS y) : x = y := by
  have hb : decide (x % 2 = 1) = decide (y % 2 = 1) := by rw [← crcS_bit hx, ← crcS_bit hy, h]
  have hm : x % 2 = y % 2 := by
    by_cases h1 : x % 2 = 1
    · rw [decide_eq_true h1] at hb
      have := of_decide_eq_true hb.symm
      omega
    · rw [decide_eq_false h1] at hb
      have := of_decide_eq_false hb.symm
      omega
  unfold crcS at h
  rw [hm] at h
  have := xor_cancel h
  omega
theorem crcN_lt : ∀ (n : Nat) {x : Nat}, x < 4294967296 → crcN n x < 4294967296
  | 0, _, h => h
  | n + 1, _, h => crcN_lt n (crcS_lt h)
theorem crcN_inj : ∀ (n : Nat) {x y : Nat}, x < 4294967296 → y < 4294967296 → crcN n x = crcN n y → x = y
  | 0, _, _, _, _, h => h
  | n + 1, _, _, hx, hy, h => crcS_inj hx hy (crcN_inj n (crcS_lt hx) (crcS_lt hy) h)
theorem crcN_succ : ∀ (n x : Nat), crcN (n + 1) x = crcS (crcN n x)
  | 0, _ => rfl
  | n + 1, x => by
    rw [crcN, crcN_succ n (crcS x)]
    rfl
theorem byte_lt {b : Int} (h0 : 0 ≤ b) (h1 : b < 256) : b.toNat < 4294967296 := by omega
theorem crcB_lt {x b : Nat} (hx : x < 4294967296) (hb : b < 4294967296) : crcB x b < 4294967296 := crcN_lt 8 (xor_lt hx hb)
theorem crcB_inj {x y b : Nat} (hx : x < 4294967296) (hy : y < 4294967296) (hb : b < 4294967296) (h : crcB x b = crcB y b) : x = y := xor_cancel (crcN_inj 8 (xor_lt hx hb) (xor_lt hy hb) h)
theorem crcB_inj2 {x a b : Nat} (hx : x < 4294967296) (ha : a < 4294967296) (hb : b < 4294967296) (h : crcB x a = crcB x b) : a = b := by
  have := crcN_inj 8 (xor_lt hx ha) (xor_lt hx hb) h
  rw [Nat.xor_comm x a, Nat.xor_comm x b] at this
  exact xor_cancel this
theorem crcL_lt : ∀ (bs : List Int) {x : Nat}, IsB bs → x < 4294967296 → crcL x bs < 4294967296
  | [], _, _, h => h
  | b :: r, _, hb, h => by
    have h1 := hb b (by simp)
    exact crcL_lt r (fun z hz => hb z (List.mem_cons_of_mem _ hz)) (crcB_lt h (by omega))
theorem crcL_inj : ∀ (bs : List Int) {x y : Nat}, IsB bs → x < 4294967296 → y < 4294967296 → crcL x bs = crcL y bs → x = y
  | [], _, _, _, _, _, h => h
  | b :: r, _, _, hb, hx, hy, h => by
    have h1 := hb b (by simp)
    exact crcB_inj hx hy (by omega) (crcL_inj r (fun z hz => hb z (List.mem_cons_of_mem _ hz)) (crcB_lt hx (by omega)) (crcB_lt hy (by omega)) h)
theorem crcL_app : ∀ (a b : List Int) (x : Nat), crcL x (a ++ b) = crcL (crcL x a) b
  | [], _, _ => rfl
  | z :: r, b, x => crcL_app r b (crcB x z.toNat)
theorem crcL_snoc (a : List Int) (z : Int) (x : Nat) : crcL x (a ++ [z]) = crcB (crcL x a) z.toNat := crcL_app a [z] x
theorem crc_lt {bs : List Int} (h : IsB bs) : crc bs < 4294967296 := xor_lt (crcL_lt bs h (by omega)) (by omega)
/-- one byte is another one: another sum -/
theorem crc_flip {l r : List Int} {a b : Int} (hl : IsB l) (hr : IsB r) (ha : 0 ≤ a ∧ a < 256) (hb : 0 ≤ b ∧ b < 256) (h : a ≠ b) : crc (l ++ a :: r) ≠ crc (l ++ b :: r) := by
  intro e
  unfold crc at e
  have e1 := xor_cancel e
  rw [crcL_app, crcL_app] at e1
  have hs : crcL 4294967295 l < 4294967296 := crcL_lt l hl (by omega)
  have e2 := crcL_inj r hr (crcB_lt hs (by omega)) (crcB_lt hs (by omega)) e1
  have e3 := crcB_inj2 hs (by omega) (by omega) e2
  omega

/-- four bytes, the most significant one first -/
def be4 (n : Nat) : List Int := [((n / 16777216 : Nat) : Int), ((n / 65536 % 256 : Nat) : Int), ((n / 256 % 256 : Nat) : Int), ((n % 256 : Nat) : Int)]
theorem be4_len (n : Nat) : (be4 n).length = 4 := rfl
theorem be4_inj {n m : Nat} (h : be4 n = be4 m) : n = m := by
  simp only [be4, List.cons.injEq, and_true] at h
  omega
theorem be4_isB {n : Nat} (h : n < 4294967296) : IsB (be4 n) := by
  intro z hz
  simp only [be4, List.mem_cons, List.not_mem_nil, or_false] at hz
  omega
end Go.Proofs.YtjlbpmmckgjajaaDoor

/- Sums of bytes: the program's, the page's. -/
namespace Go.Proofs.YtjlbpmmckgjajaaDoor
open Go.RowKit Go.Lib
set_option linter.unusedVariables false

theorem crc_and0 {y : Nat} (hy : y < 4294967296) (h : y % 2 = 0) : bits .and .u32 (y : Int) 1 = 0 := by
  have := u32_and_nat y 1 hy (by omega)
  rw [Nat.and_one_is_mod, h] at this
  exact this
theorem crc_and1 {y : Nat} (hy : y < 4294967296) (h : y % 2 = 1) : bits .and .u32 (y : Int) 1 = 1 := by
  have := u32_and_nat y 1 hy (by omega)
  rw [Nat.and_one_is_mod, h] at this
  exact this
theorem crc_mask : bits .and .u32 3988292384 4294967295 = 3988292384 := by
  have := u32_and_nat 3988292384 4294967295 (by omega) (by omega)
  exact this
theorem crc_mask0 : bits .and .u32 3988292384 0 = 0 := by
  have := u32_and_nat 3988292384 0 (by omega) (by omega)
  exact this
theorem crc_x1 {y : Nat} (hy : y < 4294967296) (h : y % 2 = 1) : bits .xor .u32 ((y : Int) / 2) 3988292384 = ((crcS y : Nat) : Int) := by
  have := u32_xor_nat (y / 2) 3988292384 (by omega) (by omega)
  unfold crcS
  rw [if_pos h]
  exact this
theorem crc_x0 {y : Nat} (hy : y < 4294967296) (h : y % 2 = 0) : bits .xor .u32 ((y : Int) / 2) 0 = ((crcS y : Nat) : Int) := by
  have := u32_xor_nat (y / 2) 0 (by omega) (by omega)
  unfold crcS
  rw [if_neg (by omega)]
  exact this
def ShJ (all : Nat) (w : World) (act : Act) (w' : World) : Prop :=
  ∃ (y m : Nat) (z : Int) (u1 u2 u4 u5 u6 u7 u8 u9 u10 u11 u12 u13 u14 u15 u16 u17 : Value), act = { tmps := #[.int .u32 z, u1, u2, .int .i64 (m : Int), u4, u5, u6, u7, u8, u9, u10, u11, u12, u13, u14, u15, u16, u17], defers := [] } ∧ z = (y : Int) ∧ y < 4294967296 ∧ 1 ≤ m ∧ m ≤ 8 ∧ crcN m y = all ∧ w' = w
def intNat : Value → Nat
  | .int _ z => z.toNat
  | _ => 0
end Go.Proofs.YtjlbpmmckgjajaaDoor

/- Sums of bytes: the program's, the page's; a sum as four bytes. -/
namespace Go.Proofs.YtjlbpmmckgjajaaDoor
open Go.RowKit Go.Lib
set_option linter.unusedVariables false

theorem crc_xb {y : Nat} {b : Int} (hy : y < 4294967296) (h0 : 0 ≤ b) (h1 : b < 256) : bits .xor .u32 (y : Int) b = ((y ^^^ b.toNat : Nat) : Int) := by
  have := u32_xor_nat y b.toNat hy (by omega)
  rw [show ((b.toNat : Nat) : Int) = b by omega] at this
  exact this
theorem crc_not {y : Nat} (hy : y < 4294967296) : bits .xor .u32 (y : Int) 4294967295 = ((y ^^^ 4294967295 : Nat) : Int) := u32_xor_nat y 4294967295 hy (by omega)
theorem crc_not' {y : Nat} (hy : y < 4294967296) : bits .xor .u32 4294967295 (y : Int) = ((y ^^^ 4294967295 : Nat) : Int) := by
  have := u32_xor_nat 4294967295 y (by omega) hy
  rw [Nat.xor_comm]
  exact this
def SumPost (bs : List Int) (w : World) (e : Ending) (w' : World) : Prop := e = .returned (.int .u32 ((crc bs : Nat) : Int)) ∧ w = w'

end Go.Proofs.YtjlbpmmckgjajaaDoor

/- A sum as four bytes; two rows of bytes held against each other. -/
namespace Go.Proofs.YtjlbpmmckgjajaaDoor
open Go.RowKit Go.Lib
set_option linter.unusedVariables false

def shN (S i : Nat) : Nat := S * 256 ^ i % 4294967296
theorem shN_lt (S i : Nat) : shN S i < 4294967296 := Nat.mod_lt _ (by omega)
theorem shN_zero {S : Nat} (h : S < 4294967296) : shN S 0 = S := by unfold shN; omega
theorem shN_succ (S i : Nat) : shN S (i + 1) = shN S i * 256 % 4294967296 := by
  unfold shN
  rw [Nat.pow_succ, ← Nat.mul_assoc, Nat.mod_mul_mod]
theorem be4_next {S i : Nat} (h : S < 4294967296) (hi : i < 4) : (be4 S).take (i + 1) = (be4 S).take i ++ [((shN S i / 16777216 : Nat) : Int)] := by
  have e : ∀ x y : Nat, x = y → (x : Int) = (y : Int) := fun _ _ h => by rw [h]
  match i, hi with
  | 0, _ => simp [be4, shN]; omega
  | 1, _ => simp [be4, shN]; omega
  | 2, _ => simp [be4, shN]; omega
  | 3, _ => simp [be4, shN]; omega
def SbI (S : Nat) (w : World) (v : Value) (i : Nat) (w' : World) : Prop := OwnK .u8 5 w' w.heap.size v ((be4 S).take i) ∧ Below w.heap.size w w'
def SbJ (S : Nat) (w : World) (act : Act) (w' : World) : Prop :=
  ∃ (i : Nat) (z : Int) (v : Value) (u0 u1 u2 u5 u6 u7 u8 u9 u10 u11 u12 u13 u14 u15 u16 u17 u18 : Value), act = { tmps := #[u0, u1, u2, .int .u32 z, v, u5, u6, u7, u8, u9, u10, u11, u12, u13, u14, u15, u16, u17, u18], defers := [] } ∧ z = ((shN S i : Nat) : Int) ∧ i < 4 ∧ SbI S w v i w'
def lenV : Value → Nat
  | .slice _ n _ => n
  | _ => 0
theorem own_len {kd : IntKind} {e : TypeId} {w : World} {base : Nat} {v : Value} {zs : List Int} (h : OwnK kd e w base v zs) : lenV v = zs.length := by
  obtain ⟨a, c, rfl, _⟩ := h.form
  rfl
theorem be4_take_len {S i : Nat} (h : i ≤ 4) : ((be4 S).take i).length = i := by rw [List.length_take, be4_len]; omega

theorem sb_next {S i : Nat} {w w1 w2 : World} {v v' : Value} {z : Int} (h : S < 4294967296) (hi : i < 4) (hI : SbI S w v i w1) (hz : z = ((shN S i / 16777216 : Nat) : Int)) (hg : Grew .u8 5 w.heap.size w1 v ((be4 S).take i) [z] v' w2) : SbI S w v' (i + 1) w2 := by
  refine ⟨?_, hg.bel _ _ hI.2 (Nat.le_refl _) hI.2.size⟩
  rw [be4_next h hi, ← hz]
  exact hg.own

end Go.Proofs.YtjlbpmmckgjajaaDoor

/- Operations: words; which part is which; whether an operation is counted, and of its kind. -/
namespace Go.Proofs.YtjlbpmmckgjajaaDoor
open Go.RowKit Go.Lib
set_option linter.unusedVariables false

/-- Deps, Stamp's Rep and Seq fit -/
def cntB (r q : Int) (ds : List Int) : Bool := Hv.vecB ds && decide (r < ds.length) && decide (1 ≤ q) && decide (q ≤ 1099511627776) && decide (q = ds.getD r.toNat 0 + 1)
/-- what a kind asks for, and nothing of the other kind's -/
def kndB (k pt pr : Int) (s : ByteArray) (p v : Int) : Bool :=
  if k = 1 then St.plB pt pr && Ky.keyB (strN s) && decide (p = 0) && decide (v = 0) else if k = 2 then decide (Pr.errP p v = 0) && decide (pt = 0 ∧ pr = 0) && decide (strN s = []) else false
/-- an operation that may be -/
def opB (t r q : Int) (ds : List Int) (k nt nr pt pr : Int) (s : ByteArray) (p v : Int) : Bool := St.stB t r && St.stB nt nr && cntB r q ds && kndB k pt pr s p v

/-- an operation at a place -/
structure OpAt (w : World) (b o : Nat) (t r q : Int) (da : Option Addr) (dn dc : Nat) (k nt nr pt pr : Int) (s : ByteArray) (p v : Int) : Prop where
  c0 : w.cell? ⟨b, o, none⟩ = some (.int .i64 t)
  c1 : w.cell? ⟨b, o + 1, none⟩ = some (.int .i64 r)
  c2 : w.cell? ⟨b, o + 2, none⟩ = some (.int .i64 q)
  c3 : w.cell? ⟨b, o + 3, none⟩ = some (.slice da dn dc)
  c4 : w.cell? ⟨b, o + 4, none⟩ = some (.int .i64 k)
  c5 : w.cell? ⟨b, o + 5, none⟩ = some (.int .i64 nt)
  c6 : w.cell? ⟨b, o + 6, none⟩ = some (.int .i64 nr)
  c7 : w.cell? ⟨b, o + 7, none⟩ = some (.int .i64 pt)
  c8 : w.cell? ⟨b, o + 8, none⟩ = some (.int .i64 pr)
  c9 : w.cell? ⟨b, o + 9, none⟩ = some (.string s)
  c10 : w.cell? ⟨b, o + 10, none⟩ = some (.int .i64 p)
  c11 : w.cell? ⟨b, o + 11, none⟩ = some (.int .i64 v)
theorem OpAt.lt {w : World} {b o : Nat} {t r q : Int} {da : Option Addr} {dn dc : Nat} {k nt nr pt pr : Int} {s : ByteArray} {p v : Int} (h : OpAt w b o t r q da dn dc k nt nr pt pr s p v) : b < w.heap.size := World.block_lt_of_cell? _ _ h.c0
theorem OpAt.below {w w' : World} {b o B : Nat} {t r q : Int} {da : Option Addr} {dn dc : Nat} {k nt nr pt pr : Int} {s : ByteArray} {p v : Int} (h : OpAt w b o t r q da dn dc k nt nr pt pr s p v) (hb : Below B w w') (hB : b < B) : OpAt w' b o t r q da dn dc k nt nr pt pr s p v :=
  ⟨(hb.cell (p := ⟨b, o, none⟩) hB).trans h.c0, (hb.cell (p := ⟨b, o + 1, none⟩) hB).trans h.c1, (hb.cell (p := ⟨b, o + 2, none⟩) hB).trans h.c2, (hb.cell (p := ⟨b, o + 3, none⟩) hB).trans h.c3, (hb.cell (p := ⟨b, o + 4, none⟩) hB).trans h.c4, (hb.cell (p := ⟨b, o + 5, none⟩) hB).trans h.c5, (hb.cell (p := ⟨b, o + 6, none⟩) hB).trans h.c6, (hb.cell (p := ⟨b, o + 7, none⟩) hB).trans h.c7, (hb.cell (p := ⟨b, o + 8, none⟩) hB).trans h.c8, (hb.cell (p := ⟨b, o + 9, none⟩) hB).trans h.c9, (hb.cell (p := ⟨b, o + 10, none⟩) hB).trans h.c10, (hb.cell (p := ⟨b, o + 11, none⟩) hB).trans h.c11⟩
theorem OpAt.next {w w' : World} {b o : Nat} {t r q : Int} {da : Option Addr} {dn dc : Nat} {k nt nr pt pr : Int} {s : ByteArray} {p v : Int} (h : OpAt w b o t r q da dn dc k nt nr pt pr s p v) (hb : Below w.heap.size w w') : OpAt w' b o t r q da dn dc k nt nr pt pr s p v := h.below hb h.lt
theorem OpAt.drewN {w : World} {b o : Nat} {t r q : Int} {da : Option Addr} {dn dc : Nat} {k nt nr pt pr : Int} {s : ByteArray} {p v : Int} (h : OpAt w b o t r q da dn dc k nt nr pt pr s p v) (n : Nat) : OpAt (w.drewN n) b o t r q da dn dc k nt nr pt pr s p v := ⟨h.c0, h.c1, h.c2, h.c3, h.c4, h.c5, h.c6, h.c7, h.c8, h.c9, h.c10, h.c11⟩
theorem OpAt.drew {w : World} {b o : Nat} {t r q : Int} {da : Option Addr} {dn dc : Nat} {k nt nr pt pr : Int} {s : ByteArray} {p v : Int} (h : OpAt w b o t r q da dn dc k nt nr pt pr s p v) : OpAt w.drew b o t r q da dn dc k nt nr pt pr s p v := ⟨h.c0, h.c1, h.c2, h.c3, h.c4, h.c5, h.c6, h.c7, h.c8, h.c9, h.c10, h.c11⟩
theorem OpAt.new (w : World) (t r q : Int) (da : Option Addr) (ds : List Int) (dn dc : Nat) (k nt nr pt pr : Int) (s : ByteArray) (p v : Int) : OpAt (w.alloc (.cells #[.int .i64 t, .int .i64 r, .int .i64 q, .slice da dn dc, .int .i64 k, .int .i64 nt, .int .i64 nr, .int .i64 pt, .int .i64 pr, .string s, .int .i64 p, .int .i64 v] 39)) w.heap.size 0 t r q da dn dc k nt nr pt pr s p v := ⟨by simp, by simp, by simp, by simp, by simp, by simp, by simp, by simp, by simp, by simp, by simp, by simp⟩
theorem box_bel (w : World) (o : Obj) : Below w.heap.size w (w.alloc o) := (Below.refl _ _).alloc (Nat.le_refl _) _

theorem stB_rep {t r : Int} (h : St.stB t r = true) : 0 ≤ r ∧ r < 16 := by simp [St.stB] at h; omega

set_option maxHeartbeats 1000000 in
theorem counted_any (t r q : Int) (da : Option Addr) (ds : List Int) (dn dc : Nat) (k nt nr pt pr : Int) (s : ByteArray) (p v : Int) (w : World) (hr : RowK .i64 w da ds) (hn : dn = ds.length) (hl : ds.length ≤ 140737488355328) (h0 : St.stB t r = true) : Calls Tryd.prog 70 #[.agg #[.int .i64 t, .int .i64 r, .int .i64 q, .slice da dn dc, .int .i64 k, .int .i64 nt, .int .i64 nr, .int .i64 pt, .int .i64 pr, .string s, .int .i64 p, .int .i64 v]] w (BoolPost w (cntB r q ds)) := by
  obtain ⟨hr0, hr1⟩ := stB_rep h0
  clear h0
  by_cases g1 : Hv.vecB ds = true
  · have C := Lib.hid (Hv.check_yes da ds dn dc (w.alloc (.cells #[.int .i64 t, .int .i64 r, .int .i64 q, .slice da dn dc, .int .i64 k, .int .i64 nt, .int .i64 nr, .int .i64 pt, .int .i64 pr, .string s, .int .i64 p, .int .i64 v] 39)) (hr.alloc _) hn hl g1)
    have HB := Lib.hid (box_bel w (.cells #[.int .i64 t, .int .i64 r, .int .i64 q, .slice da dn dc, .int .i64 k, .int .i64 nt, .int .i64 nr, .int .i64 pt, .int .i64 pr, .string s, .int .i64 p, .int .i64 v] 39))
    by_cases g2 : r < ds.length
    · have hd2 : decide ((dn : Int) ≤ r) = false := decide_eq_false (by omega)
      have hd2' : ¬ (dn : Int) ≤ r := by omega
      obtain ⟨rn, rfl⟩ : ∃ rn : Nat, r = rn := ⟨r.toNat, by omega⟩
      have hrn : rn < dn := by omega
      obtain ⟨b, off, rfl, hc⟩ := hr rn (by omega)
      have hlt := World.block_lt_of_cell? _ _ hc
      have hc' : (w.alloc (.cells #[.int .i64 t, .int .i64 (rn : Int), .int .i64 q, .slice (some ⟨b, off, none⟩) dn dc, .int .i64 k, .int .i64 nt, .int .i64 nr, .int .i64 pt, .int .i64 pr, .string s, .int .i64 p, .int .i64 v] 39)).cell? ⟨b, off + rn, none⟩ = some (.int .i64 (ds.getD rn 0)) := ((box_bel w _).cell (p := ⟨b, off + rn, none⟩) hlt).trans hc
      have hx := Hv.vecB_at g1 (k := rn) (by omega)
      have hwx : wrap64 (ds.getD rn 0 + 1) = ds.getD rn 0 + 1 := IntWalk.wrap64_in _ (by omega)
      have hw2 : IntKind.i64.wrap (ds.getD rn 0 + 1) = ds.getD rn 0 + 1 := IntWalk.i64_in _ (by omega)
      have hE : cntB rn q ds = (decide (1 ≤ q) && decide (q ≤ 1099511627776) && decide (q = ds.getD rn 0 + 1)) := by
        have : (rn : Int) < (ds.length : Int) := by omega
        simp [cntB, g1, this]
      clear hc hlt hr hl g1 g2 hr0 hr1 hn
      rw [hE]
      clear hE
      generalize ds.getD rn 0 = x at *
      by_cases g3 : 1 ≤ q
      · by_cases g4 : q ≤ 1099511627776
        · by_cases g5 : q = x + 1
          · have hd5 : (q == x + 1) = true := by simpa using g5
            have hE : (decide (1 ≤ q) && decide (q ≤ 1099511627776) && decide (q = x + 1)) = true := by rw [decide_eq_true g3, decide_eq_true g4, decide_eq_true g5]; rfl
            rw [hE]
            clear g5
            clear hE
            go_enter Tryd.func70, Tryd.ntmps70
            go_wp2_with fail
            refine (C.out).mono ?_
            rintro e w' ⟨rfl, rfl⟩
            go_wp2_with fail
            go_quiet (fail)
            go_wp2
            go_ret
            exact ⟨rfl, below_drewN HB.out _⟩
          · have hd5 : (q == x + 1) = false := by simpa using g5
            have hE : (decide (1 ≤ q) && decide (q ≤ 1099511627776) && decide (q = x + 1)) = false := by simp [g5]
            rw [hE]
            clear hE
            go_enter Tryd.func70, Tryd.ntmps70
            go_wp2_with fail
            refine (C.out).mono ?_
            rintro e w' ⟨rfl, rfl⟩
            go_wp2_with fail
            go_quiet (fail)
            go_wp2
            go_ret
            exact ⟨rfl, below_drewN HB.out _⟩
        · have hd4 : decide (q ≤ 1099511627776) = false := decide_eq_false g4
          have hE : (decide (1 ≤ q) && decide (q ≤ 1099511627776) && decide (q = x + 1)) = false := by simp [hd4]
          rw [hE]
          clear hE
          go_enter Tryd.func70, Tryd.ntmps70
          go_wp2_with fail
          refine (C.out).mono ?_
          rintro e w' ⟨rfl, rfl⟩
          go_wp2_with fail
          go_quiet (fail)
          go_wp2
          go_ret
          exact ⟨rfl, below_drewN HB.out _⟩
      · have hd3 : decide (1 ≤ q) = false := decide_eq_false g3
        have hE : (decide (1 ≤ q) && decide (q ≤ 1099511627776) && decide (q = x + 1)) = false := by simp [hd3]
        rw [hE]
        clear hE
        go_enter Tryd.func70, Tryd.ntmps70
        go_wp2_with fail
        refine (C.out).mono ?_
        rintro e w' ⟨rfl, rfl⟩
        go_wp2_with fail
        go_quiet (fail)
        go_wp2
        go_ret
        exact ⟨rfl, below_drewN HB.out _⟩
    · have hE : cntB r q ds = false := by simp [cntB, g2]
      rw [hE]
      have hd2 : decide ((dn : Int) ≤ r) = true := decide_eq_true (by omega)
      have hd2' : (dn : Int) ≤ r := by omega
      clear hE hr hl hn g1 g2
      go_enter Tryd.func70, Tryd.ntmps70
      go_wp2_with fail
      refine (C.out).mono ?_
      rintro e w' ⟨rfl, rfl⟩
      go_wp2
      go_ret
      exact ⟨rfl, HB.out⟩
  · have g1' : Hv.vecB ds = false := by simpa using g1
    have hE : cntB r q ds = false := by simp [cntB, g1']
    rw [hE]
    have C := Lib.hid (Hv.check_no da ds dn dc (w.alloc (.cells #[.int .i64 t, .int .i64 r, .int .i64 q, .slice da dn dc, .int .i64 k, .int .i64 nt, .int .i64 nr, .int .i64 pt, .int .i64 pr, .string s, .int .i64 p, .int .i64 v] 39)) (hr.alloc _) hn hl g1')
    have HB := Lib.hid (box_bel w (.cells #[.int .i64 t, .int .i64 r, .int .i64 q, .slice da dn dc, .int .i64 k, .int .i64 nt, .int .i64 nr, .int .i64 pt, .int .i64 pr, .string s, .int .i64 p, .int .i64 v] 39))
    clear hE hr hl hn g1 g1'
    go_enter Tryd.func70, Tryd.ntmps70
    go_wp2_with fail
    refine (C.out).mono ?_
    rintro e w' ⟨rfl, rfl⟩
    go_wp2
    go_ret
    exact ⟨rfl, HB.out⟩
end Go.Proofs.YtjlbpmmckgjajaaDoor

/- Operations: of their kind; Check. -/
namespace Go.Proofs.YtjlbpmmckgjajaaDoor
open Go.RowKit Go.Lib
set_option linter.unusedVariables false

theorem key_is (s : ByteArray) (x : Int) (h : Ky.errK s = x) (w : World) : Calls Tryd.prog 87 #[.string s] w fun e w' => e = .returned (.int .i64 x) ∧ w = w' := by rw [← h]; exact Ky.check_any s w
theorem prop_is (p v x : Int) (h : Pr.errP p v = x) (w : World) (ht : Pr.Tab w) : Calls Tryd.prog 88 #[.int .i64 p, .int .i64 v] w fun e w' => e = .returned (.int .i64 x) ∧ w = w' := by rw [← h]; exact Pr.check_any p v w ht
theorem errK_yes {s : ByteArray} (h : Ky.keyB (strN s) = true) : Ky.errK s = 0 := by simp [Ky.errK, h]
theorem errK_no {s : ByteArray} (h : Ky.keyB (strN s) = false) : Ky.errK s = 1 := by simp [Ky.errK, h]
theorem st_zero (t r : Int) (b : Bool) (h : decide (t = 0 ∧ r = 0) = b) (W : World) : (binOp .eql 36 (.agg #[.int .i64 t, .int .i64 r]) (.agg #[.int .i64 0, .int .i64 0])).run Tryd.prog W = .ok (.bool b) W := by
  rw [St.st_eql, ← h]
  congr 2
  rw [Bool.eq_iff_iff]
  simp

set_option maxHeartbeats 1000000 in
theorem ofKind1 (t r q : Int) (da : Option Addr) (ds : List Int) (dn dc : Nat) (k nt nr pt pr : Int) (s : ByteArray) (p v : Int) (w : World) (ht : Pr.Tab w) (hk : k = 1) : Calls Tryd.prog 71 #[.agg #[.int .i64 t, .int .i64 r, .int .i64 q, .slice da dn dc, .int .i64 k, .int .i64 nt, .int .i64 nr, .int .i64 pt, .int .i64 pr, .string s, .int .i64 p, .int .i64 v]] w (BoolPost w (kndB k pt pr s p v)) := by
  subst hk
  have HB := Lib.hid (box_bel w (.cells #[.int .i64 t, .int .i64 r, .int .i64 q, .slice da dn dc, .int .i64 1, .int .i64 nt, .int .i64 nr, .int .i64 pt, .int .i64 pr, .string s, .int .i64 p, .int .i64 v] 39))
  have HA := Lib.hid (OpAt.new w t r q da ds dn dc 1 nt nr pt pr s p v)

  cases h1 : St.plB pt pr
  · rw [show kndB 1 pt pr s p v = false by simp [kndB, h1]]
    have C := Lib.hid (fun W => St.place_is pt pr false h1 W)
    clear h1 ht
    go_enter Tryd.func71, Tryd.ntmps71
    go_wp2_with fail
    refine (C.out _).mono ?_
    rintro e w1 ⟨rfl, hb1⟩
    have HB1 := Lib.hid (HB.out.trans (hb1.mono HB.out.size))
    obtain ⟨c0, c1, c2, c3, c4, c5, c6, c7, c8, c9, c10, c11⟩ := HA.out.next hb1
    clear hb1
    go_wp2
    go_ret
    exact ⟨rfl, HB1.out⟩
  · have C := Lib.hid (fun W => St.place_is pt pr true h1 W)
    cases h2 : Ky.keyB (strN s)
    · rw [show kndB 1 pt pr s p v = false by simp [kndB, h2]]
      have D := Lib.hid (fun W => key_is s 1 (errK_no h2) W)
      clear h1 h2 ht
      go_enter Tryd.func71, Tryd.ntmps71
      go_wp2_with fail
      refine (C.out _).mono ?_
      rintro e w1 ⟨rfl, hb1⟩
      have HB1 := Lib.hid (HB.out.trans (hb1.mono HB.out.size))
      obtain ⟨c0, c1, c2, c3, c4, c5, c6, c7, c8, c9, c10, c11⟩ := HA.out.next hb1
      clear hb1
      go_wp2_with fail
      refine (D.out _).mono ?_
      rintro e w2 ⟨rfl, rfl⟩
      go_wp2
      go_ret
      exact ⟨rfl, HB1.out⟩
    · have D := Lib.hid (fun W => key_is s 0 (errK_yes h2) W)
      by_cases h3 : p = 0
      · by_cases h4 : v = 0
        · rw [show kndB 1 pt pr s p v = true by simp [kndB, h1, h2, h3, h4]]
          subst h3 h4
          clear h1 h2 ht
          go_enter Tryd.func71, Tryd.ntmps71
          go_wp2_with fail
          refine (C.out _).mono ?_
          rintro e w1 ⟨rfl, hb1⟩
          have HB1 := Lib.hid (HB.out.trans (hb1.mono HB.out.size))
          obtain ⟨c0, c1, c2, c3, c4, c5, c6, c7, c8, c9, c10, c11⟩ := HA.out.next hb1
          clear hb1
          go_wp2_with fail
          refine (D.out _).mono ?_
          rintro e w2 ⟨rfl, rfl⟩
          go_wp2
          go_ret
          exact ⟨rfl, HB1.out⟩
        · rw [show kndB 1 pt pr s p v = false by simp [kndB, h4]]
          have h4' : (v == 0) = false := by simpa using h4
          subst h3
          clear h1 h2 ht
          go_enter Tryd.func71, Tryd.ntmps71
          go_wp2_with fail
          refine (C.out _).mono ?_
          rintro e w1 ⟨rfl, hb1⟩
          have HB1 := Lib.hid (HB.out.trans (hb1.mono HB.out.size))
          obtain ⟨c0, c1, c2, c3, c4, c5, c6, c7, c8, c9, c10, c11⟩ := HA.out.next hb1
          clear hb1
          go_wp2_with fail
          refine (D.out _).mono ?_
          rintro e w2 ⟨rfl, rfl⟩
          go_wp2
          go_ret
          exact ⟨rfl, HB1.out⟩
      · rw [show kndB 1 pt pr s p v = false by simp [kndB, h3]]
        have h3' : (p == 0) = false := by simpa using h3
        clear h1 h2 ht
        go_enter Tryd.func71, Tryd.ntmps71
        go_wp2_with fail
        refine (C.out _).mono ?_
        rintro e w1 ⟨rfl, hb1⟩
        have HB1 := Lib.hid (HB.out.trans (hb1.mono HB.out.size))
        obtain ⟨c0, c1, c2, c3, c4, c5, c6, c7, c8, c9, c10, c11⟩ := HA.out.next hb1
        clear hb1
        go_wp2_with fail
        refine (D.out _).mono ?_
        rintro e w2 ⟨rfl, rfl⟩
        go_wp2
        go_ret
        exact ⟨rfl, HB1.out⟩

set_option maxHeartbeats 1000000 in
theorem ofKind2 (t r q : Int) (da : Option Addr) (ds : List Int) (dn dc : Nat) (k nt nr pt pr : Int) (s : ByteArray) (p v : Int) (w : World) (ht : Pr.Tab w) (hk : k = 2) : Calls Tryd.prog 71 #[.agg #[.int .i64 t, .int .i64 r, .int .i64 q, .slice da dn dc, .int .i64 k, .int .i64 nt, .int .i64 nr, .int .i64 pt, .int .i64 pr, .string s, .int .i64 p, .int .i64 v]] w (BoolPost w (kndB k pt pr s p v)) := by
  subst hk
  have HB := Lib.hid (box_bel w (.cells #[.int .i64 t, .int .i64 r, .int .i64 q, .slice da dn dc, .int .i64 2, .int .i64 nt, .int .i64 nr, .int .i64 pt, .int .i64 pr, .string s, .int .i64 p, .int .i64 v] 39))

  have hG := St.st_guard
  have hb0 := St.st_build0
  by_cases h1 : Pr.errP p v = 0
  · have D := Lib.hid (prop_is p v 0 h1 _ (ht.alloc (.cells #[.int .i64 t, .int .i64 r, .int .i64 q, .slice da dn dc, .int .i64 2, .int .i64 nt, .int .i64 nr, .int .i64 pt, .int .i64 pr, .string s, .int .i64 p, .int .i64 v] 39)))
    cases h2 : decide (pt = 0 ∧ pr = 0)
    · rw [show kndB 2 pt pr s p v = false by simp [kndB, h2]]
      have hz := st_zero pt pr false h2
      clear h1 h2 ht
      go_enter Tryd.func71, Tryd.ntmps71
      go_wp2_with fail
      refine (D.out).mono ?_
      rintro e w2 ⟨rfl, rfl⟩
      go_wp2
      go_ret
      exact ⟨rfl, HB.out⟩
    · have hz := st_zero pt pr true h2
      by_cases h3 : strN s = []
      · rw [show kndB 2 pt pr s p v = true by simp only [kndB, h1, h2, h3]; rfl]
        obtain ⟨e1, e2⟩ := Ky.emp_yes h3
        clear h1 h2 h3 ht
        go_enter Tryd.func71, Tryd.ntmps71
        go_wp2_with fail
        refine (D.out).mono ?_
        rintro e w2 ⟨rfl, rfl⟩
        go_wp2
        go_ret
        exact ⟨rfl, HB.out⟩
      · rw [show kndB 2 pt pr s p v = false by simp [kndB, h3]]
        obtain ⟨e1, e2⟩ := Ky.emp_no h3
        clear h1 h2 h3 ht
        go_enter Tryd.func71, Tryd.ntmps71
        go_wp2_with fail
        refine (D.out).mono ?_
        rintro e w2 ⟨rfl, rfl⟩
        go_wp2
        go_ret
        exact ⟨rfl, HB.out⟩
  · rw [show kndB 2 pt pr s p v = false by simp [kndB, h1]]
    obtain ⟨x, hx⟩ : ∃ x, Pr.errP p v = x := ⟨_, rfl⟩
    have D := Lib.hid (prop_is p v x hx _ (ht.alloc (.cells #[.int .i64 t, .int .i64 r, .int .i64 q, .slice da dn dc, .int .i64 2, .int .i64 nt, .int .i64 nr, .int .i64 pt, .int .i64 pr, .string s, .int .i64 p, .int .i64 v] 39)))
    have hx' : (x == 0) = false := by rw [← hx]; simpa using h1
    clear h1 hx ht
    go_enter Tryd.func71, Tryd.ntmps71
    go_wp2_with fail
    refine (D.out).mono ?_
    rintro e w2 ⟨rfl, rfl⟩
    go_wp2
    go_ret
    exact ⟨rfl, HB.out⟩

set_option maxHeartbeats 1000000 in
theorem ofKind_any (t r q : Int) (da : Option Addr) (ds : List Int) (dn dc : Nat) (k nt nr pt pr : Int) (s : ByteArray) (p v : Int) (w : World) (ht : Pr.Tab w) : Calls Tryd.prog 71 #[.agg #[.int .i64 t, .int .i64 r, .int .i64 q, .slice da dn dc, .int .i64 k, .int .i64 nt, .int .i64 nr, .int .i64 pt, .int .i64 pr, .string s, .int .i64 p, .int .i64 v]] w (BoolPost w (kndB k pt pr s p v)) := by
  by_cases g1 : k = 1
  · exact ofKind1 t r q da ds dn dc k nt nr pt pr s p v w ht g1
  · by_cases g2 : k = 2
    · exact ofKind2 t r q da ds dn dc k nt nr pt pr s p v w ht g2
    · rw [show kndB k pt pr s p v = false by simp [kndB, g1, g2]]
      have HB := Lib.hid (box_bel w (.cells #[.int .i64 t, .int .i64 r, .int .i64 q, .slice da dn dc, .int .i64 k, .int .i64 nt, .int .i64 nr, .int .i64 pt, .int .i64 pr, .string s, .int .i64 p, .int .i64 v] 39))
      have g1' : (k == 1) = false := by simpa using g1
      have g2' : (k == 2) = false := by simpa using g2
      clear ht
      go_enter Tryd.func71, Tryd.ntmps71
      go_wp2
      go_ret
      exact ⟨rfl, HB.out⟩

theorem stc_is (t r : Int) (x : Int) (h : St.errB (St.stB t r) = x) (w : World) : Calls Tryd.prog 69 #[.agg #[.int .i64 t, .int .i64 r]] w (St.IntBel w x) := by rw [← h]; exact St.check_any t r w
set_option maxHeartbeats 2000000 in
theorem opCheck_any (t r q : Int) (da : Option Addr) (ds : List Int) (dn dc : Nat) (k nt nr pt pr : Int) (s : ByteArray) (p v : Int) (w : World) (ht : Pr.Tab w) (hr : RowK .i64 w da ds) (hn : dn = ds.length) (hl : ds.length ≤ 140737488355328) : Calls Tryd.prog 49 #[.agg #[.int .i64 t, .int .i64 r, .int .i64 q, .slice da dn dc, .int .i64 k, .int .i64 nt, .int .i64 nr, .int .i64 pt, .int .i64 pr, .string s, .int .i64 p, .int .i64 v]] w (St.IntBel w (errC (opB t r q ds k nt nr pt pr s p v))) := by
  have HB := Lib.hid (box_bel w (.cells #[.int .i64 t, .int .i64 r, .int .i64 q, .slice da dn dc, .int .i64 k, .int .i64 nt, .int .i64 nr, .int .i64 pt, .int .i64 pr, .string s, .int .i64 p, .int .i64 v] 39))
  have HA := Lib.hid (OpAt.new w t r q da ds dn dc k nt nr pt pr s p v)
  have hw0 := ht.lt
  have C3 := Lib.hid (fun h0 W (hb : Below w.heap.size w W) => counted_any t r q da ds dn dc k nt nr pt pr s p v W (hr.below hb (Nat.le_refl _)) hn hl h0)
  have C4 := Lib.hid (fun W (hb : Below w.heap.size w W) => ofKind_any t r q da ds dn dc k nt nr pt pr s p v W (ht.below hb hw0))
  clear hr hn hl ht hw0
  cases h1 : St.stB t r
  · rw [show errC (opB t r q ds k nt nr pt pr s p v) = 1 by simp [opB, h1, errC]]
    have C1 := Lib.hid (fun W => stc_is t r 1 (by rw [h1]; rfl) W)
    clear h1 C3 C4
    go_enter Tryd.func49, Tryd.ntmps49
    go_wp2_with fail
    refine (C1.out _).mono ?_
    rintro e w1 ⟨rfl, hb1⟩
    have HA1 := Lib.hid (HA.out.next hb1)
    have HB1 := Lib.hid (HB.out.trans (hb1.mono HB.out.size))
    obtain ⟨c0, c1, c2, c3, c4, c5, c6, c7, c8, c9, c10, c11⟩ := HA1.out
    clear hb1
    go_wp2
    go_ret
    exact ⟨rfl, HB1.out⟩
  · have C1 := Lib.hid (fun W => stc_is t r 0 (by rw [h1]; rfl) W)
    have C3 := Lib.hid (C3.out h1)
    cases h2 : St.stB nt nr
    · rw [show errC (opB t r q ds k nt nr pt pr s p v) = 1 by simp [opB, h2, errC]]
      have C2 := Lib.hid (fun W => stc_is nt nr 1 (by rw [h2]; rfl) W)
      clear h1 h2 C3 C4
      go_enter Tryd.func49, Tryd.ntmps49
      go_wp2_with fail
      refine (C1.out _).mono ?_
      rintro e w1 ⟨rfl, hb1⟩
      have HA1 := Lib.hid (HA.out.next hb1)
      have HB1 := Lib.hid (HB.out.trans (hb1.mono HB.out.size))
      obtain ⟨c0, c1, c2, c3, c4, c5, c6, c7, c8, c9, c10, c11⟩ := HA1.out
      clear hb1
      go_wp2_with fail
      refine (C2.out _).mono ?_
      rintro e w2 ⟨rfl, hb2⟩
      have HA2 := Lib.hid (HA1.out.next hb2)
      have HB2 := Lib.hid (HB1.out.trans (hb2.mono HB1.out.size))
      clear c0 c1 c2 c3 c4 c5 c6 c7 c8 c9 c10 c11
      obtain ⟨c0, c1, c2, c3, c4, c5, c6, c7, c8, c9, c10, c11⟩ := HA2.out
      clear hb2
      go_wp2
      go_ret
      exact ⟨rfl, HB2.out⟩
    · have C2 := Lib.hid (fun W => stc_is nt nr 0 (by rw [h2]; rfl) W)
      cases h3 : cntB r q ds
      · rw [show errC (opB t r q ds k nt nr pt pr s p v) = 1 by simp [opB, h3, errC]]
        rw [h3] at C3
        clear h1 h2 h3 C4
        go_enter Tryd.func49, Tryd.ntmps49
        go_wp2_with fail
        refine (C1.out _).mono ?_
        rintro e w1 ⟨rfl, hb1⟩
        have HA1 := Lib.hid (HA.out.next hb1)
        have HB1 := Lib.hid (HB.out.trans (hb1.mono HB.out.size))
        obtain ⟨c0, c1, c2, c3, c4, c5, c6, c7, c8, c9, c10, c11⟩ := HA1.out
        clear hb1
        go_wp2_with fail
        refine (C2.out _).mono ?_
        rintro e w2 ⟨rfl, hb2⟩
        have HA2 := Lib.hid (HA1.out.next hb2)
        have HB2 := Lib.hid (HB1.out.trans (hb2.mono HB1.out.size))
        clear c0 c1 c2 c3 c4 c5 c6 c7 c8 c9 c10 c11
        obtain ⟨c0, c1, c2, c3, c4, c5, c6, c7, c8, c9, c10, c11⟩ := HA2.out
        clear hb2
        go_wp2_with fail
        refine (C3.out _ HB2.out).mono ?_
        rintro e w3 ⟨rfl, hb3⟩
        have HA3 := Lib.hid (HA2.out.next hb3)
        have HB3 := Lib.hid (HB2.out.trans (hb3.mono HB2.out.size))
        clear c0 c1 c2 c3 c4 c5 c6 c7 c8 c9 c10 c11
        obtain ⟨c0, c1, c2, c3, c4, c5, c6, c7, c8, c9, c10, c11⟩ := HA3.out
        clear hb3
        go_wp2
        go_ret
        exact ⟨rfl, HB3.out⟩
      · rw [h3] at C3
        cases h4 : kndB k pt pr s p v
        · rw [show errC (opB t r q ds k nt nr pt pr s p v) = 1 by simp [opB, h4, errC]]
          rw [h4] at C4
          clear h1 h2 h3 h4
          go_enter Tryd.func49, Tryd.ntmps49
          go_wp2_with fail
          refine (C1.out _).mono ?_
          rintro e w1 ⟨rfl, hb1⟩
          have HA1 := Lib.hid (HA.out.next hb1)
          have HB1 := Lib.hid (HB.out.trans (hb1.mono HB.out.size))
          obtain ⟨c0, c1, c2, c3, c4, c5, c6, c7, c8, c9, c10, c11⟩ := HA1.out
          clear hb1
          go_wp2_with fail
          refine (C2.out _).mono ?_
          rintro e w2 ⟨rfl, hb2⟩
          have HA2 := Lib.hid (HA1.out.next hb2)
          have HB2 := Lib.hid (HB1.out.trans (hb2.mono HB1.out.size))
          clear c0 c1 c2 c3 c4 c5 c6 c7 c8 c9 c10 c11
          obtain ⟨c0, c1, c2, c3, c4, c5, c6, c7, c8, c9, c10, c11⟩ := HA2.out
          clear hb2
          go_wp2_with fail
          refine (C3.out _ HB2.out).mono ?_
          rintro e w3 ⟨rfl, hb3⟩
          have HA3 := Lib.hid (HA2.out.next hb3)
          have HB3 := Lib.hid (HB2.out.trans (hb3.mono HB2.out.size))
          clear c0 c1 c2 c3 c4 c5 c6 c7 c8 c9 c10 c11
          obtain ⟨c0, c1, c2, c3, c4, c5, c6, c7, c8, c9, c10, c11⟩ := HA3.out
          clear hb3
          go_wp2_with fail
          refine (C4.out _ HB3.out).mono ?_
          rintro e w4 ⟨rfl, hb4⟩
          have HB4 := Lib.hid (HB3.out.trans (hb4.mono HB3.out.size))
          clear hb4
          go_wp2
          go_ret
          exact ⟨rfl, HB4.out⟩
        · rw [show errC (opB t r q ds k nt nr pt pr s p v) = 0 by simp [opB, h1, h2, h3, h4, errC]]
          rw [h4] at C4
          clear h1 h2 h3 h4
          go_enter Tryd.func49, Tryd.ntmps49
          go_wp2_with fail
          refine (C1.out _).mono ?_
          rintro e w1 ⟨rfl, hb1⟩
          have HA1 := Lib.hid (HA.out.next hb1)
          have HB1 := Lib.hid (HB.out.trans (hb1.mono HB.out.size))
          obtain ⟨c0, c1, c2, c3, c4, c5, c6, c7, c8, c9, c10, c11⟩ := HA1.out
          clear hb1
          go_wp2_with fail
          refine (C2.out _).mono ?_
          rintro e w2 ⟨rfl, hb2⟩
          have HA2 := Lib.hid (HA1.out.next hb2)
          have HB2 := Lib.hid (HB1.out.trans (hb2.mono HB1.out.size))
          clear c0 c1 c2 c3 c4 c5 c6 c7 c8 c9 c10 c11
          obtain ⟨c0, c1, c2, c3, c4, c5, c6, c7, c8, c9, c10, c11⟩ := HA2.out
          clear hb2
          go_wp2_with fail
          refine (C3.out _ HB2.out).mono ?_
          rintro e w3 ⟨rfl, hb3⟩
          have HA3 := Lib.hid (HA2.out.next hb3)
          have HB3 := Lib.hid (HB2.out.trans (hb3.mono HB2.out.size))
          clear c0 c1 c2 c3 c4 c5 c6 c7 c8 c9 c10 c11
          obtain ⟨c0, c1, c2, c3, c4, c5, c6, c7, c8, c9, c10, c11⟩ := HA3.out
          clear hb3
          go_wp2_with fail
          refine (C4.out _ HB3.out).mono ?_
          rintro e w4 ⟨rfl, hb4⟩
          have HB4 := Lib.hid (HB3.out.trans (hb4.mono HB3.out.size))
          clear hb4
          go_wp2
          go_ret
          exact ⟨rfl, HB4.out⟩
end Go.Proofs.YtjlbpmmckgjajaaDoor

/- Two operations held against each other. -/
namespace Go.Proofs.YtjlbpmmckgjajaaDoor
open Go.RowKit Go.Lib
set_option linter.unusedVariables false

def eqOB (pt pr : Int) (s : ByteArray) (p v pt' pr' : Int) (s' : ByteArray) (p' v' : Int) : Bool := decide (pt = pt' ∧ pr = pr') && decide (strN s = strN s') && decide (p = p') && decide (v = v')
theorem eqOB_same (pt pr : Int) (s : ByteArray) (p v : Int) : eqOB pt pr s p v pt pr s p v = true := by simp [eqOB]
theorem st_same' (t r : Int) (W : World) : (binOp .eql 36 (.agg #[.int .i64 t, .int .i64 r]) (.agg #[.int .i64 t, .int .i64 r])).run Tryd.prog W = .ok (.bool true) W := by
  rw [St.st_eql]
  congr 2
  simp
theorem st_is (t r u x : Int) (b : Bool) (h : decide (t = u ∧ r = x) = b) (W : World) : (binOp .eql 36 (.agg #[.int .i64 t, .int .i64 r]) (.agg #[.int .i64 u, .int .i64 x])).run Tryd.prog W = .ok (.bool b) W := by
  rw [St.st_eql, ← h]
  congr 2
  rw [Bool.eq_iff_iff]
  simp

set_option maxHeartbeats 2000000 in
set_option maxRecDepth 100000 in
theorem eqOp_any (t r q : Int) (da : Option Addr) (ds : List Int) (dn dc : Nat) (k nt nr pt pr : Int) (s : ByteArray) (p v : Int) (pt' pr' : Int) (s' : ByteArray) (p' v' : Int) (da' : Option Addr) (dn' dc' : Nat) (w : World) (hr : RowK .i64 w da ds) (hn : dn = ds.length) (hl : ds.length ≤ 140737488355328) (hr' : RowK .i64 w da' ds) (hn' : dn' = ds.length) :
    Calls Tryd.prog 61 #[.agg #[.int .i64 t, .int .i64 r, .int .i64 q, .slice da dn dc, .int .i64 k, .int .i64 nt, .int .i64 nr, .int .i64 pt, .int .i64 pr, .string s, .int .i64 p, .int .i64 v], .agg #[.int .i64 t, .int .i64 r, .int .i64 q, .slice da' dn' dc', .int .i64 k, .int .i64 nt, .int .i64 nr, .int .i64 pt', .int .i64 pr', .string s', .int .i64 p', .int .i64 v']] w (BoolPost w (eqOB pt pr s p v pt' pr' s' p' v')) := by
  have HB := Lib.hid (St.below2 w (.cells #[.int .i64 t, .int .i64 r, .int .i64 q, .slice da dn dc, .int .i64 k, .int .i64 nt, .int .i64 nr, .int .i64 pt, .int .i64 pr, .string s, .int .i64 p, .int .i64 v] 39) (.cells #[.int .i64 t, .int .i64 r, .int .i64 q, .slice da' dn' dc', .int .i64 k, .int .i64 nt, .int .i64 nr, .int .i64 pt', .int .i64 pr', .string s', .int .i64 p', .int .i64 v'] 39))
  have C := Lib.hid (eqI_yes da da' ds dn dn' dc dc' ((w.alloc (.cells #[.int .i64 t, .int .i64 r, .int .i64 q, .slice da dn dc, .int .i64 k, .int .i64 nt, .int .i64 nr, .int .i64 pt, .int .i64 pr, .string s, .int .i64 p, .int .i64 v] 39)).alloc (.cells #[.int .i64 t, .int .i64 r, .int .i64 q, .slice da' dn' dc', .int .i64 k, .int .i64 nt, .int .i64 nr, .int .i64 pt', .int .i64 pr', .string s', .int .i64 p', .int .i64 v'] 39)) ((hr.alloc _).alloc _) ((hr'.alloc _).alloc _) hn hn' hl)
  have hG := St.st_guard
  have z1 := fun W => st_same' t r W
  have z2 := fun W => st_same' nt nr W
  clear hr hn hl hr' hn'
  cases h1 : decide (pt = pt' ∧ pr = pr')
  · rw [show eqOB pt pr s p v pt' pr' s' p' v' = false by simp only [eqOB, h1]; rfl]
    have z3 := st_is pt pr pt' pr' false h1
    clear h1
    go_enter Tryd.func61, Tryd.ntmps61
    go_wp2_with fail
    refine (C.out).mono ?_
    rintro e w1 ⟨rfl, nq, rfl⟩
    go_wp2
    go_ret
    exact ⟨rfl, below_drewN HB.out nq⟩
  · have z3 := st_is pt pr pt' pr' true h1
    by_cases h2 : strN s = strN s'
    · obtain rfl := Ky.strN_inj h2
      clear h2
      by_cases h3 : p = p'
      · by_cases h4 : v = v'
        · rw [show eqOB pt pr s p v pt' pr' s p' v' = true by simp only [eqOB, h1, h3, h4]; simp]
          subst h3 h4
          clear h1
          go_enter Tryd.func61, Tryd.ntmps61
          go_wp2_with fail
          refine (C.out).mono ?_
          rintro e w1 ⟨rfl, nq, rfl⟩
          go_wp2
          go_ret
          exact ⟨rfl, below_drewN HB.out nq⟩
        · rw [show eqOB pt pr s p v pt' pr' s p' v' = false by simp [eqOB, h4]]
          have h4' : (v == v') = false := by simpa using h4
          subst h3
          clear h1
          go_enter Tryd.func61, Tryd.ntmps61
          go_wp2_with fail
          refine (C.out).mono ?_
          rintro e w1 ⟨rfl, nq, rfl⟩
          go_wp2
          go_ret
          exact ⟨rfl, below_drewN HB.out nq⟩
      · rw [show eqOB pt pr s p v pt' pr' s p' v' = false by simp [eqOB, h3]]
        have h3' : (p == p') = false := by simpa using h3
        clear h1
        go_enter Tryd.func61, Tryd.ntmps61
        go_wp2_with fail
        refine (C.out).mono ?_
        rintro e w1 ⟨rfl, nq, rfl⟩
        go_wp2
        go_ret
        exact ⟨rfl, below_drewN HB.out nq⟩
    · rw [show eqOB pt pr s p v pt' pr' s' p' v' = false by simp [eqOB, h2]]
      have e1 : (s.toList == s'.toList) = false := by rw [Ky.same_strN]; exact decide_eq_false h2
      have e2 : ¬ s.toList = s'.toList := by simpa using e1
      clear h1 h2
      go_enter Tryd.func61, Tryd.ntmps61
      go_wp2_with fail
      refine (C.out).mono ?_
      rintro e w1 ⟨rfl, nq, rfl⟩
      go_wp2
      go_ret
      exact ⟨rfl, below_drewN HB.out nq⟩

theorem op_build (t r q : Int) (da : Option Addr) (dn dc : Nat) (k nt nr : Int) (w : World) : (Instr.build 39 #[(0, .agg #[.int .i64 t, .int .i64 r]), (1, .int .i64 q), (2, .slice da dn dc), (3, .int .i64 k), (4, .agg #[.int .i64 nt, .int .i64 nr])]).run Tryd.prog w = .ok (.agg #[.int .i64 t, .int .i64 r, .int .i64 q, .slice da dn dc, .int .i64 k, .int .i64 nt, .int .i64 nr, .int .i64 0, .int .i64 0, .string ⟨#[]⟩, .int .i64 0, .int .i64 0]) w := run_build w 39 _ _ (by kernel_rfl)
end Go.Proofs.YtjlbpmmckgjajaaDoor
