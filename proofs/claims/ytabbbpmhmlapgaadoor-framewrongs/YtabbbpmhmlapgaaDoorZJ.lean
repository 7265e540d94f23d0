/- Joined: G1 G2 G3 G4. -/
import Derived.Test.YtabbbpmhmlapgaaDoorM1
import Derived.Test.YtabbbpmhmlapgaaDoorK5
import Derived.Laws.BitsAllLaws
import Derived.Test.YtabbbpmhmlapgaaDoorM2

/- Mathematics of CRC-32: a state goes on by bytes; from unlike states, or by unlike bytes, it comes to unlike states; a number as four bytes. -/
namespace Go.Proofs.YtabbbpmhmlapgaaDoor

set_option linter.unusedVariables false

/-- one bit -/
def crcS (x : Nat) : Nat := x / 2 ^^^ (if x % 2 = 1 then 3988292384 else 0)
def crcN : Nat → Nat → Nat
  | 0, x => x
  | n + 1, x => crcN n (crcS x)
def crcB (x b : Nat) : Nat := crcN 8 (x ^^^ b)
def crcL : Nat → List Int → Nat
  | x, [] => x
  | x, b :: r => crcL (crcB x b.toNat) r
def crc (bs : List Int) : Nat := crcL 4294967295 bs ^^^ 4294967295

theorem xor_lt {a b : Nat} (ha : a < 4294967296) (hb : b < 4294967296) : a ^^^ b < 4294967296 := Nat.xor_lt_two_pow (n := 32) ha hb
theorem xor_cancel {a b c : Nat} (h : a ^^^ c = b ^^^ c) : a = b := by
  have := congrArg (· ^^^ c) h
  simpa [Nat.xor_assoc] using this
theorem crcS_lt {x : Nat} (h : x < 4294967296) : crcS x < 4294967296 := by
  unfold crcS
  refine xor_lt (by omega) ?_
  split <;> omega
theorem crcS_bit {x : Nat} (h : x < 4294967296) : (crcS x).testBit 31 = decide (x % 2 = 1) := by
  unfold crcS
  rw [Nat.testBit_xor, Nat.testBit_lt_two_pow (x := x / 2) (i := 31) (by omega)]
  split
  · rename_i h1
    rw [decide_eq_true h1]
    decide
  · rename_i h1
    rw [decide_eq_false h1]
    decide
theorem crcS_inj {x y : Nat} (hx : x < 4294967296) (hy : y < 4294967296) (h : crcS x = crcS y) : x = y := by
  have hb : decide (x % 2 = 1) = decide (y % 2 = 1) := by rw [← crcS_bit hx, ← crcS_bit hy, h]
  have hm : x % 2 = y % 2 := by
    by_cases h1 : x % 2 = 1
    · rw [decide_eq_true h1] at hb
      have := of_decide_eq_true hb.symm
      omega
    · rw [decide_eq_false h1] at hb
      have := of_decide_eq_false hb.symm
      omega
  unfold crcS at h
  rw [hm] at h
  have := xor_cancel h
  omega
theorem crcN_lt : ∀ (n : Nat) {x : Nat}, x < 4294967296 → crcN n x < 4294967296
  | 0, _, h => h
  | n + 1, _, h => crcN_lt n (crcS_lt h)
theorem crcN_inj : ∀ (n : Nat) {x y : Nat}, x < 4294967296 → y < 4294967296 → crcN n x = crcN n y → x = y
  | 0, _, _, _, _, h => h
  | n + 1, _, _, hx, hy, h => crcS_inj hx hy (crcN_inj n (crcS_lt hx) (crcS_lt hy) h)
theorem crcN_succ : ∀ (n x : Nat), crcN (n + 1) x = crcS (crcN n x)
  | 0, _ => rfl
  | n + 1, x => by
    rw [crcN, crcN_succ n (crcS x)]
    rfl
theorem byte_lt {b : Int} (h0 : 0 ≤ b) (h1 : b < 256) : b.toNat < 4294967296 := by omega
theorem crcB_lt {x b : Nat} (hx : x < 4294967296) (hb : b < 4294967296) : crcB x b < 4294967296 := crcN_lt 8 (xor_lt hx hb)
theorem crcB_inj {x y b : Nat} (hx : x < 4294967296) (hy : y < 4294967296) (hb : b < 4294967296) (h : crcB x b = crcB y b) : x = y := xor_cancel (crcN_inj 8 (xor_lt hx hb) (xor_lt hy hb) h)
theorem crcB_inj2 {x a b : Nat} (hx : x < 4294967296) (ha : a < 4294967296) (hb : b < 4294967296) (h : crcB x a = crcB x b) : a = b := by
  have := crcN_inj 8 (xor_lt hx ha) (xor_lt hx hb) h
  rw [Nat.xor_comm x a, Nat.xor_comm x b] at this
  exact xor_cancel this
theorem crcL_lt : ∀ (bs : List Int) {x : Nat}, IsB bs → x < 4294967296 → crcL x bs < 4294967296
  | [], _, _, h => h
  | b :: r, _, hb, h => by
    have h1 := hb b (by simp)
    exact crcL_lt r (fun z hz => hb z (List.mem_cons_of_mem _ hz)) (crcB_lt h (by omega))
theorem crcL_inj : ∀ (bs : List Int) {x y : Nat}, IsB bs → x < 4294967296 → y < 4294967296 → crcL x bs = crcL y bs → x = y
  | [], _, _, _, _, _, h => h
  | b :: r, _, _, hb, hx, hy, h => by
    have h1 := hb b (by simp)
    exact crcB_inj hx hy (by omega) (crcL_inj r (fun z hz => hb z (List.mem_cons_of_mem _ hz)) (crcB_lt hx (by omega)) (crcB_lt hy (by omega)) h)
theorem crcL_app : ∀ (a b : List Int) (x : Nat), crcL x (a ++ b) = crcL (crcL x a) b
  | [], _, _ => rfl
  | z :: r, b, x => crcL_app r b (crcB x z.toNat)
theorem crcL_snoc (a : List Int) (z : Int) (x : Nat) : crcL x (a ++ [z]) = crcB (crcL x a) z.toNat := crcL_app a [z] x
theorem crc_lt {bs : List Int} (h : IsB bs) : crc bs < 4294967296 := xor_lt (crcL_lt bs h (by omega)) (by omega)
/-- one byte is another one: another sum -/
theorem crc_flip {l r : List Int} {a b : Int} (hl : IsB l) (hr : IsB r) (ha : 0 ≤ a ∧ a < 256) (hb : 0 ≤ b ∧ b < 256) (h : a ≠ b) : crc (l ++ a :: r) ≠ crc (l ++ b :: r) := by
  intro e
  unfold crc at e
  have e1 := xor_cancel e
  rw [crcL_app, crcL_app] at e1
  have hs : crcL 4294967295 l < 4294967296 := crcL_lt l hl (by omega)
  have e2 := crcL_inj r hr (crcB_lt hs (by omega)) (crcB_lt hs (by omega)) e1
  have e3 := crcB_inj2 hs (by omega) (by omega) e2
  omega

/-- four bytes, the most significant one first -/
def be4 (n : Nat) : List Int := [((n / 16777216 : Nat) : Int), ((n / 65536 % 256 : Nat) : Int), ((n / 256 % 256 : Nat) : Int), ((n % 256 : Nat) : Int)]
theorem be4_len (n : Nat) : (be4 n).length = 4 := rfl
theorem be4_inj {n m : Nat} (h : be4 n = be4 m) : n = m := by
  simp only [be4, List.cons.injEq, and_true] at h
  omega
theorem be4_isB {n : Nat} (h : n < 4294967296) : IsB (be4 n) := by
  intro z hz
  simp only [be4, List.mem_cons, List.not_mem_nil, or_false] at hz
  omega
end Go.Proofs.YtabbbpmhmlapgaaDoor

/- Sums of bytes: the program's, the page's. -/
namespace Go.Proofs.YtabbbpmhmlapgaaDoor
open Go.RowKit Go.Lib
set_option linter.unusedVariables false

theorem crc_and0 {y : Nat} (hy : y < 4294967296) (h : y % 2 = 0) : bits .and .u32 (y : Int) 1 = 0 := by
  have := u32_and_nat y 1 hy (by omega)
  rw [Nat.and_one_is_mod, h] at this
  exact this
theorem crc_and1 {y : Nat} (hy : y < 4294967296) (h : y % 2 = 1) : bits .and .u32 (y : Int) 1 = 1 := by
  have := u32_and_nat y 1 hy (by omega)
  rw [Nat.and_one_is_mod, h] at this
  exact this
theorem crc_mask : bits .and .u32 3988292384 4294967295 = 3988292384 := by
  have := u32_and_nat 3988292384 4294967295 (by omega) (by omega)
  exact this
theorem crc_mask0 : bits .and .u32 3988292384 0 = 0 := by
  have := u32_and_nat 3988292384 0 (by omega) (by omega)
  exact this
theorem crc_x1 {y : Nat} (hy : y < 4294967296) (h : y % 2 = 1) : bits .xor .u32 ((y : Int) / 2) 3988292384 = ((crcS y : Nat) : Int) := by
  have := u32_xor_nat (y / 2) 3988292384 (by omega) (by omega)
  unfold crcS
  rw [if_pos h]
  exact this
theorem crc_x0 {y : Nat} (hy : y < 4294967296) (h : y % 2 = 0) : bits .xor .u32 ((y : Int) / 2) 0 = ((crcS y : Nat) : Int) := by
  have := u32_xor_nat (y / 2) 0 (by omega) (by omega)
  unfold crcS
  rw [if_neg (by omega)]
  exact this
def ShJ (all : Nat) (w : World) (act : Act) (w' : World) : Prop :=
  ∃ (y m : Nat) (z : Int) (u1 u2 u4 u5 u6 u7 u8 u9 u10 u11 u12 u13 u14 u15 u16 u17 : Value), act = { tmps := #[.int .u32 z, u1, u2, .int .i64 (m : Int), u4, u5, u6, u7, u8, u9, u10, u11, u12, u13, u14, u15, u16, u17], defers := [] } ∧ z = (y : Int) ∧ y < 4294967296 ∧ 1 ≤ m ∧ m ≤ 8 ∧ crcN m y = all ∧ w' = w
def intNat : Value → Nat
  | .int _ z => z.toNat
  | _ => 0
set_option maxHeartbeats 2000000 in
set_option maxRecDepth 100000 in
theorem shiftByte_any (x : Nat) (w : World) (hx : x < 4294967296) : Calls Tryd.prog 55 #[.int .u32 (x : Int)] w fun e w' => e = .returned (.int .u32 ((crcN 8 x : Nat) : Int)) ∧ w = w' := by
  obtain ⟨all, hall⟩ : ∃ a, crcN 8 x = a := ⟨_, rfl⟩
  have HA := Lib.hid hall
  rw [hall]
  clear hall
  have hm1 := crc_mask
  have hm0 := crc_mask0
  go_enter Tryd.func55, Tryd.ntmps55
  go_wp2
  refine wp_scope_jumps 0 (ShJ all w) (fun a' _ => intNat (a'.tmps.getD 3 undef)) rfl ?_ ?_
  · rcases (show x % 2 = 0 ∨ x % 2 = 1 by omega) with h | h
    · -- MA
      have ha := crc_and0 hx h
      have hxx := crc_x0 hx h
      have HLT := Lib.hid (crcS_lt hx)
      obtain ⟨z, hz⟩ : ∃ z : Int, z = ((crcS x : Nat) : Int) := ⟨_, rfl⟩
      rw [← hz] at hxx
      have HZ := Lib.hid hz
      clear hz
      go_wp2_with fail
      go_step3
      go_wp2_with fail
      go_step3
      exact ⟨rfl, crcS x, 7, z, _, _, _, _, _, _, _, _, _, _, _, _, _, _, _, _, rfl, HZ.out, HLT.out, by omega, by omega, HA.out, rfl⟩
    · -- MB
      have ha := crc_and1 hx h
      have hxx := crc_x1 hx h
      have HLT := Lib.hid (crcS_lt hx)
      obtain ⟨z, hz⟩ : ∃ z : Int, z = ((crcS x : Nat) : Int) := ⟨_, rfl⟩
      rw [← hz] at hxx
      have HZ := Lib.hid hz
      clear hz
      go_wp2_with fail
      go_step3
      go_wp2_with fail
      go_step3
      exact ⟨rfl, crcS x, 7, z, _, _, _, _, _, _, _, _, _, _, _, _, _, _, _, _, rfl, HZ.out, HLT.out, by omega, by omega, HA.out, rfl⟩
  · rintro a' w' ⟨y, m, z0, u1, u2, u4, u5, u6, u7, u8, u9, u10, u11, u12, u13, u14, u15, u16, u17, rfl, rfl, hy, hm1', hm8, hE, rfl⟩
    obtain ⟨m, rfl⟩ : ∃ k, m = k + 1 := ⟨m - 1, by omega⟩
    have hmm : (((m + 1 : Nat) : Int)) - 1 = (m : Int) := by omega
    have HE : Hid (crcN m (crcS y) = all) := hE
    clear hE HA
    have hw1 : wrap64 ((((m + 1 : Nat) : Int)) - 1) = (m : Int) := by rw [hmm]; exact IntWalk.wrap64_in _ (by omega)
    have hw2 : IntKind.i64.wrap ((((m + 1 : Nat) : Int)) - 1) = (m : Int) := by rw [hmm]; exact IntWalk.i64_in _ (by omega)
    by_cases hlast : 0 < m
    · have hd : decide ((0 : Int) < (m : Int)) = true := decide_eq_true (by omega)
      have hdz : (0 : Int) < (m : Int) := by omega
      rcases (show y % 2 = 0 ∨ y % 2 = 1 by omega) with h | h
      · -- MC
        have ha := crc_and0 hy h
        have hxx := crc_x0 hy h
        have HLT := Lib.hid (crcS_lt hy)
        obtain ⟨z, hz⟩ : ∃ z : Int, z = ((crcS y : Nat) : Int) := ⟨_, rfl⟩
        rw [← hz] at hxx
        have HZ := Lib.hid hz
        clear hz
        go_wp2_with fail
        go_step3
        refine ⟨rfl, ⟨crcS y, m, z, _, _, _, _, _, _, _, _, _, _, _, _, _, _, _, _, rfl, HZ.out, HLT.out, by omega, by omega, HE.out, rfl⟩, ?_⟩
        simp [intNat]
      · -- MD
        have ha := crc_and1 hy h
        have hxx := crc_x1 hy h
        have HLT := Lib.hid (crcS_lt hy)
        obtain ⟨z, hz⟩ : ∃ z : Int, z = ((crcS y : Nat) : Int) := ⟨_, rfl⟩
        rw [← hz] at hxx
        have HZ := Lib.hid hz
        clear hz
        go_wp2_with fail
        go_step3
        refine ⟨rfl, ⟨crcS y, m, z, _, _, _, _, _, _, _, _, _, _, _, _, _, _, _, _, rfl, HZ.out, HLT.out, by omega, by omega, HE.out, rfl⟩, ?_⟩
        simp [intNat]
    · obtain rfl : m = 0 := by omega
      rcases (show y % 2 = 0 ∨ y % 2 = 1 by omega) with h | h
      · -- ME
        have ha := crc_and0 hy h
        have hxx := crc_x0 hy h
        have HLT := Lib.hid (crcS_lt hy)
        obtain ⟨z, hz⟩ : ∃ z : Int, z = ((crcS y : Nat) : Int) := ⟨_, rfl⟩
        rw [← hz] at hxx
        have HZ := Lib.hid hz
        clear hz
        go_wp2
        simp only [Exit.jump]
        go_ret
        exact ⟨ret_int (by rw [HZ.out, ← HE.out]; rfl), rfl⟩
      · -- MF
        have ha := crc_and1 hy h
        have hxx := crc_x1 hy h
        have HLT := Lib.hid (crcS_lt hy)
        obtain ⟨z, hz⟩ : ∃ z : Int, z = ((crcS y : Nat) : Int) := ⟨_, rfl⟩
        rw [← hz] at hxx
        have HZ := Lib.hid hz
        clear hz
        go_wp2
        simp only [Exit.jump]
        go_ret
        exact ⟨ret_int (by rw [HZ.out, ← HE.out]; rfl), rfl⟩
end Go.Proofs.YtabbbpmhmlapgaaDoor

/- Sums of bytes: the program's, the page's; a sum as four bytes. -/
namespace Go.Proofs.YtabbbpmhmlapgaaDoor
open Go.RowKit Go.Lib
set_option linter.unusedVariables false

theorem crc_xb {y : Nat} {b : Int} (hy : y < 4294967296) (h0 : 0 ≤ b) (h1 : b < 256) : bits .xor .u32 (y : Int) b = ((y ^^^ b.toNat : Nat) : Int) := by
  have := u32_xor_nat y b.toNat hy (by omega)
  rw [show ((b.toNat : Nat) : Int) = b by omega] at this
  exact this
theorem crc_not {y : Nat} (hy : y < 4294967296) : bits .xor .u32 (y : Int) 4294967295 = ((y ^^^ 4294967295 : Nat) : Int) := u32_xor_nat y 4294967295 hy (by omega)
theorem crc_not' {y : Nat} (hy : y < 4294967296) : bits .xor .u32 4294967295 (y : Int) = ((y ^^^ 4294967295 : Nat) : Int) := by
  have := u32_xor_nat 4294967295 y (by omega) hy
  rw [Nat.xor_comm]
  exact this
def SumPost (bs : List Int) (w : World) (e : Ending) (w' : World) : Prop := e = .returned (.int .u32 ((crc bs : Nat) : Int)) ∧ w = w'

set_option maxHeartbeats 1000000 in
set_option maxRecDepth 100000 in
theorem sum_any (a : Option Addr) (bs : List Int) (n cap : Nat) (w : World) (hn : n = bs.length) (hr : RowK .u8 w a bs) (hb : IsB bs) (hl : bs.length ≤ 140737488355328) : Calls Tryd.prog 39 #[.int .u32 0, .slice a n cap] w (SumPost bs w) := by
  subst hn
  have HA := Lib.hid hr
  have HB := Lib.hid hb
  clear hr hb
  have hsg : IntKind.u32.signed = false := rfl
  have hmx : IntKind.u32.max = 4294967295 := rfl
  have h00 : bits .xor .u32 4294967295 0 = 4294967295 := u32_xor_nat 4294967295 0 (by omega) (by omega)
  go_enter Tryd.func39, Tryd.ntmps39
  go_wp2
  go_loopg [5, 12] bs.length (fun g1 v i wr => ∃ (k y : Nat), i = .int .i64 k ∧ k ≤ bs.length ∧ bs.length - k ≤ g1 ∧ v = .int .u32 (y : Int) ∧ Hid (y = crcL 4294967295 (bs.take k) ∧ y < 4294967296) ∧ wr = w)
  case atStart => exact ⟨0, 4294967295, rfl, Nat.zero_le _, by omega, rfl, ⟨rfl, by omega⟩, rfl⟩
  case round =>
    obtain ⟨k, y, rfl, hk, hg, rfl, HY, rfl⟩ := hrel
    by_cases hlt : k < bs.length
    · obtain ⟨b1, o1, rfl, hc1⟩ := HA.out k hlt
      have hltz : (k : Int) < (bs.length : Int) := by omega
      obtain ⟨hz0, hz1⟩ : 0 ≤ bs.getD k 0 ∧ bs.getD k 0 < 256 := by
        have := HB.out (bs.getD k 0) (by rw [List.getD_eq_getElem?_getD, List.getElem?_eq_getElem hlt]; simp)
        exact this
      have HT := Lib.hid (take_getD bs k hlt)
      generalize bs.getD k 0 = z at *
      have hxx := crc_xb HY.out.2 hz0 hz1
      have HLT := Lib.hid (xor_lt HY.out.2 (show z.toNat < 4294967296 by omega))
      obtain ⟨x, hx⟩ : ∃ x : Nat, x = y ^^^ z.toNat := ⟨_, rfl⟩
      rw [← hx] at hxx HLT
      have HX := Lib.hid hx
      clear hx
      have HC := Lib.hid (shiftByte_any x wr HLT.out)
      go_wp2_with fail
      refine (HC.out).mono ?_
      rintro e w1 ⟨rfl, rfl⟩
      go_wp2_with fail
      go_roundg (bs.length - (k + 1))
      case measure => omega
      case rel => exact ⟨k + 1, crcN 8 x, by go_num, by omega, by omega, rfl, ⟨by rw [HT.out, crcL_snoc, ← HY.out.1, HX.out]; rfl, crcN_lt 8 HLT.out⟩, rfl⟩
    · have hltz : ¬ (k : Int) < (bs.length : Int) := by omega
      have hn1 := crc_not HY.out.2
      have hn2 := crc_not' HY.out.2
      go_wp2
      go_ret
      refine ⟨ret_int ?_, rfl⟩
      have h1 := HY.out.1
      rw [List.take_of_length_le (by omega)] at h1
      unfold crc
      rw [← h1]

end Go.Proofs.YtabbbpmhmlapgaaDoor

/- A sum as four bytes; two rows of bytes held against each other. -/
namespace Go.Proofs.YtabbbpmhmlapgaaDoor
open Go.RowKit Go.Lib
set_option linter.unusedVariables false

def shN (S i : Nat) : Nat := S * 256 ^ i % 4294967296
theorem shN_lt (S i : Nat) : shN S i < 4294967296 := Nat.mod_lt _ (by omega)
theorem shN_zero {S : Nat} (h : S < 4294967296) : shN S 0 = S := by unfold shN; omega
theorem shN_succ (S i : Nat) : shN S (i + 1) = shN S i * 256 % 4294967296 := by
  unfold shN
  rw [Nat.pow_succ, ← Nat.mul_assoc, Nat.mod_mul_mod]
theorem be4_next {S i : Nat} (h : S < 4294967296) (hi : i < 4) : (be4 S).take (i + 1) = (be4 S).take i ++ [((shN S i / 16777216 : Nat) : Int)] := by
  have e : ∀ x y : Nat, x = y → (x : Int) = (y : Int) := fun _ _ h => by rw [h]
  match i, hi with
  | 0, _ => simp [be4, shN]; omega
  | 1, _ => simp [be4, shN]; omega
  | 2, _ => simp [be4, shN]; omega
  | 3, _ => simp [be4, shN]; omega
def SbI (S : Nat) (w : World) (v : Value) (i : Nat) (w' : World) : Prop := OwnK .u8 5 w' w.heap.size v ((be4 S).take i) ∧ Below w.heap.size w w'
def SbJ (S : Nat) (w : World) (act : Act) (w' : World) : Prop :=
  ∃ (i : Nat) (z : Int) (v : Value) (u0 u1 u2 u5 u6 u7 u8 u9 u10 u11 u12 u13 u14 u15 u16 u17 u18 : Value), act = { tmps := #[u0, u1, u2, .int .u32 z, v, u5, u6, u7, u8, u9, u10, u11, u12, u13, u14, u15, u16, u17, u18], defers := [] } ∧ z = ((shN S i : Nat) : Int) ∧ i < 4 ∧ SbI S w v i w'
def lenV : Value → Nat
  | .slice _ n _ => n
  | _ => 0
theorem own_len {kd : IntKind} {e : TypeId} {w : World} {base : Nat} {v : Value} {zs : List Int} (h : OwnK kd e w base v zs) : lenV v = zs.length := by
  obtain ⟨a, c, rfl, _⟩ := h.form
  rfl
theorem be4_take_len {S i : Nat} (h : i ≤ 4) : ((be4 S).take i).length = i := by rw [List.length_take, be4_len]; omega

theorem sb_next {S i : Nat} {w w1 w2 : World} {v v' : Value} {z : Int} (h : S < 4294967296) (hi : i < 4) (hI : SbI S w v i w1) (hz : z = ((shN S i / 16777216 : Nat) : Int)) (hg : Grew .u8 5 w.heap.size w1 v ((be4 S).take i) [z] v' w2) : SbI S w v' (i + 1) w2 := by
  refine ⟨?_, hg.bel _ _ hI.2 (Nat.le_refl _) hI.2.size⟩
  rw [be4_next h hi, ← hz]
  exact hg.own

set_option maxHeartbeats 1000000 in
set_option maxRecDepth 100000 in
theorem sumBytes_any (a : Option Addr) (bs : List Int) (n cap : Nat) (w : World) (hn : n = bs.length) (hr : RowK .u8 w a bs) (hb : IsB bs) (hl : bs.length ≤ 140737488355328) : Calls Tryd.prog 22 #[.slice a n cap] w (AppPost w.heap.size w (be4 (crc bs))) := by
  have C := Lib.hid (sum_any a bs n cap w hn hr hb hl)
  have HS := Lib.hid (crc_lt hb)
  clear hn hr hb hl
  unfold SumPost at C
  generalize crc bs = S at *
  have HI : Hid (SbI S w (.slice none 0 0) 0 w) := ⟨by rw [List.take_zero]; exact OwnK.nil _ _ _ _, Below.refl _ _⟩
  go_enter Tryd.func22, Tryd.ntmps22
  go_wp2
  refine wp_scope_jumps 0 (SbJ S w) (fun a' _ => 4 - lenV (a'.tmps.getD 4 undef)) rfl ?_ ?_
  · have HZ8 : Hid ((S : Int) / 16777216 % 256 = ((shN S 0 / 16777216 : Nat) : Int)) := by
      have := HS.out
      have e := shN_zero HS.out
      rw [e]
      show (S : Int) / 16777216 % 256 = ((S / 16777216 : Nat) : Int)
      omega
    have HZ9 : Hid ((S : Int) * 256 % 4294967296 = ((shN S 1 : Nat) : Int)) := by
      have e := shN_succ S 0
      rw [shN_zero HS.out] at e
      rw [e]
      show (S : Int) * 256 % 4294967296 = ((S * 256 % 4294967296 : Nat) : Int)
      omega
    go_wp2_with fail
    refine (C.out).mono ?_
    rintro e w1 ⟨rfl, rfl⟩
    go_wp2_with fail
    go_step3
    go_wp2_with (at_builtin
                 refine wpB_one rfl _ _ rfl w.heap.size w (.slice none 0 0) ((be4 S).take 0) _ rfl HI.out.1 rfl (by rw [List.take_zero]; decide) (Nat.le_refl _) ?_
                 intro v6 w6 hp6
                 have HQ := Lib.hid (sb_next HS.out (by omega) HI.out HZ8.out hp6)
                 obtain ⟨a6, n6, c6, rfl, hn6, -, -⟩ := HQ.out.1.form'
                 rw [be4_take_len (by omega)] at hn6
                 subst hn6
                 clear hp6)
    go_step3
    exact ⟨rfl, 1, _, _, _, _, _, _, _, _, _, _, _, _, _, _, _, _, _, _, _, rfl, HZ9.out, by omega, HQ.out⟩
  · rintro a' w' ⟨i, z, v, u0, u1, u2, u5, u6, u7, u8, u9, u10, u11, u12, u13, u14, u15, u16, u17, u18, rfl, hz, hi, hI⟩
    have HJ := Lib.hid hI
    have HZ8 : Hid (z / 16777216 % 256 = ((shN S i / 16777216 : Nat) : Int)) := by
      have := shN_lt S i
      rw [hz]
      show ((shN S i : Nat) : Int) / 16777216 % 256 = _
      omega
    have HZ9 : Hid (z * 256 % 4294967296 = ((shN S (i + 1) : Nat) : Int)) := by
      rw [shN_succ, hz]
      show ((shN S i : Nat) : Int) * 256 % 4294967296 = _
      omega
    have HLN := Lib.hid (own_len hI.1)
    have hsz := hI.2.size
    clear hI hz C HI
    by_cases hlast : i + 1 < 4
    · have hd : decide (((i + 1 : Nat) : Int) < 4) = true := decide_eq_true (by omega)
      have hdz : ((i + 1 : Nat) : Int) < 4 := by omega
      have hd2 : decide ((i : Int) + 1 < 4) = true := decide_eq_true (by omega)
      go_wp2_with (at_builtin
                   refine wpB_one rfl _ _ rfl w.heap.size w' v ((be4 S).take i) _ rfl HJ.out.1 rfl (by rw [be4_take_len (by omega)]; omega) (by omega) ?_
                   intro v6 w6 hp6
                   have HQ := Lib.hid (sb_next HS.out hi HJ.out HZ8.out hp6)
                   obtain ⟨a6, n6, c6, rfl, hn6, -, -⟩ := HQ.out.1.form'
                   rw [be4_take_len (by omega)] at hn6
                   subst hn6
                   clear hp6)
      go_step3
      refine ⟨rfl, ⟨i + 1, _, _, _, _, _, _, _, _, _, _, _, _, _, _, _, _, _, _, _, rfl, HZ9.out, by omega, HQ.out⟩, ?_⟩
      have h1 := HLN.out
      rw [be4_take_len (by omega)] at h1
      show 4 - (i + 1) < 4 - lenV v
      rw [h1]
      omega
    · have hd : decide (((i + 1 : Nat) : Int) < 4) = false := decide_eq_false (by omega)
      have hdz : ¬ ((i + 1 : Nat) : Int) < 4 := by omega
      have hd2 : decide ((i : Int) + 1 < 4) = false := decide_eq_false (by omega)
      have HI3 : Hid (i = 3) := (by omega : i = 3)
      go_wp2_with (at_builtin
                   refine wpB_one rfl _ _ rfl w.heap.size w' v ((be4 S).take i) _ rfl HJ.out.1 rfl (by rw [be4_take_len (by omega)]; omega) (by omega) ?_
                   intro v6 w6 hp6
                   have HQ := Lib.hid (sb_next HS.out hi HJ.out HZ8.out hp6)
                   obtain ⟨a6, n6, c6, rfl, hn6, -, -⟩ := HQ.out.1.form'
                   rw [be4_take_len (by omega)] at hn6
                   subst hn6
                   clear hp6)
      simp only [Exit.jump]
      go_ret
      have h3 := HI3.out
      subst h3
      exact ⟨_, rfl, HQ.out.1, HQ.out.2⟩

/-- two rows of bytes, held against each other as texts -/
theorem bytesEq_any (a b : Option Addr) (xs ys : List Int) (n1 c1 n2 c2 : Nat) (w : World) (h1 : n1 = xs.length) (h2 : n2 = ys.length) (ha : RowK .u8 w a xs) (hb : RowK .u8 w b ys) (hx : IsB xs) (hy : IsB ys) : Calls Tryd.prog 41 #[.slice a n1 c1, .slice b n2 c2] w fun e w' => e = .returned (.bool (decide (xs = ys))) ∧ w = w' := by
  have t1 := to_str w a xs n1 c1 h1 ha
  have t2 := to_str w b ys n2 c2 h2 hb
  have HE : Hid (((strOfNums xs).toList == (strOfNums ys).toList) = decide (xs = ys)) := by
    have := Ky.same_strN (strOfNums xs) (strOfNums ys)
    rw [Ky.strN_of hx, Ky.strN_of hy] at this
    exact this
  clear h1 h2 ha hb hx hy
  go_enter Tryd.func41, Tryd.ntmps41
  go_wp2
  go_ret
  exact ⟨ret_bool HE.out, rfl⟩
end Go.Proofs.YtabbbpmhmlapgaaDoor
