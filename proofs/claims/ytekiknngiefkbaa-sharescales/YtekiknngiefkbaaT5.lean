/- symMerge in general, out of what it calls. -/
import Derived.Test.YtekiknngiefkbaaRows
import Derived.Test.YtekiknngiefkbaaT3
import Derived.Test.YtekiknngiefkbaaT4
import Derived.WalkKit
import Derived.Shelf.SlSortCmp.Kit1
import Derived.Sort.WalkA
import Derived.Sort.WalkB2
import Derived.Sort.WalkB12
import Derived.Deep.LoopGhost
import Derived.Lib.Hide
import Derived.IntWalk
namespace Go.Proofs.Ytekiknngiefkbaa
open Go.Shelf Go.RowKit Go.Lib Go.Sort Go.Proofs
variable {α : Type} [Inhabited α]

theorem rot_at_left (d : Array α) (s m e : Nat) (h : s = m) : Rot d d s m e := by subst h; exact rot_none_left d s e
theorem rot_at_right (d : Array α) (s m e : Nat) (h : e = m) : Rot d d s m e := by subst h; exact rot_none_right d s e
theorem up_one {key : α → Int} {d : Array α} {a s b : Nat} (h : s ≤ a ∨ b ≤ s) (h1 : Up key d a s) (h2 : Up key d s b) : Up key d a b := by
  rcases h with h | h
  · exact fun i j p1 p2 p3 => h2 i j (by omega) p2 p3
  · exact fun i j p1 p2 p3 => h1 i j p1 p2 (by omega)

/-- symMerge merges, whatever is less far than n apart -/
def SymSaid (enc : α → Value) (cf : α → α → Int) (key : α → Int) (g : Nat) (cb : Array Value) (blk off cap sz : Nat) (w0 : World) (n : Nat) : Prop :=
  ∀ (a m b : Nat) (za zm zb : Int) (d : Array α) (w : World), b - a < n → d.size = sz → SW enc w0 blk off d w → za = a → zm = m → zb = b → a < m → m < b → b ≤ sz → Up key d a m → Up key d m b → Crs (ltOf cf) key d a m b →
    Calls Try.prog 34 #[.slice (some ⟨blk, off, none⟩) sz cap, .int .i64 za, .int .i64 zm, .int .i64 zb, .func (.func g) #[] cb] w (Aft enc w0 blk off fun d' => Mgd key d d' a b)

set_option maxHeartbeats 16000000 in
set_option maxRecDepth 100000 in
theorem sym_main (enc : α → Value) (cf : α → α → Int) (key : α → Int) (g : Nat) (cb : Array Value) (blk off cap a m b : Nat) (d0 d : Array α) (w0 w : World)
    (eg : ∀ args w, (callFunc g args).run Try.prog w = .ok (.enter g args) w) (hcmp : CmpLays1 Try.prog g cb enc cf blk off d0.size w0) (R : Row1 enc w0 blk off d0) (hs : d0.size = d.size) (S : SW enc w0 blk off d w)
    (ham : a < m) (hmb : m < b) (hb : b ≤ d.size) (hsz : d.size < 4611686018427387904) (u1 : Up key d a m) (u2 : Up key d m b) (hX : Crs (ltOf cf) key d a m b) (h1 : m ≠ a + 1) (h2 : b ≠ m + 1) (ih : SymSaid enc cf key g cb blk off cap d.size w0 (b - a)) :
    Calls Try.prog 34 #[.slice (some ⟨blk, off, none⟩) d.size cap, .int .i64 a, .int .i64 m, .int .i64 b, .func (.func g) #[] cb] w (Aft enc w0 blk off fun d' => Mgd key d d' a b) := by
  have mixed : Try.prog.follows .mixedOrders = true := by kernel_rfl
  have hcl0 := R.hO.cells
  simp only [Value.cells] at hcl0
  have hst := R.hO.store Try.prog
  have S0 : Aside (SW enc w0 blk off d w) := S
  have HC : Aside _ := hcmp
  have U1 := Lib.hid u1
  have U2 := Lib.hid u2
  have XX := Lib.hid hX
  clear S hcmp u1 u2 hX
  have IH := Lib.hid ih
  clear ih
  have t1 : ((m : Int) - (a : Int) == 1) = false := beq_eq_false_iff_ne.2 (by omega)
  have t2 : ((b : Int) - (m : Int) == 1) = false := beq_eq_false_iff_ne.2 (by omega)
  have h3 : a + 1 < m := by omega
  have h4 : m + 1 < b := by omega
  clear h1 h2
  obtain ⟨mid, hh1, hh2⟩ : ∃ q : Nat, q * 2 ≤ a + b ∧ a + b ≤ q * 2 + 1 := ⟨(a + b) / 2, by omega, by omega⟩
  have eh1 : IntKind.i64.wrap ((a : Int) + (b : Int)) = (a : Int) + (b : Int) := by rw [IntKind.wrap_i64]; omega
  have eh2 : ((a : Int) + (b : Int)) / 2 = (mid : Int) := by omega
  by_cases hmm : mid < m
  · have hmz : (mid : Int) < (m : Int) := by omega
    go_enter Try.func34, Try.ntmps34
    go_wp2
    clear eh1 eh2
    obtain ⟨lo, hlo⟩ : ∃ q : Nat, q = mid + m - b := ⟨_, rfl⟩
    obtain ⟨hi, hhi⟩ : ∃ q : Nat, q = mid := ⟨_, rfl⟩
    have q1 : a ≤ lo := by omega
    have q2 : hi ≤ m := by omega
    have q3 : hi ≤ mid := by omega
    have q4 : lo ≤ hi := by omega
    have q5 : mid + m ≤ b + lo := by omega
    have q6 : lo = a ∨ mid + m = b + lo := by omega
    have q7 : hi = m ∨ hi = mid := by omega
    have Q6 := Lib.hid q6
    have Q7 := Lib.hid q7
    have HLO := Lib.hid hlo
    have HHI := Lib.hid hhi
    clear q6 q7 hlo hhi
    go_loopg [20, 21] (hi - lo) (fun g1 vs vr wr => ∃ (s r : Nat), vs = .int .i64 s ∧ vr = .int .i64 r ∧ lo ≤ s ∧ s ≤ r ∧ r ≤ hi ∧ r - s ≤ g1 ∧ Aside (SW enc w0 blk off d wr) ∧ Hid ((∀ t, lo ≤ t → t < s → key d[t]! ≤ key d[mid + m - 1 - t]!) ∧ (∀ t, r ≤ t → t < hi → key d[mid + m - 1 - t]! ≤ key d[t]!)))
    case atStart => exact ⟨lo, hi, by have := HLO.out; first | (subst this; rfl) | (congr 1; omega), by have := HHI.out; first | (subst this; rfl) | (congr 1; omega), by omega, by omega, by omega, by omega, S0, ⟨fun t _ _ => by omega, fun t _ _ => by omega⟩⟩
    case round =>
      clear S0
      obtain ⟨s, r, rfl, rfl, hls, hsr, hrh, hg1, S1, HO⟩ := hrel
      by_cases hlt : s < r
      · have hltz : (s : Int) < (r : Int) := by omega
        obtain ⟨c, hh1, hh2⟩ : ∃ q : Nat, q * 2 ≤ s + r ∧ s + r ≤ q * 2 + 1 := ⟨(s + r) / 2, by omega, by omega⟩
        have eh1 : IntKind.i64.wrap ((s : Int) + (r : Int)) = (s : Int) + (r : Int) := by rw [IntKind.wrap_i64]; omega
        have eh2 : ((s : Int) + (r : Int)) / 2 = (c : Int) := by omega
        cases hlv : (ltOf cf) d[mid + m - 1 - c]! d[c]! with
        | true =>
          have hk : key d[mid + m - 1 - c]! < key d[c]! := of_decide_eq_true ((XX.out c (mid + m - 1 - c) (by omega) (by omega) (by omega) (by omega)).symm.trans hlv)
          have HK := Lib.hid hk
          clear hk
          go_wp2_with fail
          clear eh1 eh2
          obtain ⟨iN4, hiN4⟩ : ∃ q, q = mid + m - 1 - c := ⟨_, rfl⟩
          obtain ⟨jN4, hjN4⟩ : ∃ q, q = c := ⟨_, rfl⟩
          have ea4 : ((mid : Int) + (m : Int) - 1 - (c : Int)).toNat = iN4 := by omega
          have pa4 : (0 : Int) ≤ (mid : Int) + (m : Int) - 1 - (c : Int) := by omega
          have ba4 : (mid : Int) + (m : Int) - 1 - (c : Int) < (d.size : Int) := by omega
          have ra4 : IntKind.i64.wrap ((mid : Int) + (m : Int) - 1 - (c : Int)) = (mid : Int) + (m : Int) - 1 - (c : Int) := by rw [IntKind.wrap_i64]; omega
          have ec4 : ((c : Int)).toNat = jN4 := by omega
          have pc4 : (0 : Int) ≤ (c : Int) := by omega
          have bc4 : (c : Int) < (d.size : Int) := by omega
          have rc4 : IntKind.i64.wrap ((c : Int)) = (c : Int) := by rw [IntKind.wrap_i64]; omega
          have px4 : (c : Int) ≤ (mid : Int) + (m : Int) - 1 := by omega
          have ex4 : ((mid : Int) + (m : Int)).toNat - 1 - c = iN4 := by omega
          have ey4 : mid + m - 1 - c = iN4 := by omega
          obtain ⟨x4, hx4⟩ : ∃ x, x = d[mid + m - 1 - c]! := ⟨_, rfl⟩
          obtain ⟨y4, hy4⟩ : ∃ x, x = d[c]! := ⟨_, rfl⟩
          have l4a := S1.out.cl R (by omega) (mid + m - 1 - c) (by omega)
          have l4b := S1.out.cl R (by omega) (c) (by omega)
          rw [← hx4, ← hiN4] at l4a
          rw [← hy4, ← hjN4] at l4b
          have hc4 := S1.out.cmp HC.out (by omega) x4 y4
          have hv4 : cf x4 y4 < 0 := by rw [hx4, hy4]; exact of_decide_eq_true hlv
          have hd4 : decide (cf x4 y4 < 0) = true := decide_eq_true hv4
          clear hx4 hy4 hiN4 hjN4
          go_wp2_with fail
          go_quiet_grown (first | (go_at_fn g; refine Calls.grown_of (hc4 _ _)))
          have S2 : Aside (SW enc w0 blk off d (grow (wr.drewN nq) osq)) := S1.out.grown nq osq
          clear l4a l4b hc4 S1
          generalize grow (wr.drewN nq) osq = w2 at S2 ⊢
          clear nq osq
          clear ea4 ec4 ex4 ey4
          have HL := Lib.hid hlv
          clear hlv
          go_wp2
          go_roundg (c - s)
          case measure => omega
          case rel => exact ⟨s, c, rfl, rfl, by omega, by omega, by omega, by omega, S2, ⟨HO.out.1, fun t t1 t2 => by
              have k1 := U1.out c t (by omega) (by omega) (by omega)
              have k2 := U2.out (mid + m - 1 - t) (mid + m - 1 - c) (by omega) (by omega) (by omega)
              have k3 := HK.out
              omega⟩⟩
        | false =>
          have hk : key d[c]! ≤ key d[mid + m - 1 - c]! := Int.not_lt.1 (of_decide_eq_false ((XX.out c (mid + m - 1 - c) (by omega) (by omega) (by omega) (by omega)).symm.trans hlv))
          have HK := Lib.hid hk
          clear hk
          go_wp2_with fail
          clear eh1 eh2
          obtain ⟨iN5, hiN5⟩ : ∃ q, q = mid + m - 1 - c := ⟨_, rfl⟩
          obtain ⟨jN5, hjN5⟩ : ∃ q, q = c := ⟨_, rfl⟩
          have ea5 : ((mid : Int) + (m : Int) - 1 - (c : Int)).toNat = iN5 := by omega
          have pa5 : (0 : Int) ≤ (mid : Int) + (m : Int) - 1 - (c : Int) := by omega
          have ba5 : (mid : Int) + (m : Int) - 1 - (c : Int) < (d.size : Int) := by omega
          have ra5 : IntKind.i64.wrap ((mid : Int) + (m : Int) - 1 - (c : Int)) = (mid : Int) + (m : Int) - 1 - (c : Int) := by rw [IntKind.wrap_i64]; omega
          have ec5 : ((c : Int)).toNat = jN5 := by omega
          have pc5 : (0 : Int) ≤ (c : Int) := by omega
          have bc5 : (c : Int) < (d.size : Int) := by omega
          have rc5 : IntKind.i64.wrap ((c : Int)) = (c : Int) := by rw [IntKind.wrap_i64]; omega
          have px5 : (c : Int) ≤ (mid : Int) + (m : Int) - 1 := by omega
          have ex5 : ((mid : Int) + (m : Int)).toNat - 1 - c = iN5 := by omega
          have ey5 : mid + m - 1 - c = iN5 := by omega
          obtain ⟨x5, hx5⟩ : ∃ x, x = d[mid + m - 1 - c]! := ⟨_, rfl⟩
          obtain ⟨y5, hy5⟩ : ∃ x, x = d[c]! := ⟨_, rfl⟩
          have l5a := S1.out.cl R (by omega) (mid + m - 1 - c) (by omega)
          have l5b := S1.out.cl R (by omega) (c) (by omega)
          rw [← hx5, ← hiN5] at l5a
          rw [← hy5, ← hjN5] at l5b
          have hc5 := S1.out.cmp HC.out (by omega) x5 y5
          have hv5 : ¬ cf x5 y5 < 0 := by rw [hx5, hy5]; exact of_decide_eq_false hlv
          have hd5 : decide (cf x5 y5 < 0) = false := decide_eq_false hv5
          clear hx5 hy5 hiN5 hjN5
          go_wp2_with fail
          go_quiet_grown (first | (go_at_fn g; refine Calls.grown_of (hc5 _ _)))
          have S2 : Aside (SW enc w0 blk off d (grow (wr.drewN nq) osq)) := S1.out.grown nq osq
          clear l5a l5b hc5 S1
          generalize grow (wr.drewN nq) osq = w2 at S2 ⊢
          clear nq osq
          clear ea5 ec5 ex5 ey5
          have HL := Lib.hid hlv
          clear hlv
          go_wp2
          go_roundg (r - (c + 1))
          case measure => omega
          case rel => exact ⟨c + 1, r, by go_num, rfl, by omega, by omega, by omega, by omega, S2, ⟨fun t t1 t2 => by
              have k1 := U1.out t c (by omega) (by omega) (by omega)
              have k2 := U2.out (mid + m - 1 - c) (mid + m - 1 - t) (by omega) (by omega) (by omega)
              have k3 := HK.out
              omega, HO.out.2⟩⟩
      · have hltz : ¬ (s : Int) < (r : Int) := by omega
        obtain ⟨e, he⟩ : ∃ q, q = mid + m - s := ⟨_, rfl⟩
        have F : Hid (Found key d a m b s mid e) := by
          have hsr' : s = r := by omega
          subst hsr'
          refine ⟨by omega, he, by omega, by omega, by omega, by omega, by omega, by omega, fun p1 p2 => ?_, fun p1 p2 => ?_⟩
          · have p3 : lo < s := by have := Q6.out; omega
            have p4 := HO.out.1 (s - 1) (by omega) (by omega)
            rw [show mid + m - 1 - (s - 1) = e by omega] at p4
            exact p4
          · have p3 : s < hi := by have := Q7.out; omega
            have p4 := HO.out.2 s (by omega) p3
            rw [show mid + m - 1 - s = e - 1 by omega] at p4
            exact p4
        have e1 : e + s ≤ mid + m := by omega
        have e2 : mid + m ≤ e + s := by omega
        have e3 : a ≤ s := by omega
        have e4 : s ≤ m := by omega
        have e5 : s ≤ mid := by omega
        have e6 : e ≤ b := by omega
        clear HO hsr hrh hg1 hls he hlt
        by_cases hA : s < m
        · have hAz : decide ((s : Int) < (m : Int)) = true := decide_eq_true (by omega)
          have hAy : decide ((mid : Int) < (mid : Int) + (m : Int) - (s : Int)) = true := decide_eq_true (by omega)
          have hAx : (s : Int) < (m : Int) := by omega
          have hAw : (mid : Int) < (mid : Int) + (m : Int) - (s : Int) := by omega
          by_cases hB : s < mid
          · have hBz : decide ((m : Int) < (mid : Int) + (m : Int) - (s : Int)) = true := decide_eq_true (by omega)
            have hBy : decide ((s : Int) < (mid : Int)) = true := decide_eq_true (by omega)
            have hBx : (m : Int) < (mid : Int) + (m : Int) - (s : Int) := by omega
            have hBw : (s : Int) < (mid : Int) := by omega
            by_cases hC : a < s
            · have hCz : decide ((a : Int) < (s : Int)) = true := decide_eq_true (by omega)
              have hCx : (a : Int) < (s : Int) := by omega
              by_cases hD : e < b
              · have hDz : decide ((mid : Int) + (m : Int) - (s : Int) < (b : Int)) = true := decide_eq_true (by omega)
                have hDx : (mid : Int) + (m : Int) - (s : Int) < (b : Int) := by omega
                go_wp2_with fail
                refine (rotate_any enc (.func (.func g) #[] cb) blk off cap s m e _ _ _ d0 d w0 wr R hs S1.out (by omega) (by omega) (by omega) (by omega) (by omega) (by omega) hsz).mono ?_
                rintro e1 w1 ⟨rfl, d1, Sx, hrot, hrp⟩
                have S2 : Aside _ := Sx
                have HR := Lib.hid hrot
                have HRP := Lib.hid (permIn_mono _ _ _ _ a b (by omega) (by omega) (by omega) hrp)
                clear Sx hrot hrp S1
                have HH := Lib.hid (found_halves (lt := ltOf cf) F.out HR.out U1.out U2.out XX.out)
                have z1 : d1.size ≤ d.size := by have := HR.out.1; omega
                have z2 : d.size ≤ d1.size := by have := HR.out.1; omega
                go_wp2_with fail
                refine (IH.out a s mid _ _ _ d1 _ (by omega) HR.out.1 (by exact S2.out) rfl (by omega) rfl (by omega) (by omega) (by omega) HH.out.1 HH.out.2.1 HH.out.2.2.2.2.1).mono ?_
                rintro e1 w2 ⟨rfl, d2, Sx, hm1⟩
                have S3 : Aside _ := Sx
                have HM1 := Lib.hid hm1
                clear Sx hm1 S2
                have z3 : d2.size ≤ d.size := by have := HM1.out.1.1; omega
                have z4 : d.size ≤ d2.size := by have := HM1.out.1.1; omega
                have HQ : Hid (Up key d2 mid e ∧ Up key d2 e b ∧ Crs (ltOf cf) key d2 mid e b) := ⟨up_same HH.out.2.2.1 (fun t t1 _ => HM1.out.1.2.1 t (.inr t1)), up_same HH.out.2.2.2.1 (fun t t1 _ => HM1.out.1.2.1 t (.inr (by omega))), crs_same HH.out.2.2.2.2.2.1 (fun t t1 _ => HM1.out.1.2.1 t (.inr t1))⟩
                go_wp2_with fail
                refine (IH.out mid e b _ _ _ d2 _ (by omega) (by omega) (by exact S3.out) rfl (by omega) rfl (by omega) (by omega) (by omega) HQ.out.1 HQ.out.2.1 HQ.out.2.2).mono ?_
                rintro e1 w3 ⟨rfl, d3, Sx, hm2⟩
                have S4 : Aside _ := Sx
                have HM2 := Lib.hid hm2
                clear Sx hm2 S3
                go_wp2
                go_end0
                exact ⟨rfl, d3, S4.out, permIn_trans _ _ _ _ _ HRP.out (permIn_trans _ _ _ _ _ (permIn_mono _ _ _ _ _ _ (by omega) (by omega) (by omega) HM1.out.1) (permIn_mono _ _ _ _ _ _ (by omega) (by omega) (by omega) HM2.out.1)), halves_up (by omega) HM1.out HM2.out HH.out.2.2.2.2.2.2⟩

              · have hDz : decide ((mid : Int) + (m : Int) - (s : Int) < (b : Int)) = false := decide_eq_false (by omega)
                have hDx : ¬ (mid : Int) + (m : Int) - (s : Int) < (b : Int) := by omega
                go_wp2_with fail
                refine (rotate_any enc (.func (.func g) #[] cb) blk off cap s m e _ _ _ d0 d w0 wr R hs S1.out (by omega) (by omega) (by omega) (by omega) (by omega) (by omega) hsz).mono ?_
                rintro e1 w1 ⟨rfl, d1, Sx, hrot, hrp⟩
                have S2 : Aside _ := Sx
                have HR := Lib.hid hrot
                have HRP := Lib.hid (permIn_mono _ _ _ _ a b (by omega) (by omega) (by omega) hrp)
                clear Sx hrot hrp S1
                have HH := Lib.hid (found_halves (lt := ltOf cf) F.out HR.out U1.out U2.out XX.out)
                have z1 : d1.size ≤ d.size := by have := HR.out.1; omega
                have z2 : d.size ≤ d1.size := by have := HR.out.1; omega
                go_wp2_with fail
                refine (IH.out a s mid _ _ _ d1 _ (by omega) HR.out.1 (by exact S2.out) rfl (by omega) rfl (by omega) (by omega) (by omega) HH.out.1 HH.out.2.1 HH.out.2.2.2.2.1).mono ?_
                rintro e1 w2 ⟨rfl, d2, Sx, hm1⟩
                have S3 : Aside _ := Sx
                have HM1 := Lib.hid hm1
                clear Sx hm1 S2
                have z3 : d2.size ≤ d.size := by have := HM1.out.1.1; omega
                have z4 : d.size ≤ d2.size := by have := HM1.out.1.1; omega
                have HQ : Hid (Up key d2 mid e ∧ Up key d2 e b ∧ Crs (ltOf cf) key d2 mid e b) := ⟨up_same HH.out.2.2.1 (fun t t1 _ => HM1.out.1.2.1 t (.inr t1)), up_same HH.out.2.2.2.1 (fun t t1 _ => HM1.out.1.2.1 t (.inr (by omega))), crs_same HH.out.2.2.2.2.2.1 (fun t t1 _ => HM1.out.1.2.1 t (.inr t1))⟩
                obtain ⟨d3, hd3⟩ : ∃ q, q = d2 := ⟨_, rfl⟩
                have HM2 : Hid (Mgd key d2 d3 mid b) := by rw [hd3]; exact ⟨permIn_refl d2 _ _, up_one (by omega) HQ.out.1 HQ.out.2.1⟩
                have S4 : Aside _ := S3
                rw [← hd3] at S4
                clear S3 hd3
                go_wp2
                go_end0
                exact ⟨rfl, d3, S4.out, permIn_trans _ _ _ _ _ HRP.out (permIn_trans _ _ _ _ _ (permIn_mono _ _ _ _ _ _ (by omega) (by omega) (by omega) HM1.out.1) (permIn_mono _ _ _ _ _ _ (by omega) (by omega) (by omega) HM2.out.1)), halves_up (by omega) HM1.out HM2.out HH.out.2.2.2.2.2.2⟩

            · have hCz : decide ((a : Int) < (s : Int)) = false := decide_eq_false (by omega)
              have hCx : ¬ (a : Int) < (s : Int) := by omega
              by_cases hD : e < b
              · have hDz : decide ((mid : Int) + (m : Int) - (s : Int) < (b : Int)) = true := decide_eq_true (by omega)
                have hDx : (mid : Int) + (m : Int) - (s : Int) < (b : Int) := by omega
                go_wp2_with fail
                refine (rotate_any enc (.func (.func g) #[] cb) blk off cap s m e _ _ _ d0 d w0 wr R hs S1.out (by omega) (by omega) (by omega) (by omega) (by omega) (by omega) hsz).mono ?_
                rintro e1 w1 ⟨rfl, d1, Sx, hrot, hrp⟩
                have S2 : Aside _ := Sx
                have HR := Lib.hid hrot
                have HRP := Lib.hid (permIn_mono _ _ _ _ a b (by omega) (by omega) (by omega) hrp)
                clear Sx hrot hrp S1
                have HH := Lib.hid (found_halves (lt := ltOf cf) F.out HR.out U1.out U2.out XX.out)
                have z1 : d1.size ≤ d.size := by have := HR.out.1; omega
                have z2 : d.size ≤ d1.size := by have := HR.out.1; omega
                obtain ⟨d2, hd2⟩ : ∃ q, q = d1 := ⟨_, rfl⟩
                have HM1 : Hid (Mgd key d1 d2 a mid) := by rw [hd2]; exact ⟨permIn_refl d1 _ _, up_one (by omega) HH.out.1 HH.out.2.1⟩
                have S3 : Aside _ := S2
                rw [← hd2] at S3
                clear S2 hd2
                have z3 : d2.size ≤ d.size := by have := HM1.out.1.1; omega
                have z4 : d.size ≤ d2.size := by have := HM1.out.1.1; omega
                have HQ : Hid (Up key d2 mid e ∧ Up key d2 e b ∧ Crs (ltOf cf) key d2 mid e b) := ⟨up_same HH.out.2.2.1 (fun t t1 _ => HM1.out.1.2.1 t (.inr t1)), up_same HH.out.2.2.2.1 (fun t t1 _ => HM1.out.1.2.1 t (.inr (by omega))), crs_same HH.out.2.2.2.2.2.1 (fun t t1 _ => HM1.out.1.2.1 t (.inr t1))⟩
                go_wp2_with fail
                refine (IH.out mid e b _ _ _ d2 _ (by omega) (by omega) (by exact S3.out) rfl (by omega) rfl (by omega) (by omega) (by omega) HQ.out.1 HQ.out.2.1 HQ.out.2.2).mono ?_
                rintro e1 w3 ⟨rfl, d3, Sx, hm2⟩
                have S4 : Aside _ := Sx
                have HM2 := Lib.hid hm2
                clear Sx hm2 S3
                go_wp2
                go_end0
                exact ⟨rfl, d3, S4.out, permIn_trans _ _ _ _ _ HRP.out (permIn_trans _ _ _ _ _ (permIn_mono _ _ _ _ _ _ (by omega) (by omega) (by omega) HM1.out.1) (permIn_mono _ _ _ _ _ _ (by omega) (by omega) (by omega) HM2.out.1)), halves_up (by omega) HM1.out HM2.out HH.out.2.2.2.2.2.2⟩

              · have hDz : decide ((mid : Int) + (m : Int) - (s : Int) < (b : Int)) = false := decide_eq_false (by omega)
                have hDx : ¬ (mid : Int) + (m : Int) - (s : Int) < (b : Int) := by omega
                go_wp2_with fail
                refine (rotate_any enc (.func (.func g) #[] cb) blk off cap s m e _ _ _ d0 d w0 wr R hs S1.out (by omega) (by omega) (by omega) (by omega) (by omega) (by omega) hsz).mono ?_
                rintro e1 w1 ⟨rfl, d1, Sx, hrot, hrp⟩
                have S2 : Aside _ := Sx
                have HR := Lib.hid hrot
                have HRP := Lib.hid (permIn_mono _ _ _ _ a b (by omega) (by omega) (by omega) hrp)
                clear Sx hrot hrp S1
                have HH := Lib.hid (found_halves (lt := ltOf cf) F.out HR.out U1.out U2.out XX.out)
                have z1 : d1.size ≤ d.size := by have := HR.out.1; omega
                have z2 : d.size ≤ d1.size := by have := HR.out.1; omega
                obtain ⟨d2, hd2⟩ : ∃ q, q = d1 := ⟨_, rfl⟩
                have HM1 : Hid (Mgd key d1 d2 a mid) := by rw [hd2]; exact ⟨permIn_refl d1 _ _, up_one (by omega) HH.out.1 HH.out.2.1⟩
                have S3 : Aside _ := S2
                rw [← hd2] at S3
                clear S2 hd2
                have z3 : d2.size ≤ d.size := by have := HM1.out.1.1; omega
                have z4 : d.size ≤ d2.size := by have := HM1.out.1.1; omega
                have HQ : Hid (Up key d2 mid e ∧ Up key d2 e b ∧ Crs (ltOf cf) key d2 mid e b) := ⟨up_same HH.out.2.2.1 (fun t t1 _ => HM1.out.1.2.1 t (.inr t1)), up_same HH.out.2.2.2.1 (fun t t1 _ => HM1.out.1.2.1 t (.inr (by omega))), crs_same HH.out.2.2.2.2.2.1 (fun t t1 _ => HM1.out.1.2.1 t (.inr t1))⟩
                obtain ⟨d3, hd3⟩ : ∃ q, q = d2 := ⟨_, rfl⟩
                have HM2 : Hid (Mgd key d2 d3 mid b) := by rw [hd3]; exact ⟨permIn_refl d2 _ _, up_one (by omega) HQ.out.1 HQ.out.2.1⟩
                have S4 : Aside _ := S3
                rw [← hd3] at S4
                clear S3 hd3
                go_wp2
                go_end0
                exact ⟨rfl, d3, S4.out, permIn_trans _ _ _ _ _ HRP.out (permIn_trans _ _ _ _ _ (permIn_mono _ _ _ _ _ _ (by omega) (by omega) (by omega) HM1.out.1) (permIn_mono _ _ _ _ _ _ (by omega) (by omega) (by omega) HM2.out.1)), halves_up (by omega) HM1.out HM2.out HH.out.2.2.2.2.2.2⟩

          · have hBz : decide ((m : Int) < (mid : Int) + (m : Int) - (s : Int)) = false := decide_eq_false (by omega)
            have hBy : decide ((s : Int) < (mid : Int)) = false := decide_eq_false (by omega)
            have hBx : ¬ (m : Int) < (mid : Int) + (m : Int) - (s : Int) := by omega
            have hBw : ¬ (s : Int) < (mid : Int) := by omega
            have hCz : decide ((a : Int) < (s : Int)) = true := decide_eq_true (by omega)
            have hCx : (a : Int) < (s : Int) := by omega
            by_cases hD : e < b
            · have hDz : decide ((mid : Int) + (m : Int) - (s : Int) < (b : Int)) = true := decide_eq_true (by omega)
              have hDx : (mid : Int) + (m : Int) - (s : Int) < (b : Int) := by omega
              obtain ⟨d1, hd1⟩ : ∃ q, q = d := ⟨_, rfl⟩
              have HR : Hid (Rot d d1 s m e) := by rw [hd1]; exact rot_at_right d s m e (by omega)
              have HRP : Hid (PermIn a b d d1) := by rw [hd1]; exact permIn_refl d _ _
              have S2 : Aside (SW enc w0 blk off d1 wr) := by rw [hd1]; exact S1
              clear S1 hd1
              have HH := Lib.hid (found_halves (lt := ltOf cf) F.out HR.out U1.out U2.out XX.out)
              have z1 : d1.size ≤ d.size := by have := HR.out.1; omega
              have z2 : d.size ≤ d1.size := by have := HR.out.1; omega
              obtain ⟨d2, hd2⟩ : ∃ q, q = d1 := ⟨_, rfl⟩
              have HM1 : Hid (Mgd key d1 d2 a mid) := by rw [hd2]; exact ⟨permIn_refl d1 _ _, up_one (by omega) HH.out.1 HH.out.2.1⟩
              have S3 : Aside _ := S2
              rw [← hd2] at S3
              clear S2 hd2
              have z3 : d2.size ≤ d.size := by have := HM1.out.1.1; omega
              have z4 : d.size ≤ d2.size := by have := HM1.out.1.1; omega
              have HQ : Hid (Up key d2 mid e ∧ Up key d2 e b ∧ Crs (ltOf cf) key d2 mid e b) := ⟨up_same HH.out.2.2.1 (fun t t1 _ => HM1.out.1.2.1 t (.inr t1)), up_same HH.out.2.2.2.1 (fun t t1 _ => HM1.out.1.2.1 t (.inr (by omega))), crs_same HH.out.2.2.2.2.2.1 (fun t t1 _ => HM1.out.1.2.1 t (.inr t1))⟩
              go_wp2_with fail
              refine (IH.out mid e b _ _ _ d2 _ (by omega) (by omega) (by exact S3.out) rfl (by omega) rfl (by omega) (by omega) (by omega) HQ.out.1 HQ.out.2.1 HQ.out.2.2).mono ?_
              rintro e1 w3 ⟨rfl, d3, Sx, hm2⟩
              have S4 : Aside _ := Sx
              have HM2 := Lib.hid hm2
              clear Sx hm2 S3
              go_wp2
              go_end0
              exact ⟨rfl, d3, S4.out, permIn_trans _ _ _ _ _ HRP.out (permIn_trans _ _ _ _ _ (permIn_mono _ _ _ _ _ _ (by omega) (by omega) (by omega) HM1.out.1) (permIn_mono _ _ _ _ _ _ (by omega) (by omega) (by omega) HM2.out.1)), halves_up (by omega) HM1.out HM2.out HH.out.2.2.2.2.2.2⟩

            · have hDz : decide ((mid : Int) + (m : Int) - (s : Int) < (b : Int)) = false := decide_eq_false (by omega)
              have hDx : ¬ (mid : Int) + (m : Int) - (s : Int) < (b : Int) := by omega
              obtain ⟨d1, hd1⟩ : ∃ q, q = d := ⟨_, rfl⟩
              have HR : Hid (Rot d d1 s m e) := by rw [hd1]; exact rot_at_right d s m e (by omega)
              have HRP : Hid (PermIn a b d d1) := by rw [hd1]; exact permIn_refl d _ _
              have S2 : Aside (SW enc w0 blk off d1 wr) := by rw [hd1]; exact S1
              clear S1 hd1
              have HH := Lib.hid (found_halves (lt := ltOf cf) F.out HR.out U1.out U2.out XX.out)
              have z1 : d1.size ≤ d.size := by have := HR.out.1; omega
              have z2 : d.size ≤ d1.size := by have := HR.out.1; omega
              obtain ⟨d2, hd2⟩ : ∃ q, q = d1 := ⟨_, rfl⟩
              have HM1 : Hid (Mgd key d1 d2 a mid) := by rw [hd2]; exact ⟨permIn_refl d1 _ _, up_one (by omega) HH.out.1 HH.out.2.1⟩
              have S3 : Aside _ := S2
              rw [← hd2] at S3
              clear S2 hd2
              have z3 : d2.size ≤ d.size := by have := HM1.out.1.1; omega
              have z4 : d.size ≤ d2.size := by have := HM1.out.1.1; omega
              have HQ : Hid (Up key d2 mid e ∧ Up key d2 e b ∧ Crs (ltOf cf) key d2 mid e b) := ⟨up_same HH.out.2.2.1 (fun t t1 _ => HM1.out.1.2.1 t (.inr t1)), up_same HH.out.2.2.2.1 (fun t t1 _ => HM1.out.1.2.1 t (.inr (by omega))), crs_same HH.out.2.2.2.2.2.1 (fun t t1 _ => HM1.out.1.2.1 t (.inr t1))⟩
              obtain ⟨d3, hd3⟩ : ∃ q, q = d2 := ⟨_, rfl⟩
              have HM2 : Hid (Mgd key d2 d3 mid b) := by rw [hd3]; exact ⟨permIn_refl d2 _ _, up_one (by omega) HQ.out.1 HQ.out.2.1⟩
              have S4 : Aside _ := S3
              rw [← hd3] at S4
              clear S3 hd3
              go_wp2
              go_end0
              exact ⟨rfl, d3, S4.out, permIn_trans _ _ _ _ _ HRP.out (permIn_trans _ _ _ _ _ (permIn_mono _ _ _ _ _ _ (by omega) (by omega) (by omega) HM1.out.1) (permIn_mono _ _ _ _ _ _ (by omega) (by omega) (by omega) HM2.out.1)), halves_up (by omega) HM1.out HM2.out HH.out.2.2.2.2.2.2⟩

        · have hAz : decide ((s : Int) < (m : Int)) = false := decide_eq_false (by omega)
          have hAy : decide ((mid : Int) < (mid : Int) + (m : Int) - (s : Int)) = false := decide_eq_false (by omega)
          have hAx : ¬ (s : Int) < (m : Int) := by omega
          have hAw : ¬ (mid : Int) < (mid : Int) + (m : Int) - (s : Int) := by omega
          have hCz : decide ((a : Int) < (s : Int)) = true := decide_eq_true (by omega)
          have hCx : (a : Int) < (s : Int) := by omega
          by_cases hB : s < mid
          · have hBy : decide ((s : Int) < (mid : Int)) = true := decide_eq_true (by omega)
            have hBw : (s : Int) < (mid : Int) := by omega
            obtain ⟨d1, hd1⟩ : ∃ q, q = d := ⟨_, rfl⟩
            have HR : Hid (Rot d d1 s m e) := by rw [hd1]; exact rot_at_left d s m e (by omega)
            have HRP : Hid (PermIn a b d d1) := by rw [hd1]; exact permIn_refl d _ _
            have S2 : Aside (SW enc w0 blk off d1 wr) := by rw [hd1]; exact S1
            clear S1 hd1
            have HH := Lib.hid (found_halves (lt := ltOf cf) F.out HR.out U1.out U2.out XX.out)
            have z1 : d1.size ≤ d.size := by have := HR.out.1; omega
            have z2 : d.size ≤ d1.size := by have := HR.out.1; omega
            go_wp2_with fail
            refine (IH.out a s mid _ _ _ d1 _ (by omega) HR.out.1 (by exact S2.out) rfl (by omega) rfl (by omega) (by omega) (by omega) HH.out.1 HH.out.2.1 HH.out.2.2.2.2.1).mono ?_
            rintro e1 w2 ⟨rfl, d2, Sx, hm1⟩
            have S3 : Aside _ := Sx
            have HM1 := Lib.hid hm1
            clear Sx hm1 S2
            have z3 : d2.size ≤ d.size := by have := HM1.out.1.1; omega
            have z4 : d.size ≤ d2.size := by have := HM1.out.1.1; omega
            have HQ : Hid (Up key d2 mid e ∧ Up key d2 e b ∧ Crs (ltOf cf) key d2 mid e b) := ⟨up_same HH.out.2.2.1 (fun t t1 _ => HM1.out.1.2.1 t (.inr t1)), up_same HH.out.2.2.2.1 (fun t t1 _ => HM1.out.1.2.1 t (.inr (by omega))), crs_same HH.out.2.2.2.2.2.1 (fun t t1 _ => HM1.out.1.2.1 t (.inr t1))⟩
            obtain ⟨d3, hd3⟩ : ∃ q, q = d2 := ⟨_, rfl⟩
            have HM2 : Hid (Mgd key d2 d3 mid b) := by rw [hd3]; exact ⟨permIn_refl d2 _ _, up_one (by omega) HQ.out.1 HQ.out.2.1⟩
            have S4 : Aside _ := S3
            rw [← hd3] at S4
            clear S3 hd3
            go_wp2
            go_end0
            exact ⟨rfl, d3, S4.out, permIn_trans _ _ _ _ _ HRP.out (permIn_trans _ _ _ _ _ (permIn_mono _ _ _ _ _ _ (by omega) (by omega) (by omega) HM1.out.1) (permIn_mono _ _ _ _ _ _ (by omega) (by omega) (by omega) HM2.out.1)), halves_up (by omega) HM1.out HM2.out HH.out.2.2.2.2.2.2⟩

          · have hBy : decide ((s : Int) < (mid : Int)) = false := decide_eq_false (by omega)
            have hBw : ¬ (s : Int) < (mid : Int) := by omega
            obtain ⟨d1, hd1⟩ : ∃ q, q = d := ⟨_, rfl⟩
            have HR : Hid (Rot d d1 s m e) := by rw [hd1]; exact rot_at_left d s m e (by omega)
            have HRP : Hid (PermIn a b d d1) := by rw [hd1]; exact permIn_refl d _ _
            have S2 : Aside (SW enc w0 blk off d1 wr) := by rw [hd1]; exact S1
            clear S1 hd1
            have HH := Lib.hid (found_halves (lt := ltOf cf) F.out HR.out U1.out U2.out XX.out)
            have z1 : d1.size ≤ d.size := by have := HR.out.1; omega
            have z2 : d.size ≤ d1.size := by have := HR.out.1; omega
            obtain ⟨d2, hd2⟩ : ∃ q, q = d1 := ⟨_, rfl⟩
            have HM1 : Hid (Mgd key d1 d2 a mid) := by rw [hd2]; exact ⟨permIn_refl d1 _ _, up_one (by omega) HH.out.1 HH.out.2.1⟩
            have S3 : Aside _ := S2
            rw [← hd2] at S3
            clear S2 hd2
            have z3 : d2.size ≤ d.size := by have := HM1.out.1.1; omega
            have z4 : d.size ≤ d2.size := by have := HM1.out.1.1; omega
            have HQ : Hid (Up key d2 mid e ∧ Up key d2 e b ∧ Crs (ltOf cf) key d2 mid e b) := ⟨up_same HH.out.2.2.1 (fun t t1 _ => HM1.out.1.2.1 t (.inr t1)), up_same HH.out.2.2.2.1 (fun t t1 _ => HM1.out.1.2.1 t (.inr (by omega))), crs_same HH.out.2.2.2.2.2.1 (fun t t1 _ => HM1.out.1.2.1 t (.inr t1))⟩
            obtain ⟨d3, hd3⟩ : ∃ q, q = d2 := ⟨_, rfl⟩
            have HM2 : Hid (Mgd key d2 d3 mid b) := by rw [hd3]; exact ⟨permIn_refl d2 _ _, up_one (by omega) HQ.out.1 HQ.out.2.1⟩
            have S4 : Aside _ := S3
            rw [← hd3] at S4
            clear S3 hd3
            go_wp2
            go_end0
            exact ⟨rfl, d3, S4.out, permIn_trans _ _ _ _ _ HRP.out (permIn_trans _ _ _ _ _ (permIn_mono _ _ _ _ _ _ (by omega) (by omega) (by omega) HM1.out.1) (permIn_mono _ _ _ _ _ _ (by omega) (by omega) (by omega) HM2.out.1)), halves_up (by omega) HM1.out HM2.out HH.out.2.2.2.2.2.2⟩
  · have hmz : ¬ (mid : Int) < (m : Int) := by omega
    go_enter Try.func34, Try.ntmps34
    go_wp2
    clear eh1 eh2
    obtain ⟨lo, hlo⟩ : ∃ q : Nat, q = a := ⟨_, rfl⟩
    obtain ⟨hi, hhi⟩ : ∃ q : Nat, q = m := ⟨_, rfl⟩
    have q1 : a ≤ lo := by omega
    have q2 : hi ≤ m := by omega
    have q3 : hi ≤ mid := by omega
    have q4 : lo ≤ hi := by omega
    have q5 : mid + m ≤ b + lo := by omega
    have q6 : lo = a ∨ mid + m = b + lo := by omega
    have q7 : hi = m ∨ hi = mid := by omega
    have Q6 := Lib.hid q6
    have Q7 := Lib.hid q7
    have HLO := Lib.hid hlo
    have HHI := Lib.hid hhi
    clear q6 q7 hlo hhi
    go_loopg [20, 21] (hi - lo) (fun g1 vs vr wr => ∃ (s r : Nat), vs = .int .i64 s ∧ vr = .int .i64 r ∧ lo ≤ s ∧ s ≤ r ∧ r ≤ hi ∧ r - s ≤ g1 ∧ Aside (SW enc w0 blk off d wr) ∧ Hid ((∀ t, lo ≤ t → t < s → key d[t]! ≤ key d[mid + m - 1 - t]!) ∧ (∀ t, r ≤ t → t < hi → key d[mid + m - 1 - t]! ≤ key d[t]!)))
    case atStart => exact ⟨lo, hi, by have := HLO.out; first | (subst this; rfl) | (congr 1; omega), by have := HHI.out; first | (subst this; rfl) | (congr 1; omega), by omega, by omega, by omega, by omega, S0, ⟨fun t _ _ => by omega, fun t _ _ => by omega⟩⟩
    case round =>
      clear S0
      obtain ⟨s, r, rfl, rfl, hls, hsr, hrh, hg1, S1, HO⟩ := hrel
      by_cases hlt : s < r
      · have hltz : (s : Int) < (r : Int) := by omega
        obtain ⟨c, hh1, hh2⟩ : ∃ q : Nat, q * 2 ≤ s + r ∧ s + r ≤ q * 2 + 1 := ⟨(s + r) / 2, by omega, by omega⟩
        have eh1 : IntKind.i64.wrap ((s : Int) + (r : Int)) = (s : Int) + (r : Int) := by rw [IntKind.wrap_i64]; omega
        have eh2 : ((s : Int) + (r : Int)) / 2 = (c : Int) := by omega
        cases hlv : (ltOf cf) d[mid + m - 1 - c]! d[c]! with
        | true =>
          have hk : key d[mid + m - 1 - c]! < key d[c]! := of_decide_eq_true ((XX.out c (mid + m - 1 - c) (by omega) (by omega) (by omega) (by omega)).symm.trans hlv)
          have HK := Lib.hid hk
          clear hk
          go_wp2_with fail
          clear eh1 eh2
          obtain ⟨iN6, hiN6⟩ : ∃ q, q = mid + m - 1 - c := ⟨_, rfl⟩
          obtain ⟨jN6, hjN6⟩ : ∃ q, q = c := ⟨_, rfl⟩
          have ea6 : ((mid : Int) + (m : Int) - 1 - (c : Int)).toNat = iN6 := by omega
          have pa6 : (0 : Int) ≤ (mid : Int) + (m : Int) - 1 - (c : Int) := by omega
          have ba6 : (mid : Int) + (m : Int) - 1 - (c : Int) < (d.size : Int) := by omega
          have ra6 : IntKind.i64.wrap ((mid : Int) + (m : Int) - 1 - (c : Int)) = (mid : Int) + (m : Int) - 1 - (c : Int) := by rw [IntKind.wrap_i64]; omega
          have ec6 : ((c : Int)).toNat = jN6 := by omega
          have pc6 : (0 : Int) ≤ (c : Int) := by omega
          have bc6 : (c : Int) < (d.size : Int) := by omega
          have rc6 : IntKind.i64.wrap ((c : Int)) = (c : Int) := by rw [IntKind.wrap_i64]; omega
          have px6 : (c : Int) ≤ (mid : Int) + (m : Int) - 1 := by omega
          have ex6 : ((mid : Int) + (m : Int)).toNat - 1 - c = iN6 := by omega
          have ey6 : mid + m - 1 - c = iN6 := by omega
          obtain ⟨x6, hx6⟩ : ∃ x, x = d[mid + m - 1 - c]! := ⟨_, rfl⟩
          obtain ⟨y6, hy6⟩ : ∃ x, x = d[c]! := ⟨_, rfl⟩
          have l6a := S1.out.cl R (by omega) (mid + m - 1 - c) (by omega)
          have l6b := S1.out.cl R (by omega) (c) (by omega)
          rw [← hx6, ← hiN6] at l6a
          rw [← hy6, ← hjN6] at l6b
          have hc6 := S1.out.cmp HC.out (by omega) x6 y6
          have hv6 : cf x6 y6 < 0 := by rw [hx6, hy6]; exact of_decide_eq_true hlv
          have hd6 : decide (cf x6 y6 < 0) = true := decide_eq_true hv6
          clear hx6 hy6 hiN6 hjN6
          go_wp2_with fail
          go_quiet_grown (first | (go_at_fn g; refine Calls.grown_of (hc6 _ _)))
          have S2 : Aside (SW enc w0 blk off d (grow (wr.drewN nq) osq)) := S1.out.grown nq osq
          clear l6a l6b hc6 S1
          generalize grow (wr.drewN nq) osq = w2 at S2 ⊢
          clear nq osq
          clear ea6 ec6 ex6 ey6
          have HL := Lib.hid hlv
          clear hlv
          go_wp2
          go_roundg (c - s)
          case measure => omega
          case rel => exact ⟨s, c, rfl, rfl, by omega, by omega, by omega, by omega, S2, ⟨HO.out.1, fun t t1 t2 => by
              have k1 := U1.out c t (by omega) (by omega) (by omega)
              have k2 := U2.out (mid + m - 1 - t) (mid + m - 1 - c) (by omega) (by omega) (by omega)
              have k3 := HK.out
              omega⟩⟩
        | false =>
          have hk : key d[c]! ≤ key d[mid + m - 1 - c]! := Int.not_lt.1 (of_decide_eq_false ((XX.out c (mid + m - 1 - c) (by omega) (by omega) (by omega) (by omega)).symm.trans hlv))
          have HK := Lib.hid hk
          clear hk
          go_wp2_with fail
          clear eh1 eh2
          obtain ⟨iN7, hiN7⟩ : ∃ q, q = mid + m - 1 - c := ⟨_, rfl⟩
          obtain ⟨jN7, hjN7⟩ : ∃ q, q = c := ⟨_, rfl⟩
          have ea7 : ((mid : Int) + (m : Int) - 1 - (c : Int)).toNat = iN7 := by omega
          have pa7 : (0 : Int) ≤ (mid : Int) + (m : Int) - 1 - (c : Int) := by omega
          have ba7 : (mid : Int) + (m : Int) - 1 - (c : Int) < (d.size : Int) := by omega
          have ra7 : IntKind.i64.wrap ((mid : Int) + (m : Int) - 1 - (c : Int)) = (mid : Int) + (m : Int) - 1 - (c : Int) := by rw [IntKind.wrap_i64]; omega
          have ec7 : ((c : Int)).toNat = jN7 := by omega
          have pc7 : (0 : Int) ≤ (c : Int) := by omega
          have bc7 : (c : Int) < (d.size : Int) := by omega
          have rc7 : IntKind.i64.wrap ((c : Int)) = (c : Int) := by rw [IntKind.wrap_i64]; omega
          have px7 : (c : Int) ≤ (mid : Int) + (m : Int) - 1 := by omega
          have ex7 : ((mid : Int) + (m : Int)).toNat - 1 - c = iN7 := by omega
          have ey7 : mid + m - 1 - c = iN7 := by omega
          obtain ⟨x7, hx7⟩ : ∃ x, x = d[mid + m - 1 - c]! := ⟨_, rfl⟩
          obtain ⟨y7, hy7⟩ : ∃ x, x = d[c]! := ⟨_, rfl⟩
          have l7a := S1.out.cl R (by omega) (mid + m - 1 - c) (by omega)
          have l7b := S1.out.cl R (by omega) (c) (by omega)
          rw [← hx7, ← hiN7] at l7a
          rw [← hy7, ← hjN7] at l7b
          have hc7 := S1.out.cmp HC.out (by omega) x7 y7
          have hv7 : ¬ cf x7 y7 < 0 := by rw [hx7, hy7]; exact of_decide_eq_false hlv
          have hd7 : decide (cf x7 y7 < 0) = false := decide_eq_false hv7
          clear hx7 hy7 hiN7 hjN7
          go_wp2_with fail
          go_quiet_grown (first | (go_at_fn g; refine Calls.grown_of (hc7 _ _)))
          have S2 : Aside (SW enc w0 blk off d (grow (wr.drewN nq) osq)) := S1.out.grown nq osq
          clear l7a l7b hc7 S1
          generalize grow (wr.drewN nq) osq = w2 at S2 ⊢
          clear nq osq
          clear ea7 ec7 ex7 ey7
          have HL := Lib.hid hlv
          clear hlv
          go_wp2
          go_roundg (r - (c + 1))
          case measure => omega
          case rel => exact ⟨c + 1, r, by go_num, rfl, by omega, by omega, by omega, by omega, S2, ⟨fun t t1 t2 => by
              have k1 := U1.out t c (by omega) (by omega) (by omega)
              have k2 := U2.out (mid + m - 1 - c) (mid + m - 1 - t) (by omega) (by omega) (by omega)
              have k3 := HK.out
              omega, HO.out.2⟩⟩
      · have hltz : ¬ (s : Int) < (r : Int) := by omega
        obtain ⟨e, he⟩ : ∃ q, q = mid + m - s := ⟨_, rfl⟩
        have F : Hid (Found key d a m b s mid e) := by
          have hsr' : s = r := by omega
          subst hsr'
          refine ⟨by omega, he, by omega, by omega, by omega, by omega, by omega, by omega, fun p1 p2 => ?_, fun p1 p2 => ?_⟩
          · have p3 : lo < s := by have := Q6.out; omega
            have p4 := HO.out.1 (s - 1) (by omega) (by omega)
            rw [show mid + m - 1 - (s - 1) = e by omega] at p4
            exact p4
          · have p3 : s < hi := by have := Q7.out; omega
            have p4 := HO.out.2 s (by omega) p3
            rw [show mid + m - 1 - s = e - 1 by omega] at p4
            exact p4
        have e1 : e + s ≤ mid + m := by omega
        have e2 : mid + m ≤ e + s := by omega
        have e3 : a ≤ s := by omega
        have e4 : s ≤ m := by omega
        have e5 : s ≤ mid := by omega
        have e6 : e ≤ b := by omega
        clear HO hsr hrh hg1 hls he hlt
        by_cases hA : s < m
        · have hAz : decide ((s : Int) < (m : Int)) = true := decide_eq_true (by omega)
          have hAy : decide ((mid : Int) < (mid : Int) + (m : Int) - (s : Int)) = true := decide_eq_true (by omega)
          have hAx : (s : Int) < (m : Int) := by omega
          have hAw : (mid : Int) < (mid : Int) + (m : Int) - (s : Int) := by omega
          by_cases hB : s < mid
          · have hBz : decide ((m : Int) < (mid : Int) + (m : Int) - (s : Int)) = true := decide_eq_true (by omega)
            have hBy : decide ((s : Int) < (mid : Int)) = true := decide_eq_true (by omega)
            have hBx : (m : Int) < (mid : Int) + (m : Int) - (s : Int) := by omega
            have hBw : (s : Int) < (mid : Int) := by omega
            by_cases hC : a < s
            · have hCz : decide ((a : Int) < (s : Int)) = true := decide_eq_true (by omega)
              have hCx : (a : Int) < (s : Int) := by omega
              by_cases hD : e < b
              · have hDz : decide ((mid : Int) + (m : Int) - (s : Int) < (b : Int)) = true := decide_eq_true (by omega)
                have hDx : (mid : Int) + (m : Int) - (s : Int) < (b : Int) := by omega
                go_wp2_with fail
                refine (rotate_any enc (.func (.func g) #[] cb) blk off cap s m e _ _ _ d0 d w0 wr R hs S1.out (by omega) (by omega) (by omega) (by omega) (by omega) (by omega) hsz).mono ?_
                rintro e1 w1 ⟨rfl, d1, Sx, hrot, hrp⟩
                have S2 : Aside _ := Sx
                have HR := Lib.hid hrot
                have HRP := Lib.hid (permIn_mono _ _ _ _ a b (by omega) (by omega) (by omega) hrp)
                clear Sx hrot hrp S1
                have HH := Lib.hid (found_halves (lt := ltOf cf) F.out HR.out U1.out U2.out XX.out)
                have z1 : d1.size ≤ d.size := by have := HR.out.1; omega
                have z2 : d.size ≤ d1.size := by have := HR.out.1; omega
                go_wp2_with fail
                refine (IH.out a s mid _ _ _ d1 _ (by omega) HR.out.1 (by exact S2.out) rfl (by omega) rfl (by omega) (by omega) (by omega) HH.out.1 HH.out.2.1 HH.out.2.2.2.2.1).mono ?_
                rintro e1 w2 ⟨rfl, d2, Sx, hm1⟩
                have S3 : Aside _ := Sx
                have HM1 := Lib.hid hm1
                clear Sx hm1 S2
                have z3 : d2.size ≤ d.size := by have := HM1.out.1.1; omega
                have z4 : d.size ≤ d2.size := by have := HM1.out.1.1; omega
                have HQ : Hid (Up key d2 mid e ∧ Up key d2 e b ∧ Crs (ltOf cf) key d2 mid e b) := ⟨up_same HH.out.2.2.1 (fun t t1 _ => HM1.out.1.2.1 t (.inr t1)), up_same HH.out.2.2.2.1 (fun t t1 _ => HM1.out.1.2.1 t (.inr (by omega))), crs_same HH.out.2.2.2.2.2.1 (fun t t1 _ => HM1.out.1.2.1 t (.inr t1))⟩
                go_wp2_with fail
                refine (IH.out mid e b _ _ _ d2 _ (by omega) (by omega) (by exact S3.out) rfl (by omega) rfl (by omega) (by omega) (by omega) HQ.out.1 HQ.out.2.1 HQ.out.2.2).mono ?_
                rintro e1 w3 ⟨rfl, d3, Sx, hm2⟩
                have S4 : Aside _ := Sx
                have HM2 := Lib.hid hm2
                clear Sx hm2 S3
                go_wp2
                go_end0
                exact ⟨rfl, d3, S4.out, permIn_trans _ _ _ _ _ HRP.out (permIn_trans _ _ _ _ _ (permIn_mono _ _ _ _ _ _ (by omega) (by omega) (by omega) HM1.out.1) (permIn_mono _ _ _ _ _ _ (by omega) (by omega) (by omega) HM2.out.1)), halves_up (by omega) HM1.out HM2.out HH.out.2.2.2.2.2.2⟩

              · have hDz : decide ((mid : Int) + (m : Int) - (s : Int) < (b : Int)) = false := decide_eq_false (by omega)
                have hDx : ¬ (mid : Int) + (m : Int) - (s : Int) < (b : Int) := by omega
                go_wp2_with fail
                refine (rotate_any enc (.func (.func g) #[] cb) blk off cap s m e _ _ _ d0 d w0 wr R hs S1.out (by omega) (by omega) (by omega) (by omega) (by omega) (by omega) hsz).mono ?_
                rintro e1 w1 ⟨rfl, d1, Sx, hrot, hrp⟩
                have S2 : Aside _ := Sx
                have HR := Lib.hid hrot
                have HRP := Lib.hid (permIn_mono _ _ _ _ a b (by omega) (by omega) (by omega) hrp)
                clear Sx hrot hrp S1
                have HH := Lib.hid (found_halves (lt := ltOf cf) F.out HR.out U1.out U2.out XX.out)
                have z1 : d1.size ≤ d.size := by have := HR.out.1; omega
                have z2 : d.size ≤ d1.size := by have := HR.out.1; omega
                go_wp2_with fail
                refine (IH.out a s mid _ _ _ d1 _ (by omega) HR.out.1 (by exact S2.out) rfl (by omega) rfl (by omega) (by omega) (by omega) HH.out.1 HH.out.2.1 HH.out.2.2.2.2.1).mono ?_
                rintro e1 w2 ⟨rfl, d2, Sx, hm1⟩
                have S3 : Aside _ := Sx
                have HM1 := Lib.hid hm1
                clear Sx hm1 S2
                have z3 : d2.size ≤ d.size := by have := HM1.out.1.1; omega
                have z4 : d.size ≤ d2.size := by have := HM1.out.1.1; omega
                have HQ : Hid (Up key d2 mid e ∧ Up key d2 e b ∧ Crs (ltOf cf) key d2 mid e b) := ⟨up_same HH.out.2.2.1 (fun t t1 _ => HM1.out.1.2.1 t (.inr t1)), up_same HH.out.2.2.2.1 (fun t t1 _ => HM1.out.1.2.1 t (.inr (by omega))), crs_same HH.out.2.2.2.2.2.1 (fun t t1 _ => HM1.out.1.2.1 t (.inr t1))⟩
                obtain ⟨d3, hd3⟩ : ∃ q, q = d2 := ⟨_, rfl⟩
                have HM2 : Hid (Mgd key d2 d3 mid b) := by rw [hd3]; exact ⟨permIn_refl d2 _ _, up_one (by omega) HQ.out.1 HQ.out.2.1⟩
                have S4 : Aside _ := S3
                rw [← hd3] at S4
                clear S3 hd3
                go_wp2
                go_end0
                exact ⟨rfl, d3, S4.out, permIn_trans _ _ _ _ _ HRP.out (permIn_trans _ _ _ _ _ (permIn_mono _ _ _ _ _ _ (by omega) (by omega) (by omega) HM1.out.1) (permIn_mono _ _ _ _ _ _ (by omega) (by omega) (by omega) HM2.out.1)), halves_up (by omega) HM1.out HM2.out HH.out.2.2.2.2.2.2⟩

            · have hCz : decide ((a : Int) < (s : Int)) = false := decide_eq_false (by omega)
              have hCx : ¬ (a : Int) < (s : Int) := by omega
              by_cases hD : e < b
              · have hDz : decide ((mid : Int) + (m : Int) - (s : Int) < (b : Int)) = true := decide_eq_true (by omega)
                have hDx : (mid : Int) + (m : Int) - (s : Int) < (b : Int) := by omega
                go_wp2_with fail
                refine (rotate_any enc (.func (.func g) #[] cb) blk off cap s m e _ _ _ d0 d w0 wr R hs S1.out (by omega) (by omega) (by omega) (by omega) (by omega) (by omega) hsz).mono ?_
                rintro e1 w1 ⟨rfl, d1, Sx, hrot, hrp⟩
                have S2 : Aside _ := Sx
                have HR := Lib.hid hrot
                have HRP := Lib.hid (permIn_mono _ _ _ _ a b (by omega) (by omega) (by omega) hrp)
                clear Sx hrot hrp S1
                have HH := Lib.hid (found_halves (lt := ltOf cf) F.out HR.out U1.out U2.out XX.out)
                have z1 : d1.size ≤ d.size := by have := HR.out.1; omega
                have z2 : d.size ≤ d1.size := by have := HR.out.1; omega
                obtain ⟨d2, hd2⟩ : ∃ q, q = d1 := ⟨_, rfl⟩
                have HM1 : Hid (Mgd key d1 d2 a mid) := by rw [hd2]; exact ⟨permIn_refl d1 _ _, up_one (by omega) HH.out.1 HH.out.2.1⟩
                have S3 : Aside _ := S2
                rw [← hd2] at S3
                clear S2 hd2
                have z3 : d2.size ≤ d.size := by have := HM1.out.1.1; omega
                have z4 : d.size ≤ d2.size := by have := HM1.out.1.1; omega
                have HQ : Hid (Up key d2 mid e ∧ Up key d2 e b ∧ Crs (ltOf cf) key d2 mid e b) := ⟨up_same HH.out.2.2.1 (fun t t1 _ => HM1.out.1.2.1 t (.inr t1)), up_same HH.out.2.2.2.1 (fun t t1 _ => HM1.out.1.2.1 t (.inr (by omega))), crs_same HH.out.2.2.2.2.2.1 (fun t t1 _ => HM1.out.1.2.1 t (.inr t1))⟩
                go_wp2_with fail
                refine (IH.out mid e b _ _ _ d2 _ (by omega) (by omega) (by exact S3.out) rfl (by omega) rfl (by omega) (by omega) (by omega) HQ.out.1 HQ.out.2.1 HQ.out.2.2).mono ?_
                rintro e1 w3 ⟨rfl, d3, Sx, hm2⟩
                have S4 : Aside _ := Sx
                have HM2 := Lib.hid hm2
                clear Sx hm2 S3
                go_wp2
                go_end0
                exact ⟨rfl, d3, S4.out, permIn_trans _ _ _ _ _ HRP.out (permIn_trans _ _ _ _ _ (permIn_mono _ _ _ _ _ _ (by omega) (by omega) (by omega) HM1.out.1) (permIn_mono _ _ _ _ _ _ (by omega) (by omega) (by omega) HM2.out.1)), halves_up (by omega) HM1.out HM2.out HH.out.2.2.2.2.2.2⟩

              · have hDz : decide ((mid : Int) + (m : Int) - (s : Int) < (b : Int)) = false := decide_eq_false (by omega)
                have hDx : ¬ (mid : Int) + (m : Int) - (s : Int) < (b : Int) := by omega
                go_wp2_with fail
                refine (rotate_any enc (.func (.func g) #[] cb) blk off cap s m e _ _ _ d0 d w0 wr R hs S1.out (by omega) (by omega) (by omega) (by omega) (by omega) (by omega) hsz).mono ?_
                rintro e1 w1 ⟨rfl, d1, Sx, hrot, hrp⟩
                have S2 : Aside _ := Sx
                have HR := Lib.hid hrot
                have HRP := Lib.hid (permIn_mono _ _ _ _ a b (by omega) (by omega) (by omega) hrp)
                clear Sx hrot hrp S1
                have HH := Lib.hid (found_halves (lt := ltOf cf) F.out HR.out U1.out U2.out XX.out)
                have z1 : d1.size ≤ d.size := by have := HR.out.1; omega
                have z2 : d.size ≤ d1.size := by have := HR.out.1; omega
                obtain ⟨d2, hd2⟩ : ∃ q, q = d1 := ⟨_, rfl⟩
                have HM1 : Hid (Mgd key d1 d2 a mid) := by rw [hd2]; exact ⟨permIn_refl d1 _ _, up_one (by omega) HH.out.1 HH.out.2.1⟩
                have S3 : Aside _ := S2
                rw [← hd2] at S3
                clear S2 hd2
                have z3 : d2.size ≤ d.size := by have := HM1.out.1.1; omega
                have z4 : d.size ≤ d2.size := by have := HM1.out.1.1; omega
                have HQ : Hid (Up key d2 mid e ∧ Up key d2 e b ∧ Crs (ltOf cf) key d2 mid e b) := ⟨up_same HH.out.2.2.1 (fun t t1 _ => HM1.out.1.2.1 t (.inr t1)), up_same HH.out.2.2.2.1 (fun t t1 _ => HM1.out.1.2.1 t (.inr (by omega))), crs_same HH.out.2.2.2.2.2.1 (fun t t1 _ => HM1.out.1.2.1 t (.inr t1))⟩
                obtain ⟨d3, hd3⟩ : ∃ q, q = d2 := ⟨_, rfl⟩
                have HM2 : Hid (Mgd key d2 d3 mid b) := by rw [hd3]; exact ⟨permIn_refl d2 _ _, up_one (by omega) HQ.out.1 HQ.out.2.1⟩
                have S4 : Aside _ := S3
                rw [← hd3] at S4
                clear S3 hd3
                go_wp2
                go_end0
                exact ⟨rfl, d3, S4.out, permIn_trans _ _ _ _ _ HRP.out (permIn_trans _ _ _ _ _ (permIn_mono _ _ _ _ _ _ (by omega) (by omega) (by omega) HM1.out.1) (permIn_mono _ _ _ _ _ _ (by omega) (by omega) (by omega) HM2.out.1)), halves_up (by omega) HM1.out HM2.out HH.out.2.2.2.2.2.2⟩

          · have hBz : decide ((m : Int) < (mid : Int) + (m : Int) - (s : Int)) = false := decide_eq_false (by omega)
            have hBy : decide ((s : Int) < (mid : Int)) = false := decide_eq_false (by omega)
            have hBx : ¬ (m : Int) < (mid : Int) + (m : Int) - (s : Int) := by omega
            have hBw : ¬ (s : Int) < (mid : Int) := by omega
            have hCz : decide ((a : Int) < (s : Int)) = true := decide_eq_true (by omega)
            have hCx : (a : Int) < (s : Int) := by omega
            by_cases hD : e < b
            · have hDz : decide ((mid : Int) + (m : Int) - (s : Int) < (b : Int)) = true := decide_eq_true (by omega)
              have hDx : (mid : Int) + (m : Int) - (s : Int) < (b : Int) := by omega
              obtain ⟨d1, hd1⟩ : ∃ q, q = d := ⟨_, rfl⟩
              have HR : Hid (Rot d d1 s m e) := by rw [hd1]; exact rot_at_right d s m e (by omega)
              have HRP : Hid (PermIn a b d d1) := by rw [hd1]; exact permIn_refl d _ _
              have S2 : Aside (SW enc w0 blk off d1 wr) := by rw [hd1]; exact S1
              clear S1 hd1
              have HH := Lib.hid (found_halves (lt := ltOf cf) F.out HR.out U1.out U2.out XX.out)
              have z1 : d1.size ≤ d.size := by have := HR.out.1; omega
              have z2 : d.size ≤ d1.size := by have := HR.out.1; omega
              obtain ⟨d2, hd2⟩ : ∃ q, q = d1 := ⟨_, rfl⟩
              have HM1 : Hid (Mgd key d1 d2 a mid) := by rw [hd2]; exact ⟨permIn_refl d1 _ _, up_one (by omega) HH.out.1 HH.out.2.1⟩
              have S3 : Aside _ := S2
              rw [← hd2] at S3
              clear S2 hd2
              have z3 : d2.size ≤ d.size := by have := HM1.out.1.1; omega
              have z4 : d.size ≤ d2.size := by have := HM1.out.1.1; omega
              have HQ : Hid (Up key d2 mid e ∧ Up key d2 e b ∧ Crs (ltOf cf) key d2 mid e b) := ⟨up_same HH.out.2.2.1 (fun t t1 _ => HM1.out.1.2.1 t (.inr t1)), up_same HH.out.2.2.2.1 (fun t t1 _ => HM1.out.1.2.1 t (.inr (by omega))), crs_same HH.out.2.2.2.2.2.1 (fun t t1 _ => HM1.out.1.2.1 t (.inr t1))⟩
              go_wp2_with fail
              refine (IH.out mid e b _ _ _ d2 _ (by omega) (by omega) (by exact S3.out) rfl (by omega) rfl (by omega) (by omega) (by omega) HQ.out.1 HQ.out.2.1 HQ.out.2.2).mono ?_
              rintro e1 w3 ⟨rfl, d3, Sx, hm2⟩
              have S4 : Aside _ := Sx
              have HM2 := Lib.hid hm2
              clear Sx hm2 S3
              go_wp2
              go_end0
              exact ⟨rfl, d3, S4.out, permIn_trans _ _ _ _ _ HRP.out (permIn_trans _ _ _ _ _ (permIn_mono _ _ _ _ _ _ (by omega) (by omega) (by omega) HM1.out.1) (permIn_mono _ _ _ _ _ _ (by omega) (by omega) (by omega) HM2.out.1)), halves_up (by omega) HM1.out HM2.out HH.out.2.2.2.2.2.2⟩

            · have hDz : decide ((mid : Int) + (m : Int) - (s : Int) < (b : Int)) = false := decide_eq_false (by omega)
              have hDx : ¬ (mid : Int) + (m : Int) - (s : Int) < (b : Int) := by omega
              obtain ⟨d1, hd1⟩ : ∃ q, q = d := ⟨_, rfl⟩
              have HR : Hid (Rot d d1 s m e) := by rw [hd1]; exact rot_at_right d s m e (by omega)
              have HRP : Hid (PermIn a b d d1) := by rw [hd1]; exact permIn_refl d _ _
              have S2 : Aside (SW enc w0 blk off d1 wr) := by rw [hd1]; exact S1
              clear S1 hd1
              have HH := Lib.hid (found_halves (lt := ltOf cf) F.out HR.out U1.out U2.out XX.out)
              have z1 : d1.size ≤ d.size := by have := HR.out.1; omega
              have z2 : d.size ≤ d1.size := by have := HR.out.1; omega
              obtain ⟨d2, hd2⟩ : ∃ q, q = d1 := ⟨_, rfl⟩
              have HM1 : Hid (Mgd key d1 d2 a mid) := by rw [hd2]; exact ⟨permIn_refl d1 _ _, up_one (by omega) HH.out.1 HH.out.2.1⟩
              have S3 : Aside _ := S2
              rw [← hd2] at S3
              clear S2 hd2
              have z3 : d2.size ≤ d.size := by have := HM1.out.1.1; omega
              have z4 : d.size ≤ d2.size := by have := HM1.out.1.1; omega
              have HQ : Hid (Up key d2 mid e ∧ Up key d2 e b ∧ Crs (ltOf cf) key d2 mid e b) := ⟨up_same HH.out.2.2.1 (fun t t1 _ => HM1.out.1.2.1 t (.inr t1)), up_same HH.out.2.2.2.1 (fun t t1 _ => HM1.out.1.2.1 t (.inr (by omega))), crs_same HH.out.2.2.2.2.2.1 (fun t t1 _ => HM1.out.1.2.1 t (.inr t1))⟩
              obtain ⟨d3, hd3⟩ : ∃ q, q = d2 := ⟨_, rfl⟩
              have HM2 : Hid (Mgd key d2 d3 mid b) := by rw [hd3]; exact ⟨permIn_refl d2 _ _, up_one (by omega) HQ.out.1 HQ.out.2.1⟩
              have S4 : Aside _ := S3
              rw [← hd3] at S4
              clear S3 hd3
              go_wp2
              go_end0
              exact ⟨rfl, d3, S4.out, permIn_trans _ _ _ _ _ HRP.out (permIn_trans _ _ _ _ _ (permIn_mono _ _ _ _ _ _ (by omega) (by omega) (by omega) HM1.out.1) (permIn_mono _ _ _ _ _ _ (by omega) (by omega) (by omega) HM2.out.1)), halves_up (by omega) HM1.out HM2.out HH.out.2.2.2.2.2.2⟩

        · have hAz : decide ((s : Int) < (m : Int)) = false := decide_eq_false (by omega)
          have hAy : decide ((mid : Int) < (mid : Int) + (m : Int) - (s : Int)) = false := decide_eq_false (by omega)
          have hAx : ¬ (s : Int) < (m : Int) := by omega
          have hAw : ¬ (mid : Int) < (mid : Int) + (m : Int) - (s : Int) := by omega
          have hCz : decide ((a : Int) < (s : Int)) = true := decide_eq_true (by omega)
          have hCx : (a : Int) < (s : Int) := by omega
          by_cases hB : s < mid
          · have hBy : decide ((s : Int) < (mid : Int)) = true := decide_eq_true (by omega)
            have hBw : (s : Int) < (mid : Int) := by omega
            obtain ⟨d1, hd1⟩ : ∃ q, q = d := ⟨_, rfl⟩
            have HR : Hid (Rot d d1 s m e) := by rw [hd1]; exact rot_at_left d s m e (by omega)
            have HRP : Hid (PermIn a b d d1) := by rw [hd1]; exact permIn_refl d _ _
            have S2 : Aside (SW enc w0 blk off d1 wr) := by rw [hd1]; exact S1
            clear S1 hd1
            have HH := Lib.hid (found_halves (lt := ltOf cf) F.out HR.out U1.out U2.out XX.out)
            have z1 : d1.size ≤ d.size := by have := HR.out.1; omega
            have z2 : d.size ≤ d1.size := by have := HR.out.1; omega
            go_wp2_with fail
            refine (IH.out a s mid _ _ _ d1 _ (by omega) HR.out.1 (by exact S2.out) rfl (by omega) rfl (by omega) (by omega) (by omega) HH.out.1 HH.out.2.1 HH.out.2.2.2.2.1).mono ?_
            rintro e1 w2 ⟨rfl, d2, Sx, hm1⟩
            have S3 : Aside _ := Sx
            have HM1 := Lib.hid hm1
            clear Sx hm1 S2
            have z3 : d2.size ≤ d.size := by have := HM1.out.1.1; omega
            have z4 : d.size ≤ d2.size := by have := HM1.out.1.1; omega
            have HQ : Hid (Up key d2 mid e ∧ Up key d2 e b ∧ Crs (ltOf cf) key d2 mid e b) := ⟨up_same HH.out.2.2.1 (fun t t1 _ => HM1.out.1.2.1 t (.inr t1)), up_same HH.out.2.2.2.1 (fun t t1 _ => HM1.out.1.2.1 t (.inr (by omega))), crs_same HH.out.2.2.2.2.2.1 (fun t t1 _ => HM1.out.1.2.1 t (.inr t1))⟩
            obtain ⟨d3, hd3⟩ : ∃ q, q = d2 := ⟨_, rfl⟩
            have HM2 : Hid (Mgd key d2 d3 mid b) := by rw [hd3]; exact ⟨permIn_refl d2 _ _, up_one (by omega) HQ.out.1 HQ.out.2.1⟩
            have S4 : Aside _ := S3
            rw [← hd3] at S4
            clear S3 hd3
            go_wp2
            go_end0
            exact ⟨rfl, d3, S4.out, permIn_trans _ _ _ _ _ HRP.out (permIn_trans _ _ _ _ _ (permIn_mono _ _ _ _ _ _ (by omega) (by omega) (by omega) HM1.out.1) (permIn_mono _ _ _ _ _ _ (by omega) (by omega) (by omega) HM2.out.1)), halves_up (by omega) HM1.out HM2.out HH.out.2.2.2.2.2.2⟩

          · have hBy : decide ((s : Int) < (mid : Int)) = false := decide_eq_false (by omega)
            have hBw : ¬ (s : Int) < (mid : Int) := by omega
            obtain ⟨d1, hd1⟩ : ∃ q, q = d := ⟨_, rfl⟩
            have HR : Hid (Rot d d1 s m e) := by rw [hd1]; exact rot_at_left d s m e (by omega)
            have HRP : Hid (PermIn a b d d1) := by rw [hd1]; exact permIn_refl d _ _
            have S2 : Aside (SW enc w0 blk off d1 wr) := by rw [hd1]; exact S1
            clear S1 hd1
            have HH := Lib.hid (found_halves (lt := ltOf cf) F.out HR.out U1.out U2.out XX.out)
            have z1 : d1.size ≤ d.size := by have := HR.out.1; omega
            have z2 : d.size ≤ d1.size := by have := HR.out.1; omega
            obtain ⟨d2, hd2⟩ : ∃ q, q = d1 := ⟨_, rfl⟩
            have HM1 : Hid (Mgd key d1 d2 a mid) := by rw [hd2]; exact ⟨permIn_refl d1 _ _, up_one (by omega) HH.out.1 HH.out.2.1⟩
            have S3 : Aside _ := S2
            rw [← hd2] at S3
            clear S2 hd2
            have z3 : d2.size ≤ d.size := by have := HM1.out.1.1; omega
            have z4 : d.size ≤ d2.size := by have := HM1.out.1.1; omega
            have HQ : Hid (Up key d2 mid e ∧ Up key d2 e b ∧ Crs (ltOf cf) key d2 mid e b) := ⟨up_same HH.out.2.2.1 (fun t t1 _ => HM1.out.1.2.1 t (.inr t1)), up_same HH.out.2.2.2.1 (fun t t1 _ => HM1.out.1.2.1 t (.inr (by omega))), crs_same HH.out.2.2.2.2.2.1 (fun t t1 _ => HM1.out.1.2.1 t (.inr t1))⟩
            obtain ⟨d3, hd3⟩ : ∃ q, q = d2 := ⟨_, rfl⟩
            have HM2 : Hid (Mgd key d2 d3 mid b) := by rw [hd3]; exact ⟨permIn_refl d2 _ _, up_one (by omega) HQ.out.1 HQ.out.2.1⟩
            have S4 : Aside _ := S3
            rw [← hd3] at S4
            clear S3 hd3
            go_wp2
            go_end0
            exact ⟨rfl, d3, S4.out, permIn_trans _ _ _ _ _ HRP.out (permIn_trans _ _ _ _ _ (permIn_mono _ _ _ _ _ _ (by omega) (by omega) (by omega) HM1.out.1) (permIn_mono _ _ _ _ _ _ (by omega) (by omega) (by omega) HM2.out.1)), halves_up (by omega) HM1.out HM2.out HH.out.2.2.2.2.2.2⟩
end Go.Proofs.Ytekiknngiefkbaa
