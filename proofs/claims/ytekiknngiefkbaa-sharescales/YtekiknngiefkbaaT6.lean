/- symMerge for whatever ranges; the insertion sort of a range. -/
import Derived.Test.YtekiknngiefkbaaRows
import Derived.Test.YtekiknngiefkbaaT5
import Derived.WalkKit
import Derived.Shelf.SlSortCmp.Kit1
import Derived.Sort.WalkA
import Derived.Sort.WalkB2
import Derived.Sort.WalkB12
import Derived.Deep.LoopGhost
import Derived.Lib.Hide
import Derived.IntWalk
namespace Go.Proofs.Ytekiknngiefkbaa
open Go.Shelf Go.RowKit Go.Lib Go.Sort Go.Proofs
variable {α : Type} [Inhabited α]

theorem sym_any (enc : α → Value) (cf : α → α → Int) (key : α → Int) (g : Nat) (cb : Array Value) (blk off cap : Nat) (d0 : Array α) (w0 : World)
    (eg : ∀ args w, (callFunc g args).run Try.prog w = .ok (.enter g args) w) (hcmp : CmpLays1 Try.prog g cb enc cf blk off d0.size w0) (R : Row1 enc w0 blk off d0) (hsz : d0.size < 4611686018427387904) (n : Nat) :
    SymSaid enc cf key g cb blk off cap d0.size w0 n := by
  induction n with
  | zero => intro a m b za zm zb d w h; omega
  | succ n ih =>
    intro a m b za zm zb d w hn hs S e1 e2 e3 ham hmb hb u1 u2 hX
    subst e1 e2 e3
    rw [← hs]
    by_cases h1 : m = a + 1
    · exact sym_left enc cf key g cb blk off cap a m b d0 d w0 w eg hcmp R hs.symm S ham hmb (by omega) (by omega) u1 u2 hX h1
    · by_cases h2 : b = m + 1
      · exact sym_right enc cf key g cb blk off cap a m b d0 d w0 w eg hcmp R hs.symm S ham hmb (by omega) (by omega) u1 u2 hX h1 h2
      · refine sym_main enc cf key g cb blk off cap a m b d0 d w0 w eg hcmp R hs.symm S ham hmb (by omega) (by omega) u1 u2 hX h1 h2 ?_
        intro a' m' b' za zm zb d' w' hn'
        rw [hs]
        exact ih a' m' b' za zm zb d' w' (by omega)

set_option maxHeartbeats 4000000 in
set_option maxRecDepth 100000 in
theorem insertion_none (sl cv : Value) (a : Nat) (za zb : Int) (w : World) (ha : za = a) (hb : zb = a) (h : a < 4611686018427387904) :
    Calls Try.prog 33 #[sl, .int .i64 za, .int .i64 zb, cv] w fun e w' => e = .returned (.tuple #[]) ∧ w = w' := by
  subst ha hb
  have h1 : ¬ (a : Int) + 1 < (a : Int) := by omega
  go_enter Try.func33, Try.ntmps33
  go_wp2
  refine wp_loop_rounds 1 ?_
  rw [rounds_succ]
  go_wp2
  go_end0
  exact ⟨rfl, rfl⟩

set_option maxHeartbeats 16000000 in
set_option maxRecDepth 1000000 in
theorem insertion_some (enc : α → Value) (cf : α → α → Int) (key : α → Int) (g : Nat) (cb : Array Value) (blk off cap a b : Nat) (d0 d : Array α) (w0 w : World)
    (eg : ∀ args w, (callFunc g args).run Try.prog w = .ok (.enter g args) w) (hcmp : CmpLays1 Try.prog g cb enc cf blk off d0.size w0) (R : Row1 enc w0 blk off d0) (hs : d0.size = d.size) (S : SW enc w0 blk off d w)
    (hab : a < b) (hb : b ≤ d.size) (hsz : d.size < 4611686018427387904) (hF : Fwd (ltOf cf) key d a b) :
    Calls Try.prog 33 #[.slice (some ⟨blk, off, none⟩) d.size cap, .int .i64 a, .int .i64 b, .func (.func g) #[] cb] w (Aft enc w0 blk off fun d' => Mgd key d d' a b) := by
  have mixed : Try.prog.follows .mixedOrders = true := by kernel_rfl
  have hcl0 := R.hO.cells
  simp only [Value.cells] at hcl0
  have hst := R.hO.store Try.prog
  have S0 : Aside (SW enc w0 blk off d w) := S
  have HC : Aside _ := hcmp
  have FF := Lib.hid hF
  clear S hcmp hF
  go_enter Try.func33, Try.ntmps33
  go_wp2
  go_loopg [8] (b - a) (fun g1 vi wr => ∃ (i : Nat) (dk : Array α), vi = .int .i64 i ∧ a < i ∧ i ≤ b ∧ b - i ≤ g1 ∧ dk.size = d.size ∧ Aside (SW enc w0 blk off dk wr) ∧ Hid (Up key dk a i ∧ PermIn a i d dk))
  case atStart => exact ⟨a + 1, d, by go_num, by omega, by omega, by omega, rfl, S0, ⟨fun i j p1 p2 p3 => by have : i = j := (by omega); subst this; exact Int.le_refl _, permIn_refl d _ _⟩⟩
  case round =>
    clear S0
    obtain ⟨i, dk, rfl, hai, hib, hg1, hsk, S1, HO⟩ := hrel
    by_cases hlt : i < b
    · have hltz : (i : Int) < (b : Int) := by omega
      have XX : Hid (∀ t, a ≤ t → t < i → (ltOf cf) dk[i]! dk[t]! = decide (key dk[i]! < key dk[t]!)) := by
        have hi : dk[i]! = d[i]! := HO.out.2.2.1 i (.inr (Nat.le_refl _))
        rw [hi]
        exact permIn_all d dk a i (fun x => (ltOf cf) d[i]! x = decide (key d[i]! < key x)) (by omega) HO.out.2 (fun t t1 t2 => FF.out t i t1 t2 hlt)
      go_wp2
      go_loopg [9] i (fun g2 vj wr2 => ∃ (j : Nat) (dj : Array α), vj = .int .i64 j ∧ a ≤ j ∧ j ≤ i ∧ j ≤ g2 ∧ dj.size = d.size ∧ Aside (SW enc w0 blk off dj wr2) ∧ Hid (Dwn dk dj j i ∧ (∀ t, j ≤ t → t < i → key dk[i]! ≤ key dk[t]!) ∧ PermIn a (i + 1) d dj))
      case atStart => exact ⟨i, dk, rfl, by omega, Nat.le_refl _, Nat.le_refl _, hsk, S1, ⟨dwn_refl dk i, fun t _ _ => by omega, permIn_mono _ _ _ _ _ _ (Nat.le_refl _) (by omega) (by omega) HO.out.2⟩⟩
      case round =>
        clear S1
        obtain ⟨j, dj, rfl, haj, hji, hg2, hsj, SJ, HI⟩ := hrel
        by_cases hja : a < j
        · obtain ⟨jp, rfl⟩ : ∃ q, j = q + 1 := ⟨j - 1, by omega⟩
          have hjad : decide ((jp : Int) + 1 > (a : Int)) = true := decide_eq_true (by omega)
          have hjaz' : (a : Int) < (jp : Int) + 1 := by omega
          have EE : Hid ((ltOf cf) dj[jp + 1]! dj[jp]! = decide (key dk[i]! < key dk[jp]!)) := by
            show _ = _
            rw [HI.out.1.2.1, HI.out.1.2.2.2 jp (by omega)]; exact XX.out jp (by omega) (by omega)
          cases hlv : (ltOf cf) dj[jp + 1]! dj[jp]! with
          | true =>
            have hk : key dk[i]! < key dk[jp]! := of_decide_eq_true (EE.out.symm.trans hlv)
            have HK := Lib.hid hk
            clear hk EE
            obtain ⟨iN1, hiN1⟩ : ∃ q, q = jp + 1 := ⟨_, rfl⟩
            obtain ⟨jN1, hjN1⟩ : ∃ q, q = jp := ⟨_, rfl⟩
            have ea1 : ((jp : Int) + 1).toNat = iN1 := by omega
            have pa1 : (0 : Int) ≤ (jp : Int) + 1 := by omega
            have ba1 : (jp : Int) + 1 < (d.size : Int) := by omega
            have ra1 : IntKind.i64.wrap ((jp : Int) + 1) = (jp : Int) + 1 := by rw [IntKind.wrap_i64]; omega
            have ec1 : ((jp : Int)).toNat = jN1 := by omega
            have pc1 : (0 : Int) ≤ (jp : Int) := by omega
            have bc1 : (jp : Int) < (d.size : Int) := by omega
            have rc1 : IntKind.i64.wrap ((jp : Int)) = (jp : Int) := by rw [IntKind.wrap_i64]; omega
            -- 
            obtain ⟨x1, hx1⟩ : ∃ x, x = dj[jp + 1]! := ⟨_, rfl⟩
            obtain ⟨y1, hy1⟩ : ∃ x, x = dj[jp]! := ⟨_, rfl⟩
            have l1a := SJ.out.cl R (by omega) (jp + 1) (by omega)
            have l1b := SJ.out.cl R (by omega) (jp) (by omega)
            rw [← hx1, ← hiN1] at l1a
            rw [← hy1, ← hjN1] at l1b
            have hc1 := SJ.out.cmp HC.out (by omega) x1 y1
            have hv1 : cf x1 y1 < 0 := by rw [hx1, hy1]; exact of_decide_eq_true hlv
            have hd1 : decide (cf x1 y1 < 0) = true := decide_eq_true hv1
            clear hx1 hy1 hiN1 hjN1
            go_wp2_with fail
            go_quiet_grown (first | (go_at_fn g; refine Calls.grown_of (hc1 _ _)))
            have S2 : Aside (SW enc w0 blk off dj (grow (wr.drewN nq) osq)) := SJ.out.grown nq osq
            clear l1a l1b hc1 SJ
            generalize grow (wr.drewN nq) osq = w2 at S2 ⊢
            clear nq osq
            clear ea1 ec1 
            have HL := Lib.hid hlv
            clear hlv
            go_wp2_with fail
            obtain ⟨iN2, hiN2⟩ : ∃ q, q = jp + 1 := ⟨_, rfl⟩
            obtain ⟨jN2, hjN2⟩ : ∃ q, q = jp := ⟨_, rfl⟩
            have ea2 : ((jp : Int) + 1).toNat = iN2 := by omega
            have pa2 : (0 : Int) ≤ (jp : Int) + 1 := by omega
            have ba2 : (jp : Int) + 1 < (d.size : Int) := by omega
            have ra2 : IntKind.i64.wrap ((jp : Int) + 1) = (jp : Int) + 1 := by rw [IntKind.wrap_i64]; omega
            have ec2 : ((jp : Int)).toNat = jN2 := by omega
            have pc2 : (0 : Int) ≤ (jp : Int) := by omega
            have bc2 : (jp : Int) < (d.size : Int) := by omega
            have rc2 : IntKind.i64.wrap ((jp : Int)) = (jp : Int) := by rw [IntKind.wrap_i64]; omega
            obtain ⟨x2, hx2⟩ : ∃ x, x = dj[jp + 1]! := ⟨_, rfl⟩
            obtain ⟨y2, hy2⟩ : ∃ x, x = dj[jp]! := ⟨_, rfl⟩
            have S3 : Aside (SW enc w0 blk off (swp dj (jp + 1) (jp)) ((w2.setCell ⟨blk, off + iN2, none⟩ (enc y2)).setCell ⟨blk, off + jN2, none⟩ (enc x2)).drew) := by rw [hiN2, hjN2, hx2, hy2]; exact S2.out.swapped R (jp + 1) (jp) (by omega) (by omega)
            have c2a := S2.out.c1 R (by omega) (jp + 1) (by omega)
            have c2b := S2.out.c1 R (by omega) (jp) (by omega)
            have f2a := S2.out.f1 R (by omega) (jp + 1) (by omega)
            have f2b := S2.out.f1 R (by omega) (jp) (by omega)
            obtain ⟨u2, c2c⟩ := S2.out.c2 R (by omega) (jp + 1) (jp) (by omega) (by omega) (enc y2)
            rw [← hiN2, ← hjN2] at c2c
            rw [← hx2, ← hiN2] at c2a
            rw [← hy2, ← hjN2] at c2b
            rw [← hiN2] at f2a
            rw [← hjN2] at f2b
            clear S2 hx2 hy2 hiN2 hjN2
            go_wp2_with fail
            go_big_region_o
            clear c2a c2b c2c f2a f2b
            generalize ((w2.setCell ⟨blk, off + iN2, none⟩ (enc y2)).setCell ⟨blk, off + jN2, none⟩ (enc x2)).drew = w3 at S3 ⊢
            clear ea2 ec2
            go_wp2
            go_roundg jp
            case measure => omega
            case rel => exact ⟨jp, swp dj (jp + 1) jp, by first | rfl | go_num | (congr 1; omega), by omega, by omega, Nat.le_refl _, by rw [size_swp]; exact hsj, S3, ⟨dwn_step HI.out.1 (by omega) (by omega), fun t t1 t2 => by
                  by_cases e : t = jp
                  · subst e; exact Int.le_of_lt HK.out
                  · exact HI.out.2.1 t (by omega) t2, permIn_trans _ _ _ _ _ HI.out.2.2 (swp_permIn dj _ _ _ _ (by omega) (by omega) (by omega) (by omega) (by omega))⟩⟩
          | false =>
            have hk : key dk[jp]! ≤ key dk[i]! := Int.not_lt.1 (of_decide_eq_false (EE.out.symm.trans hlv))
            have HK := Lib.hid hk
            clear hk EE
            obtain ⟨iN3, hiN3⟩ : ∃ q, q = jp + 1 := ⟨_, rfl⟩
            obtain ⟨jN3, hjN3⟩ : ∃ q, q = jp := ⟨_, rfl⟩
            have ea3 : ((jp : Int) + 1).toNat = iN3 := by omega
            have pa3 : (0 : Int) ≤ (jp : Int) + 1 := by omega
            have ba3 : (jp : Int) + 1 < (d.size : Int) := by omega
            have ra3 : IntKind.i64.wrap ((jp : Int) + 1) = (jp : Int) + 1 := by rw [IntKind.wrap_i64]; omega
            have ec3 : ((jp : Int)).toNat = jN3 := by omega
            have pc3 : (0 : Int) ≤ (jp : Int) := by omega
            have bc3 : (jp : Int) < (d.size : Int) := by omega
            have rc3 : IntKind.i64.wrap ((jp : Int)) = (jp : Int) := by rw [IntKind.wrap_i64]; omega
            -- 
            obtain ⟨x3, hx3⟩ : ∃ x, x = dj[jp + 1]! := ⟨_, rfl⟩
            obtain ⟨y3, hy3⟩ : ∃ x, x = dj[jp]! := ⟨_, rfl⟩
            have l3a := SJ.out.cl R (by omega) (jp + 1) (by omega)
            have l3b := SJ.out.cl R (by omega) (jp) (by omega)
            rw [← hx3, ← hiN3] at l3a
            rw [← hy3, ← hjN3] at l3b
            have hc3 := SJ.out.cmp HC.out (by omega) x3 y3
            have hv3 : ¬ cf x3 y3 < 0 := by rw [hx3, hy3]; exact of_decide_eq_false hlv
            have hd3 : decide (cf x3 y3 < 0) = false := decide_eq_false hv3
            clear hx3 hy3 hiN3 hjN3
            go_wp2_with fail
            go_quiet_grown (first | (go_at_fn g; refine Calls.grown_of (hc3 _ _)))
            have S2 : Aside (SW enc w0 blk off dj (grow (wr.drewN nq) osq)) := SJ.out.grown nq osq
            clear l3a l3b hc3 SJ
            generalize grow (wr.drewN nq) osq = w2 at S2 ⊢
            clear nq osq
            clear ea3 ec3 
            have HL := Lib.hid hlv
            clear hlv
            go_wp2
            go_roundg (b - (i + 1))
            case measure => omega
            case rel => exact ⟨i + 1, dj, by go_num, by omega, by omega, by omega, hsj, S2, ⟨dwn_up HI.out.1 (by omega) (by omega) HO.out.1 (fun t t1 t2 => Int.le_trans (HO.out.1 t jp t1 (by omega) (by omega)) HK.out) HI.out.2.1, HI.out.2.2⟩⟩
        · have hjaz : decide ((j : Int) > (a : Int)) = false := decide_eq_false (by omega)
          have hjaz' : ¬ (a : Int) < (j : Int) := by omega
          go_wp2_with fail
          go_big_region_o
          have S2 : Aside (SW enc w0 blk off dj wr.drew) := SJ.out.drew
          clear SJ
          generalize wr.drew = w2 at S2 ⊢
          go_wp2
          go_roundg (b - (i + 1))
          case measure => omega
          case rel => exact ⟨i + 1, dj, by go_num, by omega, by omega, by omega, hsj, S2, ⟨dwn_up HI.out.1 (by omega) (by omega) HO.out.1 (fun t t1 t2 => by omega) HI.out.2.1, HI.out.2.2⟩⟩
    · have hltz : ¬ (i : Int) < (b : Int) := by omega
      go_wp2
      go_end0
      obtain rfl : i = b := by omega
      exact ⟨rfl, dk, S1.out, HO.out.2, HO.out.1⟩

theorem insertion_any (enc : α → Value) (cf : α → α → Int) (key : α → Int) (g : Nat) (cb : Array Value) (blk off cap a b : Nat) (za zb : Int) (d0 d : Array α) (w0 w : World)
    (eg : ∀ args w, (callFunc g args).run Try.prog w = .ok (.enter g args) w) (hcmp : CmpLays1 Try.prog g cb enc cf blk off d0.size w0) (R : Row1 enc w0 blk off d0) (hs : d.size = d0.size) (S : SW enc w0 blk off d w)
    (ha : za = a) (hb : zb = b) (hab : a ≤ b) (hbs : b ≤ d0.size) (hsz : d0.size < 4611686018427387904) (hF : Fwd (ltOf cf) key d a b) :
    Calls Try.prog 33 #[.slice (some ⟨blk, off, none⟩) d0.size cap, .int .i64 za, .int .i64 zb, .func (.func g) #[] cb] w (Aft enc w0 blk off fun d' => Mgd key d d' a b) := by
  by_cases h : a < b
  · subst ha hb
    have c := insertion_some enc cf key g cb blk off cap a b d0 d w0 w eg hcmp R hs.symm S h (by omega) (by omega) hF
    rw [hs] at c
    exact c
  · obtain rfl : a = b := by omega
    refine (insertion_none (.slice (some ⟨blk, off, none⟩) d0.size cap) (.func (.func g) #[] cb) a za zb w ha hb (by omega)).mono ?_
    rintro e w' ⟨rfl, rfl⟩
    exact ⟨rfl, d, S, permIn_refl d _ _, fun i j p1 p2 p3 => by omega⟩
end Go.Proofs.Ytekiknngiefkbaa
