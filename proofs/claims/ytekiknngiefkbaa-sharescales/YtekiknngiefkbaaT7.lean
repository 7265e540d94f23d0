/- The stable sort of a row. -/
import Derived.Test.YtekiknngiefkbaaRows
import Derived.Test.YtekiknngiefkbaaT6
import Derived.WalkKit
import Derived.Shelf.SlSortCmp.Kit1
import Derived.Sort.WalkA
import Derived.Sort.WalkB2
import Derived.Sort.WalkB12
import Derived.Deep.LoopGhost
import Derived.Lib.Hide
import Derived.IntWalk
namespace Go.Proofs.Ytekiknngiefkbaa
open Go.Shelf Go.RowKit Go.Lib Go.Sort Go.Proofs
variable {α : Type} [Inhabited α]

theorem fwd_of {lt : α → α → Bool} {key : α → Int} {lab : α → Nat} (hK : ∀ x y, lab x < lab y → lt y x = decide (key y < key x)) {d0 d : Array α} {a b n : Nat} (hlab : ∀ t, t < n → lab d0[t]! = t) (hbn : b ≤ n) (hd : ∀ t, a ≤ t → d[t]! = d0[t]!) : Fwd lt key d a b := by
  intro i j h1 h2 h3
  apply hK
  rw [hd i h1, hd j (by omega), hlab i (by omega), hlab j (by omega)]
  exact h2

theorem blk_of {key : α → Int} {lab : α → Nat} {d0 d d' : Array α} {a b n : Nat} (hn : n ≤ d.size) (hlab : ∀ t, t < n → lab d0[t]! = t) (hbn : b ≤ n) (hd : ∀ t, a ≤ t → d[t]! = d0[t]!) (hM : Mgd key d d' a b) : Blk key lab d' a b := by
  refine ⟨hM.2, permIn_all d d' a b (fun x => a ≤ lab x ∧ lab x < b) (by omega) hM.1 (fun t t1 t2 => ?_)⟩
  rw [hd t t1, hlab t (by omega)]; omega

set_option maxHeartbeats 2000000 in
set_option maxRecDepth 1000000 in
theorem stable_any (enc : α → Value) (cf : α → α → Int) (key : α → Int) (lab : α → Nat) (g : Nat) (cb : Array Value) (blk off cap : Nat) (d0 : Array α) (w0 w : World)
    (eg : ∀ args w, (callFunc g args).run Try.prog w = .ok (.enter g args) w) (hcmp : CmpLays1 Try.prog g cb enc cf blk off d0.size w0) (R : Row1 enc w0 blk off d0) (S : SW enc w0 blk off d0 w)
    (hsz : d0.size ≤ 65536) (hK : ∀ x y, lab x < lab y → (ltOf cf) y x = decide (key y < key x)) (hlab : ∀ t, t < d0.size → lab d0[t]! = t) :
    Calls Try.prog 31 #[.slice (some ⟨blk, off, none⟩) d0.size cap, .int .i64 d0.size, .func (.func g) #[] cb] w (Aft enc w0 blk off fun d' => PermIn 0 d0.size d0 d' ∧ Up key d' 0 d0.size) := by
  have mixed : Try.prog.follows .mixedOrders = true := by kernel_rfl
  have S0 : Aside (SW enc w0 blk off d0 w) := S
  have HI := Lib.hid (fun a b za zb d w => insertion_any enc cf key g cb blk off cap a b za zb d0 d w0 w eg hcmp R)
  have HS := Lib.hid (sym_any enc cf key g cb blk off cap d0 w0 eg hcmp R (by omega) (d0.size + 1))
  have KK := Lib.hid hK
  have LL := Lib.hid hlab
  clear S hcmp hK hlab
  obtain ⟨n, hn⟩ : ∃ n, n = d0.size := ⟨_, rfl⟩
  have HN := Lib.hid hn
  rw [← hn] at hsz ⊢
  clear hn
  go_enter Try.func31, Try.ntmps31
  go_wp2
  go_loopg [7, 8] n (fun g1 va vb wr => ∃ (A : Nat) (dk : Array α), va = .int .i64 A ∧ vb = .int .i64 ((A : Int) + 20) ∧ A ≤ n ∧ n - A ≤ g1 ∧ Aside (SW enc w0 blk off dk wr) ∧ Hid (dk.size = n ∧ (∃ Q, A = Q * 20 ∧ Dns key lab dk 20 (Q * 20)) ∧ (∀ t, A ≤ t → dk[t]! = d0[t]!) ∧ PermIn 0 n d0 dk))
  case atStart => exact ⟨0, d0, rfl, by first | rfl | go_num, by omega, by omega, S0, ⟨HN.out.symm, ⟨0, rfl, dns_zero key lab d0 20 (by omega)⟩, fun _ _ => rfl, permIn_refl d0 _ _⟩⟩
  case round =>
    clear S0
    obtain ⟨A, dk, rfl, rfl, hAn, hg1, S1, HO⟩ := hrel
    by_cases hlt : A + 20 ≤ n
    · have hltz : (A : Int) + 20 ≤ (n : Int) := by omega
      have hF : Hid (Fwd (ltOf cf) key dk A (A + 20)) := fwd_of KK.out (n := n) (fun t h => LL.out t (by have := HN.out; omega)) hlt HO.out.2.2.1
      go_wp2_with fail
      refine ((show Calls Try.prog 33 #[.slice (some ⟨blk, off, none⟩) n cap, .int .i64 (A : Int), .int .i64 ((A : Int) + 20), .func (.func g) #[] cb] wr (Aft enc w0 blk off fun d' => Mgd key dk d' A (A + 20)) from by
        have := HI.out A (A + 20) (A : Int) ((A : Int) + 20) dk wr (by rw [← HN.out]; exact HO.out.1) S1.out rfl (by omega) (by omega) (by rw [← HN.out]; omega) (by rw [← HN.out]; omega) hF.out
        rw [← HN.out] at this
        exact this)).mono ?_
      rintro e w1 ⟨rfl, d1, Sx, hm⟩
      have S2 : Aside _ := Sx
      have HM := Lib.hid hm
      clear Sx hm S1 hF
      go_wp2
      go_roundg (n - (A + 20))
      case measure => omega
      case rel =>
        refine ⟨A + 20, d1, by go_num, by go_num, by omega, by omega, S2, ?_⟩
        obtain ⟨z, ⟨Q, hQ, hD⟩, hsame, hp⟩ := HO.out
        have hB : Blk key lab d1 A (A + 20) := blk_of (n := n) (by omega) (fun t h => LL.out t (by have := HN.out; omega)) hlt hsame HM.out
        refine ⟨HM.out.1.1.trans z, ⟨Q + 1, by omega, dns_step (by omega) hD (by rw [← hQ]; exact hB) (fun t ht => HM.out.1.2.1 t (.inl (by omega)))⟩, fun t ht => ?_, permIn_trans _ _ _ _ _ hp (permIn_mono _ _ _ _ _ _ (by omega) hlt (by omega) HM.out.1)⟩
        rw [HM.out.1.2.1 t (.inr ht)]; exact hsame t (by omega)
    · have hltz : ¬ (A : Int) + 20 ≤ (n : Int) := by omega
      have hF : Hid (Fwd (ltOf cf) key dk A n) := fwd_of KK.out (n := n) (fun t h => LL.out t (by have := HN.out; omega)) (Nat.le_refl _) HO.out.2.2.1
      go_wp2_with fail
      refine ((show Calls Try.prog 33 #[.slice (some ⟨blk, off, none⟩) n cap, .int .i64 (A : Int), .int .i64 (n : Int), .func (.func g) #[] cb] wr (Aft enc w0 blk off fun d' => Mgd key dk d' A n) from by
        have := HI.out A n (A : Int) (n : Int) dk wr (by rw [← HN.out]; exact HO.out.1) S1.out rfl rfl (by omega) (by rw [← HN.out]; exact Nat.le_refl _) (by rw [← HN.out]; omega) hF.out
        rw [← HN.out] at this
        exact this)).mono ?_
      rintro e w1 ⟨rfl, d1, Sx, hm⟩
      have S2 : Aside _ := Sx
      have HM := Lib.hid hm
      clear Sx hm S1 hF
      have HB : Hid (d1.size = n ∧ Blks key lab d1 n 20 0 ∧ PermIn 0 n d0 d1) := by
        obtain ⟨z, ⟨Q, hQ, hD⟩, hsame, hp⟩ := HO.out
        have hB : Blk key lab d1 A n := blk_of (n := n) (by omega) (fun t h => LL.out t (by have := HN.out; omega)) (Nat.le_refl _) hsame HM.out
        exact ⟨HM.out.1.1.trans z, blks_end hD (by omega) (by omega) (fun _ => by rw [← hQ]; exact hB) (fun t ht => HM.out.1.2.1 t (.inl (by omega))), permIn_trans _ _ _ _ _ hp (permIn_mono _ _ _ _ _ _ (by omega) (Nat.le_refl _) (by omega) HM.out.1)⟩
      clear HM HO
      go_wp2
      go_loopg [6, 7, 8, 9] n (fun g1 vc _ _ _ wr => ∃ (C : Nat) (dk : Array α), vc = .int .i64 C ∧ 20 ≤ C ∧ C ≤ n + n + 20 ∧ n - C ≤ g1 ∧ Aside (SW enc w0 blk off dk wr) ∧ Hid (dk.size = n ∧ Blks key lab dk n C 0 ∧ PermIn 0 n d0 dk))
      case atStart => exact ⟨20, d1, rfl, by omega, by omega, by omega, S2, HB⟩
      case round =>
        clear S2 HB
        obtain ⟨C, dk, rfl, hC1, hC2, hg2, S2, HB⟩ := hrel
        by_cases hcn : C < n
        · have hcnz : (C : Int) < (n : Int) := by omega
          go_wp2
          go_loopg [7, 8] n (fun g1 va vb wr => ∃ (A : Nat) (dk : Array α), va = .int .i64 A ∧ vb = .int .i64 ((A : Int) + 2 * (C : Int)) ∧ A ≤ n ∧ n - A ≤ g1 ∧ Aside (SW enc w0 blk off dk wr) ∧ Hid (dk.size = n ∧ (∃ Q, A = Q * (2 * C) ∧ Dns key lab dk (2 * C) (Q * (2 * C))) ∧ Blks key lab dk n C A ∧ PermIn 0 n d0 dk))
          case atStart => exact ⟨0, dk, rfl, by first | rfl | (congr 1; omega), by omega, by omega, S2, ⟨HB.out.1, ⟨0, by omega, by rw [Nat.zero_mul]; exact dns_zero key lab dk _ (by omega)⟩, HB.out.2.1, HB.out.2.2⟩⟩
          case round =>
            clear S2 HB
            obtain ⟨A, dk, rfl, rfl, hAn, hg3, S3, HD⟩ := hrel
            have HP : Hid ((A < n → Blk key lab dk A (min (A + C) n)) ∧ (A + C < n → Blk key lab dk (A + C) (min (A + 2 * C) n))) := by
              obtain ⟨z, ⟨Q, hQ, hD⟩, hb, hp⟩ := HD.out
              subst hQ
              exact blks_pair hb
            by_cases hab : A + 2 * C ≤ n
            · have habz : (A : Int) + 2 * (C : Int) ≤ (n : Int) := by omega
              have HQ : Hid (Blk key lab dk A (A + C) ∧ Blk key lab dk (A + C) (A + 2 * C)) := by
                have h1 := HP.out.1 (by omega)
                have h2 := HP.out.2 (by omega)
                rw [Nat.min_eq_left (by omega)] at h1 h2
                exact ⟨h1, h2⟩
              go_wp2_with fail
              refine ((show Calls Try.prog 34 #[.slice (some ⟨blk, off, none⟩) n cap, .int .i64 (A : Int), .int .i64 ((A : Int) + (C : Int)), .int .i64 ((A : Int) + 2 * (C : Int)), .func (.func g) #[] cb] wr (Aft enc w0 blk off fun d' => Mgd key dk d' A (A + 2 * C)) from by
                have := HS.out A (A + C) (A + 2 * C) (A : Int) ((A : Int) + (C : Int)) ((A : Int) + 2 * (C : Int)) dk wr (by rw [← HN.out]; omega) (by rw [← HN.out]; exact HD.out.1) S3.out rfl (by omega) (by omega) (by omega) (by omega) (by rw [← HN.out]; omega) HQ.out.1.1 HQ.out.2.1 (blk_crs KK.out HQ.out.1 HQ.out.2)
                rw [← HN.out] at this
                exact this)).mono ?_
              rintro e w2 ⟨rfl, d2, Sx, hm⟩
              have S4 : Aside _ := Sx
              have HM := Lib.hid hm
              clear Sx hm S3
              go_wp2
              go_roundg (n - (A + 2 * C))
              case measure => omega
              case rel =>
                refine ⟨A + 2 * C, d2, by go_num, by first | go_num | (congr 1; omega), by omega, by omega, S4, ?_⟩
                obtain ⟨z, ⟨Q, hQ, hD⟩, hb, hp⟩ := HD.out
                have hB : Blk key lab d2 A (A + 2 * C) := blk_merge (by omega) HQ.out.1 HQ.out.2 (by omega) (by omega) HM.out
                refine ⟨HM.out.1.1.trans z, ⟨Q + 1, by rw [show (Q + 1) * (2 * C) = Q * (2 * C) + 2 * C from Nat.succ_mul _ _]; omega, dns_step (by omega) hD (by rw [← hQ]; exact hB) (fun t ht => HM.out.1.2.1 t (.inl (by omega)))⟩, blks_mono hb (by omega) (fun t ht => HM.out.1.2.1 t (.inr ht)), permIn_trans _ _ _ _ _ hp (permIn_mono _ _ _ _ _ _ (by omega) hab (by omega) HM.out.1)⟩
            · have habz : ¬ (A : Int) + 2 * (C : Int) ≤ (n : Int) := by omega
              by_cases hmn : A + C < n
              · have hmnz : (A : Int) + (C : Int) < (n : Int) := by omega
                have HQ : Hid (Blk key lab dk A (A + C) ∧ Blk key lab dk (A + C) n) := by
                  have h1 := HP.out.1 (by omega)
                  have h2 := HP.out.2 (by omega)
                  rw [Nat.min_eq_left (by omega)] at h1
                  rw [Nat.min_eq_right (by omega)] at h2
                  exact ⟨h1, h2⟩
                go_wp2_with fail
                refine ((show Calls Try.prog 34 #[.slice (some ⟨blk, off, none⟩) n cap, .int .i64 (A : Int), .int .i64 ((A : Int) + (C : Int)), .int .i64 (n : Int), .func (.func g) #[] cb] wr (Aft enc w0 blk off fun d' => Mgd key dk d' A n) from by
                  have := HS.out A (A + C) n (A : Int) ((A : Int) + (C : Int)) (n : Int) dk wr (by rw [← HN.out]; omega) (by rw [← HN.out]; exact HD.out.1) S3.out rfl (by omega) rfl (by omega) (by omega) (by rw [← HN.out]; omega) HQ.out.1.1 HQ.out.2.1 (blk_crs KK.out HQ.out.1 HQ.out.2)
                  rw [← HN.out] at this
                  exact this)).mono ?_
                rintro e w2 ⟨rfl, d2, Sx, hm⟩
                have S4 : Aside _ := Sx
                have HM := Lib.hid hm
                clear Sx hm S3
                go_wp2
                go_roundg (n - 2 * C)
                case measure => omega
                case rel =>
                  refine ⟨2 * C, d2, by first | go_num | (congr 1; omega), by omega, by omega, by omega, S4, ?_⟩
                  obtain ⟨z, ⟨Q, hQ, hD⟩, hb, hp⟩ := HD.out
                  have hB : Blk key lab d2 A n := blk_merge (by omega) HQ.out.1 HQ.out.2 (by omega) (by omega) HM.out
                  exact ⟨HM.out.1.1.trans z, blks_end hD (by omega) (by omega) (fun _ => by rw [← hQ]; exact hB) (fun t ht => HM.out.1.2.1 t (.inl (by omega))), permIn_trans _ _ _ _ _ hp (permIn_mono _ _ _ _ _ _ (by omega) (Nat.le_refl _) (by omega) HM.out.1)⟩
              · have hmnz : ¬ (A : Int) + (C : Int) < (n : Int) := by omega
                go_wp2
                go_roundg (n - 2 * C)
                case measure => omega
                case rel =>
                  refine ⟨2 * C, dk, by first | go_num | (congr 1; omega), by omega, by omega, by omega, S3, ?_⟩
                  obtain ⟨z, ⟨Q, hQ, hD⟩, hb, hp⟩ := HD.out
                  refine ⟨z, blks_end hD (by omega) (by omega) (fun h => ?_) (fun _ _ => rfl), hp⟩
                  rw [← hQ] at h ⊢
                  have h1 := HP.out.1 h
                  rw [Nat.min_eq_right (by omega)] at h1
                  exact h1
        · have hcnz : ¬ (C : Int) < (n : Int) := by omega
          go_wp2
          go_end0
          refine ⟨rfl, dk, S2.out, HB.out.2.2, ?_⟩
          intro i j p1 p2 p3
          have hb := HB.out.2.1 0 (Nat.zero_le _) (by omega)
          rw [Nat.zero_mul, Nat.zero_add, Nat.min_eq_right (by omega)] at hb
          exact hb.1 i j p1 p2 p3
end Go.Proofs.Ytekiknngiefkbaa
