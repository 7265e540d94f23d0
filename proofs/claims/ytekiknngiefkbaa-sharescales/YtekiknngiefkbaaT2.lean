/- Two neighbouring ranges change places. -/
import Derived.Test.YtekiknngiefkbaaRows
import Derived.Test.YtekiknngiefkbaaT1
import Derived.WalkKit
import Derived.Shelf.SlSortCmp.Kit1
import Derived.Sort.WalkA
import Derived.Sort.WalkB2
import Derived.Sort.WalkB12
import Derived.Deep.LoopGhost
import Derived.Lib.Hide
import Derived.IntWalk
namespace Go.Proofs.Ytekiknngiefkbaa
open Go.Shelf Go.RowKit Go.Lib Go.Sort Go.Proofs
variable {α : Type} [Inhabited α]

set_option maxHeartbeats 4000000 in
set_option maxRecDepth 100000 in
theorem rotate_any (enc : α → Value) (cv : Value) (blk off cap a m b : Nat) (za zm zb : Int) (d0 d : Array α) (w0 w : World) (R : Row1 enc w0 blk off d0) (hs : d0.size = d.size) (S : SW enc w0 blk off d w)
    (ha : za = a) (hzm : zm = m) (hzb : zb = b) (ham : a < m) (hmb : m < b) (hb : b ≤ d.size) (hsz : d.size < 4611686018427387904) :
    Calls Try.prog 35 #[.slice (some ⟨blk, off, none⟩) d.size cap, .int .i64 za, .int .i64 zm, .int .i64 zb, cv] w (Aft enc w0 blk off fun d' => Rot d d' a m b ∧ PermIn a b d d') := by
  subst ha hzm hzb
  have S0 : Aside (SW enc w0 blk off d w) := S
  clear S
  go_enter Try.func35, Try.ntmps35
  go_wp2
  go_loopg [10, 11] (b - a) (fun g1 vi vj wr => ∃ (i j : Nat) (dk : Array α), vi = .int .i64 i ∧ vj = .int .i64 j ∧ 0 < i ∧ 0 < j ∧ i + a ≤ m ∧ m + j ≤ b ∧ i + j ≤ g1 ∧ dk.size = d.size ∧ Aside (SW enc w0 blk off dk wr) ∧ Hid ((∀ X, Rot dk X (m - i) m (m + j) → Rot d X a m b) ∧ PermIn a b d dk))
  case atStart => exact ⟨m - a, b - m, d, by congr 1; omega, by congr 1; omega, by omega, by omega, by omega, by omega, by omega, rfl, S0, ⟨fun X h => by rw [show m - (m - a) = a by omega, show m + (b - m) = b by omega] at h; exact h, permIn_refl d _ _⟩⟩
  case round =>
    clear S0
    obtain ⟨i, j, dk, rfl, rfl, hi0, hj0, hia, hjb, hg1, hsk, S1, HO⟩ := hrel
    have hsk1 : dk.size ≤ d.size := by omega
    have hsk2 : d.size ≤ dk.size := by omega
    have HSK := Lib.hid hsk
    clear hsk
    rcases Nat.lt_trichotomy i j with hij | hij | hij
    · have t1 : ((i : Int) != (j : Int)) = true := by rw [bne_iff_ne]; omega
      have t2 : ((i : Int) == (j : Int)) = false := beq_eq_false_iff_ne.2 (by omega)
      have t3 : ¬ (j : Int) < (i : Int) := by omega
      go_wp2_with fail
      refine ((HSK.out ▸ swapRange_any enc cv blk off cap (m - i) (m + j - i) i _ _ _ d0 dk w0 wr R (by have := HSK.out; omega) S1.out (by omega) (by omega) (by omega) (by omega) (by omega) (by omega)) : Calls Try.prog 36 #[.slice (some ⟨blk, off, none⟩) d.size cap, .int .i64 ((m : Int) - (i : Int)), .int .i64 ((m : Int) + (j : Int) - (i : Int)), .int .i64 (i : Int), cv] wr (Aft enc w0 blk off fun d' => Swr dk d' (m - i) (m + j - i) i ∧ PermIn (m - i) (m + j - i + i) dk d')).mono ?_
      rintro e w1 ⟨rfl, d1, S2, hw, hp⟩
      have S3 : Aside _ := S2
      have HW := Lib.hid hw
      have HP := Lib.hid hp
      clear S2 hw hp S1
      go_wp2
      go_roundg (i + (j - i))
      case measure => omega
      case rel => exact ⟨i, j - i, d1, rfl, by congr 1; omega, hi0, by omega, hia, by omega, by omega, HW.out.1.trans HSK.out, S3, ⟨fun X hX => HO.out.1 X (rot_right HW.out (by omega) hij hX), permIn_trans _ _ _ _ _ HO.out.2 (permIn_mono _ _ _ _ _ _ (by omega) (by omega) (by omega) HP.out)⟩⟩
    · have t1 : ((i : Int) != (j : Int)) = false := by rw [bne_eq_false_iff_eq]; omega
      have t2 : ((i : Int) == (j : Int)) = true := beq_iff_eq.2 (by omega)
      have hij1 : i ≤ j := by omega
      have hij2 : j ≤ i := by omega
      have HIJ := Lib.hid hij
      clear hij
      go_wp2_with fail
      refine ((HSK.out ▸ swapRange_any enc cv blk off cap (m - i) m i _ _ _ d0 dk w0 wr R (by have := HSK.out; omega) S1.out (by omega) (by omega) (by omega) (by omega) (by omega) (by omega)) : Calls Try.prog 36 #[.slice (some ⟨blk, off, none⟩) d.size cap, .int .i64 ((m : Int) - (i : Int)), .int .i64 (m : Int), .int .i64 (i : Int), cv] wr (Aft enc w0 blk off fun d' => Swr dk d' (m - i) m i ∧ PermIn (m - i) (m + i) dk d')).mono ?_
      rintro e w1 ⟨rfl, d1, S2, hw, hp⟩
      have S3 : Aside _ := S2
      have HW := Lib.hid hw
      have HP := Lib.hid hp
      clear S2 hw hp S1
      go_wp2
      go_end0
      have hij := HIJ.out
      subst hij
      exact ⟨rfl, d1, S3.out, HO.out.1 _ (rot_swr HW.out (by omega)), permIn_trans _ _ _ _ _ HO.out.2 (permIn_mono _ _ _ _ _ _ (by omega) (by omega) (by omega) HP.out)⟩
    · have t1 : ((i : Int) != (j : Int)) = true := by rw [bne_iff_ne]; omega
      have t2 : ((i : Int) == (j : Int)) = false := beq_eq_false_iff_ne.2 (by omega)
      have t3 : (j : Int) < (i : Int) := by omega
      go_wp2_with fail
      refine ((HSK.out ▸ swapRange_any enc cv blk off cap (m - i) m j _ _ _ d0 dk w0 wr R (by have := HSK.out; omega) S1.out (by omega) (by omega) (by omega) (by omega) (by omega) (by omega)) : Calls Try.prog 36 #[.slice (some ⟨blk, off, none⟩) d.size cap, .int .i64 ((m : Int) - (i : Int)), .int .i64 (m : Int), .int .i64 (j : Int), cv] wr (Aft enc w0 blk off fun d' => Swr dk d' (m - i) m j ∧ PermIn (m - i) (m + j) dk d')).mono ?_
      rintro e w1 ⟨rfl, d1, S2, hw, hp⟩
      have S3 : Aside _ := S2
      have HW := Lib.hid hw
      have HP := Lib.hid hp
      clear S2 hw hp S1
      go_wp2
      go_roundg (i - j + j)
      case measure => omega
      case rel => exact ⟨i - j, j, d1, by congr 1; omega, rfl, by omega, hj0, by omega, by omega, by omega, HW.out.1.trans HSK.out, S3, ⟨fun X hX => HO.out.1 X (rot_left HW.out (by omega) hij hX), permIn_trans _ _ _ _ _ HO.out.2 (permIn_mono _ _ _ _ _ _ (by omega) (by omega) (by omega) HP.out)⟩⟩
end Go.Proofs.Ytekiknngiefkbaa
