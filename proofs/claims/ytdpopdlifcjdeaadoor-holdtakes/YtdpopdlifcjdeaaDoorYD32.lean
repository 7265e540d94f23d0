/- Joined: D32. -/
import Derived.Test.YtdpopdlifcjdeaaDoorYD30

/- Hold: HoldTakes' walk. -/
namespace Go.Proofs.YtdpopdlifcjdeaaDoor
open Go.RowKit Go.Lib
set_option linter.unusedVariables false

theorem sliceO_lh (w : World) (a : Option Addr) (len cap l h : Nat) (zl zh : Int) (el : zl = (l : Int)) (eh : zh = (h : Int)) (h1 : l ≤ h) (h2 : h ≤ cap) :
    (Instr.slice 23 (.slice a len cap) (some (.int .i64 zl)) (some (.int .i64 zh)) none).run Tryd.prog w = .ok (.slice (partO a l cap) (h - l) (cap - l)) w := by
  subst el; subst eh
  have ht' : Tryd.prog.underlying 23 = some (.slice (Tryd.prog.elem 23)) := by simp [Program.elem, Tryd.underlying23]
  have he : Tryd.prog.elem 23 = 32 := by simp [Program.elem, Tryd.underlying23]
  rw [run_slice_lh w 23 _ _ _ ht' .i64 .i64 _ _ (by omega) (by omega) (by omega), he, size32]
  simp [Result.andThen, sliced, partO]
theorem one_of {ls : List OpD} {i : Nat} {x : OpD} (h : ls[i]? = some x) : (ls.drop i).take 1 = [x] := by
  obtain ⟨hi, rfl⟩ := List.getElem?_eq_some_iff.1 h
  rw [List.drop_eq_getElem_cons hi]
  rfl
set_option maxHeartbeats 4000000 in
set_option maxRecDepth 100000 in
theorem holdTakes_walk (va : Option Addr) (v : List Int) (vn vc : Nat) (ha : Option Addr) (hs : List OpD) (hn hc : Nat) (la : Option Addr) (ls : List OpD) (ln lc : Nat) (w : World) (ht : Pr.Tab w) (h : ScR w va v vn vc ha hs hn hc la ls ln lc) :
    Calls Tryd.prog 7 #[.agg #[.slice va vn vc, .slice ha hn hc, .slice la ln lc]] w (BoolPost w true) := by
  have mixed : Tryd.prog.follows .mixedOrders = true := by kernel_rfl
  have HR := Lib.hid h
  have HTW := Lib.hid (fun W (hb : Below w.heap.size w W) => ht.below hb ht.lt)
  clear h ht
  go_enter Tryd.func7, Tryd.ntmps7
  have HBT := Lib.hid (box_bel w (scO va vn vc ha hn hc la ln lc))
  have HSC := Lib.hid (ScAt.new w va vn vc ha hn hc la ln lc)
  have CH := Lib.hid (heavy14_any va v vn vc ha hs hn hc la ls ln lc _ (HR.out.below (box_bel w (scO va vn vc ha hn hc la ln lc))))
  go_wp2_with fail
  refine (CH.out).mono ?_
  rintro e w0 ⟨hvb, rfl, hb0⟩
  have HS0 := Lib.hid (HSC.out.next hb0)
  have HB0 := Lib.hid (HBT.out.trans (hb0.mono HBT.out.size))
  clear hb0 CH HSC HBT
  generalize hg : w.heap.size = g at HS0 ⊢
  clear hg
  cases hvb
  · obtain ⟨s0, s1, s2⟩ := HS0.out
    have HKB : Hid (∀ W, Below w0.heap.size w0 W → Below w.heap.size w W) := fun W hb => HB0.out.trans (hb.mono HB0.out.size)
    go_wp2_with fail
    clear s0 s1 s2
    go_loopg [3, 4] 25 (fun g1 s3 _ wr => ∃ i : Nat, s3 = .int .i64 i ∧ i ≤ 25 ∧ 25 - i ≤ g1 ∧ Hid (Below w0.heap.size w0 wr))
    case atStart => exact ⟨0, rfl, by omega, by omega, Below.refl _ _⟩
    case round =>
      obtain ⟨i, rfl, hi25, hg1, HB⟩ := hrel
      obtain ⟨s0, s1, s2⟩ := HS0.out.next HB.out
      by_cases hin : i < ln
      · have hinz : decide ((i : Int) < (ln : Int)) = true := decide_eq_true (by omega)
        have hiny : (i : Int) < (ln : Int) := by omega
        by_cases hi : i < 25
        · have hiz : decide ((i : Int) < 25) = true := decide_eq_true (by omega)
          have hiy : (i : Int) < 25 := by omega
          have hlc : ln ≤ lc := HR.out.lk
          obtain ⟨x, hx⟩ : ∃ x, ls[i]? = some x := ⟨_, List.getElem?_eq_getElem (by rw [← HR.out.ll]; exact hin)⟩
          have hsl : ∀ W, (Instr.slice 23 (.slice la ln lc) (some (.int .i64 (i : Int))) (some (.int .i64 ((i : Int) + 1))) none).run Tryd.prog W = .ok (.slice (partO la i lc) 1 (lc - i)) W := fun W => by
            have := sliceO_lh W la ln lc i (i + 1) i ((i : Int) + 1) rfl (by omega) (by omega) (by omega)
            rw [show i + 1 - i = 1 by omega] at this
            exact this
          have HBX := Lib.hid (box_bel wr (scO va vn vc ha hn hc (partO la i lc) 1 (lc - i)))
          have HB1 := Lib.hid (HB.out.trans (HBX.out.mono HB.out.size))
          have HRX : Hid (∀ W, Below w.heap.size w W → ScR W va v vn vc ha hs hn hc (partO la i lc) [x] 1 (lc - i)) := fun W hb => by
            have hr := HR.out.below hb
            have hrow := (hr.rl.rest i lc (by rw [← hr.ll]; exact hr.lk)).first 1
            rw [one_of hx] at hrow
            exact ⟨hr.rv, hr.vl, hr.vm, hr.vk, hr.rh, hr.hl, hr.hm, hr.hk, hrow, rfl, by simp, by omega⟩
          have C := Lib.hid (fun W (hb : Below w.heap.size w W) => holdExact_walk va v vn vc ha hs hn hc (partO la i lc) [x] 1 (lc - i) W (HTW.out W hb) (HRX.out W hb))
          have hw1 : IntKind.i64.wrap ((i : Int) + 1) = (i : Int) + 1 := IntWalk.i64_in _ (by omega)
          have hw2 : wrap64 ((i : Int) + 1) = (i : Int) + 1 := IntWalk.wrap64_in _ (by omega)
          obtain ⟨t0, t1, t2⟩ := HS0.out.next (HB.out.trans ((box_bel wr (scO va vn vc ha hn hc la ln lc)).mono HB.out.size))
          clear hx HRX
          generalize partO la i lc = pa at *
          generalize lc - i = c9 at *
          go_wp2_with fail
          refine (C.out _ (HKB.out _ HB1.out)).mono ?_
          rintro e w2 ⟨rfl, hb⟩
          have HB2 := Lib.hid (HB1.out.trans (hb.mono HB1.out.size))
          clear hb C hsl s0 s1 s2 t0 t1 t2
          go_wp2_with fail
          go_roundg (25 - (i + 1))
          case measure => omega
          case rel => exact ⟨i + 1, by go_num, by omega, by omega, HB2.out⟩
        · have hiz : decide ((i : Int) < 25) = false := decide_eq_false (by omega)
          have hiy : ¬ (i : Int) < 25 := by omega
          go_wp2_with fail
          refine (wakes14_any wr (HTW.out wr (HKB.out wr HB.out))).mono ?_
          rintro e w9 ⟨rfl, hb9⟩
          have HB9 := Lib.hid ((HKB.out wr HB.out).trans (hb9.mono (HKB.out wr HB.out).size))
          clear hb9
          go_wp2
          go_ret
          exact ⟨rfl, HB9.out⟩
      · have hinz : decide ((i : Int) < (ln : Int)) = false := decide_eq_false (by omega)
        have hiny : ¬ (i : Int) < (ln : Int) := by omega
        go_wp2_with fail
        refine (wakes14_any wr (HTW.out wr (HKB.out wr HB.out))).mono ?_
        rintro e w9 ⟨rfl, hb9⟩
        have HB9 := Lib.hid ((HKB.out wr HB.out).trans (hb9.mono (HKB.out wr HB.out).size))
        clear hb9
        go_wp2
        go_ret
        exact ⟨rfl, HB9.out⟩
  · go_wp2
    go_ret
    exact ⟨rfl, HB0.out⟩
end Go.Proofs.YtdpopdlifcjdeaaDoor
