/- What is read of an ask, in a world; a new row of a known length. -/
import Derived.Test.YtponpbcchfbkpaaH7
namespace Go.Proofs.Ytponpbcchfbkpaa
open Go.RowKit Go.Lib
set_option linter.unusedVariables false

structure PS (w W : World) (gp : Nat) (al : Option Addr) (nl cl : Nat) (ls : List Int) (am : Option Addr) (nm cm : Nat) (ms : List Int) (ax : Option Addr) (nx cx : Nat) (xs : List Int) : Prop where
  ask : AskAt W gp 0 al nl cl am nm cm ax nx cx
  rows : AskRows W al ls cl am ms cm ax xs cx
  bel : Below w.heap.size w W
section
variable {w W W' : World} {gp : Nat} {al : Option Addr} {nl cl : Nat} {ls : List Int} {am : Option Addr} {nm cm : Nat} {ms : List Int} {ax : Option Addr} {nx cx : Nat} {xs : List Int}
theorem PS.below (h : PS w W gp al nl cl ls am nm cm ms ax nx cx xs) (hb : Below W.heap.size W W') : PS w W' gp al nl cl ls am nm cm ms ax nx cx xs :=
  ⟨h.ask.below hb h.ask.lt, h.rows.below hb, h.bel.trans (hb.mono h.bel.size)⟩
theorem PS.drewN (h : PS w W gp al nl cl ls am nm cm ms ax nx cx xs) (k : Nat) : PS w (W.drewN k) gp al nl cl ls am nm cm ms ax nx cx xs :=
  ⟨⟨h.ask.c0, h.ask.c1, h.ask.c2⟩, ⟨h.rows.rl, h.rows.rm, h.rows.rx⟩, below_drewN h.bel k⟩
theorem PS.drew (h : PS w W gp al nl cl ls am nm cm ms ax nx cx xs) : PS w W.drew gp al nl cl ls am nm cm ms ax nx cx xs :=
  ⟨⟨h.ask.c0, h.ask.c1, h.ask.c2⟩, ⟨h.rows.rl, h.rows.rm, h.rows.rx⟩, h.bel.drew⟩
end
theorem ask_new (W : World) (al am ax : Option Addr) (nl cl nm cm nx cx : Nat) : AskAt (W.alloc (.cells #[.slice al nl cl, .slice am nm cm, .slice ax nx cx] 26)) W.heap.size 0 al nl cl am nm cm ax nx cx :=
  ⟨by simp, by simp, by simp⟩
theorem PS.new {w W W1 : World} {al am ax : Option Addr} {nl cl nm cm nx cx : Nat} {ls ms xs : List Int} (hb : Below w.heap.size w W) (hr : AskRows W al ls cl am ms cm ax xs cx) (h1 : Below (W.alloc (.cells #[.slice al nl cl, .slice am nm cm, .slice ax nx cx] 26)).heap.size (W.alloc (.cells #[.slice al nl cl, .slice am nm cm, .slice ax nx cx] 26)) W1) : PS w W1 W.heap.size al nl cl ls am nm cm ms ax nx cx xs :=
  ⟨(ask_new W al am ax nl cl nm cm nx cx).below h1 (by simp), (hr.below ((Below.refl W.heap.size W).alloc (Nat.le_refl _) _)).below h1, (hb.alloc hb.size _).trans (h1.mono (by have := hb.size; simp; omega))⟩
theorem OwnK.at {kd : IntKind} {e : TypeId} {w : World} {base : Nat} {v : Value} {zs : List Int} {n : Nat} (h : OwnK kd e w base v zs) (hn : zs.length = n) : ∃ a c, v = .slice a n c ∧ RowK kd w a zs ∧ n ≤ c := by
  obtain ⟨a, c, e', hr, hc, _⟩ := h.form
  subst hn
  exact ⟨a, c, e', hr, hc⟩
theorem quiet_left {P : Program} {f : FuncId} {args : Array Value} {w : World} {n : Nat} {v : Value}
    (h : Calls P f args (w.drewN n) fun e w' => e = .returned v ∧ w.drewN n = w') : Calls P f args (w.drewN n) fun e w'' => e = .returned v ∧ ∃ m, w'' = w.drewN m :=
  h.mono fun _ _ ⟨he, hm⟩ => ⟨he, n, hm.symm⟩
theorem sum_take (xs : List Int) (k : Nat) (h : k < xs.length) : (xs.take (k + 1)).sum = (xs.take k).sum + xs.getD k 0 := by
  rw [take_getD xs k h, List.sum_append]; simp
theorem sum_take_bd {xs : List Int} (h : vecB xs = true) (k : Nat) : 0 ≤ (xs.take k).sum ∧ (xs.take k).sum ≤ 17592186044416 := by
  have h1 := sum_le (xs.take k) 1099511627776 (fun z hz => vec_mem h z (List.mem_of_mem_take hz))
  have h2 := vecB_len h
  rw [List.length_take] at h1
  omega
theorem sum_vec_bd {xs : List Int} (h : vecB xs = true) : 0 ≤ xs.sum ∧ xs.sum ≤ 17592186044416 := by
  have := sum_take_bd h xs.length
  rw [List.take_length] at this
  exact this
def zeroB (l : List Int) : Bool := l.all (· == 0)
theorem zeroB_take (xs : List Int) (k : Nat) (h : k < xs.length) : zeroB (xs.take (k + 1)) = (zeroB (xs.take k) && (xs.getD k 0 == 0)) := by
  unfold zeroB
  rw [take_getD xs k h, List.all_append]
  simp
theorem zeroB_covers {l m : List Int} (h : pairB l m = true) : zeroB (lackL l m) = coversB l m := by
  unfold zeroB coversB
  rw [Bool.eq_iff_iff, List.all_eq_true, beq_iff_eq, sum_zero _ (fun z hz => (vec_mem (lackL_vec h) z hz).1)]
  simp
theorem join_sum : ∀ (l m : List Int), l.length = m.length → (joinL l m).sum = l.sum + (lackL l m).sum
  | [], [], _ => by simp [joinL, lackL]
  | [], _ :: _, h => by simp at h
  | _ :: _, [], h => by simp at h
  | x :: l, y :: m, h => by
    have := join_sum l m (by simpa using h)
    unfold joinL lackL at this ⊢
    rw [List.zipWith_cons_cons, List.zipWith_cons_cons, List.sum_cons, List.sum_cons, List.sum_cons, this]
    omega
theorem lack_join {l m : List Int} (h : l.length = m.length) {k : Nat} (hk : k < l.length) : (lackL (joinL l m) m).getD k 0 = 0 := by
  rw [lackL_at (by rw [joinL_len h, h]) (by rw [joinL_len h]; exact hk), joinL_at h hk]
  omega
end Go.Proofs.Ytponpbcchfbkpaa
