/- Joined: D18. -/
import Derived.Test.YtdpopdlifcjdeaaDoorYD17

/- Hold: an operation laid into a row: Insert. -/
namespace Go.Proofs.YtdpopdlifcjdeaaDoor
open Go.RowKit Go.Lib
set_option linter.unusedVariables false

def InsPost (base : Nat) (sv : Value) (os : List OpD) (dl : List Value) (x : OpD) (d : Value) (i : Nat) (W0 : World) (e : Ending) (w' : World) : Prop := ∃ tv, e = .returned tv ∧ OwnO w' base tv (os.take i ++ x :: os.drop i) (dl.take i ++ d :: dl.drop i) ∧ W0.grownBy w' sv.ownBlock
set_option maxHeartbeats 4000000 in
set_option maxRecDepth 100000 in
theorem insert_end (base : Nat) (a : Option Addr) (n cap : Nat) (os : List OpD) (dl : List Value) (x : OpD) (da : Option Addr) (dn dc : Nat) (W0 : World) (ho : OwnO W0 base (.slice a n cap) os dl) (hn : n = os.length) (hnc : n ≤ cap) (hl : n ≤ 16) (hbase : base ≤ W0.heap.size) :
    Calls Tryd.prog 45 #[.slice a n cap, .int .i64 (n : Int), .slice (some ⟨W0.heap.size, 0, none⟩) 1 1] (W0.alloc (objO x da dn dc)) (InsPost base (.slice a n cap) os dl x (.slice da dn dc) n W0) := by
  have HO := Lib.hid ho
  have HN := Lib.hid hn
  have hs1 : ∀ W, (Instr.slice 23 (.slice a n cap) (some (.int .i64 (n : Int))) none none).run Tryd.prog W = .ok (.slice (partO a n cap) 0 (cap - n)) W := fun W => by rw [sliceO_l W a n cap n n rfl (Nat.le_refl _), Nat.sub_self]
  clear ho hn
  generalize partO a n cap = pa at *
  generalize cap - n = pc at *
  go_enter Tryd.func45, Tryd.ntmps45
  go_wp2_with (at_builtin
               refine wpO_one rfl _ _ rfl base W0 (.slice a n cap) os dl x.1.t x.1.r x.2 da x.1.ds dn dc x.1.k x.1.nt x.1.nr x.1.pt x.1.pr x.1.s x.1.p x.1.v rfl HO.out _ rfl rfl (by have := HN.out; omega) hbase ?_
               intro v6 w6 hp6
               have HP := Lib.hid hp6
               clear hp6)
  go_ret
  refine ⟨_, rfl, ?_, HP.out.gr⟩
  have h1 := HP.out.own
  have h2 := HO.out.len
  rw [HN.out, List.take_of_length_le (Nat.le_refl _), List.drop_of_length_le (Nat.le_refl _), List.take_of_length_le (by omega), List.drop_of_length_le (by omega)]
  exact h1
theorem grown_setRow (w : World) (g : Nat) (arr : Array Value) : w.grownBy (w.setRow g arr) (some g) := ⟨rfl, rfl, rfl, by simp, fun k hk hne => setRow_other _ _ _ _ (fun e => hne (by rw [e]))⟩
theorem cell_setRow (w : World) (g b o : Nat) (arr : Array Value) (h : b ≠ g) : (w.setRow g arr).cell? ⟨b, o, none⟩ = w.cell? ⟨b, o, none⟩ := by
  unfold World.cell?
  rw [show (w.setRow g arr).heap[(⟨b, o, none⟩ : Addr).block]? = w.heap[(⟨b, o, none⟩ : Addr).block]? from setRow_other _ _ _ _ h]
theorem cell_row {w : World} {g : Nat} {cur : Array Value} (hg : w.heap[g]? = some (.cells cur 32 (0, 0))) (j : Nat) (v : Value) (h : cur.toList[j]? = some v) : w.cell? ⟨g, j, none⟩ = some v := by
  rw [Array.getElem?_toList] at h
  simp [World.cell?, hg, h]
theorem ins_list (l xs ns : List Value) (i n cap : Nat) (hin : i < n) (hroom : n + 1 ≤ cap) (hl : l.length = cap * 12) (hx : l.take (n * 12) = xs) (hns : ns.length = 12) :
    ((l.take ((i + 1) * 12) ++ xs.drop (i * 12) ++ l.drop ((i + 1) * 12 + (xs.drop (i * 12)).length)).take (i * 12) ++ ns ++ (l.take ((i + 1) * 12) ++ xs.drop (i * 12) ++ l.drop ((i + 1) * 12 + (xs.drop (i * 12)).length)).drop (i * 12 + ns.length)).take ((n + 1) * 12) = xs.take (i * 12) ++ ns ++ xs.drop (i * 12) ∧
    ((l.take ((i + 1) * 12) ++ xs.drop (i * 12) ++ l.drop ((i + 1) * 12 + (xs.drop (i * 12)).length)).take (i * 12) ++ ns ++ (l.take ((i + 1) * 12) ++ xs.drop (i * 12) ++ l.drop ((i + 1) * 12 + (xs.drop (i * 12)).length)).drop (i * 12 + ns.length)).length = cap * 12 := by
  have hxl : xs.length = n * 12 := by rw [← hx, List.length_take]; omega
  have e1 : (l.take ((i + 1) * 12) ++ xs.drop (i * 12) ++ l.drop ((i + 1) * 12 + (xs.drop (i * 12)).length)).take (i * 12) = xs.take (i * 12) := by
    rw [List.append_assoc, List.take_append_of_le_length (by rw [List.length_take]; omega), List.take_take, ← hx, List.take_take]
    congr 1
    omega
  have e2 : (l.take ((i + 1) * 12) ++ xs.drop (i * 12) ++ l.drop ((i + 1) * 12 + (xs.drop (i * 12)).length)).drop (i * 12 + ns.length) = xs.drop (i * 12) ++ l.drop ((i + 1) * 12 + (xs.drop (i * 12)).length) := by
    rw [List.append_assoc, show i * 12 + ns.length = (l.take ((i + 1) * 12)).length by rw [List.length_take]; omega, List.drop_left]
  rw [e1, e2]
  constructor
  · rw [← List.append_assoc, List.take_append_of_le_length (by simp; omega), List.take_of_length_le (by simp; omega)]
  · simp
    omega
end Go.Proofs.YtdpopdlifcjdeaaDoor
