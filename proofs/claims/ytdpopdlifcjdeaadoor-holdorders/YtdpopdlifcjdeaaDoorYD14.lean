/- Joined: D14. -/
import Derived.Test.YtdpopdlifcjdeaaDoorYD13
import Derived.Deep.Strs

/- Hold: heavy; scripts opened. -/
namespace Go.Proofs.YtdpopdlifcjdeaaDoor
open Go.ChangeShapes Go.WideShapes Go.ChangeAt Go.RowKit Go.Deep Go.Lib
set_option linter.unusedVariables false

/-- what a script's rows are -/
structure ScR (w : World) (va : Option Addr) (v : List Int) (vn vc : Nat) (ha : Option Addr) (hs : List OpD) (hn hc : Nat) (la : Option Addr) (ls : List OpD) (ln lc : Nat) : Prop where
  rv : RowK .i64 w va v
  vl : vn = v.length
  vm : v.length ≤ 17592186044416
  vk : vn ≤ vc
  rh : RowO w ha hs
  hl : hn = hs.length
  hm : hs.length * 120 ≤ 140737488355328
  hk : hn ≤ hc
  rl : RowO w la ls
  ll : ln = ls.length
  lm : ls.length * 120 ≤ 140737488355328
  lk : ln ≤ lc
theorem ScR.below {w w' : World} {va : Option Addr} {v : List Int} {vn vc : Nat} {ha : Option Addr} {hs : List OpD} {hn hc : Nat} {la : Option Addr} {ls : List OpD} {ln lc : Nat} (h : ScR w va v vn vc ha hs hn hc la ls ln lc) (hb : Below w.heap.size w w') : ScR w' va v vn vc ha hs hn hc la ls ln lc :=
  ⟨h.rv.below hb (Nat.le_refl _), h.vl, h.vm, h.vk, h.rh.below hb, h.hl, h.hm, h.hk, h.rl.below hb, h.ll, h.lm, h.lk⟩
/-- a script's three cells -/
abbrev scO (va : Option Addr) (vn vc : Nat) (ha : Option Addr) (hn hc : Nat) (la : Option Addr) (ln lc : Nat) : Obj := .cells #[.slice va vn vc, .slice ha hn hc, .slice la ln lc] 25
structure ScAt (w : World) (b : Nat) (va : Option Addr) (vn vc : Nat) (ha : Option Addr) (hn hc : Nat) (la : Option Addr) (ln lc : Nat) : Prop where
  c0 : w.cell? ⟨b, 0, none⟩ = some (.slice va vn vc)
  c1 : w.cell? ⟨b, 1, none⟩ = some (.slice ha hn hc)
  c2 : w.cell? ⟨b, 2, none⟩ = some (.slice la ln lc)
theorem ScAt.lt {w : World} {b : Nat} {va : Option Addr} {vn vc : Nat} {ha : Option Addr} {hn hc : Nat} {la : Option Addr} {ln lc : Nat} (h : ScAt w b va vn vc ha hn hc la ln lc) : b < w.heap.size := World.block_lt_of_cell? _ _ h.c0
theorem ScAt.below {w w' : World} {b B : Nat} {va : Option Addr} {vn vc : Nat} {ha : Option Addr} {hn hc : Nat} {la : Option Addr} {ln lc : Nat} (h : ScAt w b va vn vc ha hn hc la ln lc) (hb : Below B w w') (hB : b < B) : ScAt w' b va vn vc ha hn hc la ln lc :=
  ⟨(hb.cell (p := ⟨b, 0, none⟩) hB).trans h.c0, (hb.cell (p := ⟨b, 1, none⟩) hB).trans h.c1, (hb.cell (p := ⟨b, 2, none⟩) hB).trans h.c2⟩
theorem ScAt.next {w w' : World} {b : Nat} {va : Option Addr} {vn vc : Nat} {ha : Option Addr} {hn hc : Nat} {la : Option Addr} {ln lc : Nat} (h : ScAt w b va vn vc ha hn hc la ln lc) (hb : Below w.heap.size w w') : ScAt w' b va vn vc ha hn hc la ln lc := h.below hb h.lt
theorem ScAt.new (w : World) (va : Option Addr) (vn vc : Nat) (ha : Option Addr) (hn hc : Nat) (la : Option Addr) (ln lc : Nat) : ScAt (w.alloc (scO va vn vc ha hn hc la ln lc)) w.heap.size va vn vc ha hn hc la ln lc := ⟨by simp, by simp, by simp⟩

def SomeBool (w : World) (e : Ending) (w' : World) : Prop := ∃ b : Bool, e = .returned (.bool b) ∧ Below w.heap.size w w'
set_option maxHeartbeats 2000000 in
theorem heavy14_any (va : Option Addr) (v : List Int) (vn vc : Nat) (ha : Option Addr) (hs : List OpD) (hn hc : Nat) (la : Option Addr) (ls : List OpD) (ln lc : Nat) (w : World) (h : ScR w va v vn vc ha hs hn hc la ls ln lc) :
    Calls Tryd.prog 8 #[.agg #[.slice va vn vc, .slice ha hn hc, .slice la ln lc]] w (SomeBool w) := by
  have mixed : Tryd.prog.follows .mixedOrders = true := by kernel_rfl
  have HB := Lib.hid (box_bel w (scO va vn vc ha hn hc la ln lc))
  obtain ⟨c0, c1, c2⟩ := ScAt.new w va vn vc ha hn hc la ln lc
  have g0 := cell_regrown c0
  have g1 := cell_regrown c1
  have g2 := cell_regrown c2
  obtain ⟨y, hy⟩ : ∃ y, wtO hs = y := ⟨_, rfl⟩
  obtain ⟨z, hz⟩ : ∃ z, wtO ls = z := ⟨_, rfl⟩
  have hR := h.below (box_bel w (scO va vn vc ha hn hc la ln lc))
  have x1 : St.RegrownTo (w.alloc (scO va vn vc ha hn hc la ln lc)) 31 #[.slice ha hn hc] (.int .i64 y) := regrown_at fun W' hb => opsWeight_is ha hs hn hc W' (hR.rh.below hb) hR.hl hR.hm y hy
  have x2 : St.RegrownTo (w.alloc (scO va vn vc ha hn hc la ln lc)) 31 #[.slice la ln lc] (.int .i64 z) := regrown_at fun W' hb => opsWeight_is la ls ln lc W' (hR.rl.below hb) hR.ll hR.lm z hz
  clear c0 c1 c2 hy hz hR h
  obtain ⟨d, hd⟩ : ∃ d, decide (5000 < wrap64 (wrap64 ((vn : Int) + y) + z)) = d := ⟨_, rfl⟩
  go_enter Tryd.func8, Tryd.ntmps8
  go_wp2_with fail
  refine wp_region_quiet_below (by assumption) (by kernel_rfl) ?_
  generalize w.alloc (scO va vn vc ha hn hc la ln lc) = W at *
  generalize hg : w.heap.size = g at x1 x2 g0 g1 g2 ⊢
  clear hg
  repeat (go_big_quiet_step ((first | (go_at_call 31; with_reducible exact x1 _ _) | (go_at_call 31; with_reducible exact x2 _ _))))
  refine wpQuiet_nil ?_
  intro _ hw'
  obtain ⟨⟨dq, osq⟩, hw''⟩ := hw'
  subst hw''
  go_wp2
  go_ret
  exact ⟨_, rfl, HB.out.trans ((below_regrown _ dq osq).mono HB.out.size)⟩

set_option maxHeartbeats 1000000 in
theorem script_open {H : Type} {enc : TypeId × Value → H} {w : World} {cs : Array Value} {d : DataW H} {p : List MemPlace} (hcs : cs.size = Tryd.prog.cellsOf 25) (h : DataW.Trod enc Tryd.prog w 0 (fun _ => true) true 25 (.agg cs) d p)
    (hs : ∀ n ∈ d.weights Tryd.prog 25, n ≤ reachBytes) : ∃ va v vn vc ha hs hn hc la ls ln lc, cs = #[.slice va vn vc, .slice ha hn hc, .slice la ln lc] ∧ ScR w va v vn vc ha hs hn hc la ls ln lc := by
  obtain ⟨fuel, hf⟩ := h
  have hC : Tryd.prog.cellsOf 25 = 3 := by kernel_rfl
  rw [hC] at hcs
  obtain ⟨l⟩ := cs
  match l, hcs with
  | [d0, d1, d2], _ =>
    have hf2 : DataW.trod enc Tryd.prog w 0 (fun _ => true) true fuel 25 [d0, d1, d2] = some (d, p) := by simpa [Value.cells] using hf
    obtain ⟨ys, n', _, hD, _, hyl, hf'⟩ := DataW.trod_struct Tryd.underlying25 hf2
    have f0 : DataW.trod enc Tryd.prog w 0 (fun _ => true) true n' 22 (([d0, d1, d2].drop 0).take (Tryd.prog.cellsOf 22)) = ys[0]? := hf' 0 _ rfl
    have f1 : DataW.trod enc Tryd.prog w 0 (fun _ => true) true n' 23 (([d0, d1, d2].drop 1).take (Tryd.prog.cellsOf 23)) = ys[1]? := hf' 1 _ rfl
    have f2 : DataW.trod enc Tryd.prog w 0 (fun _ => true) true n' 23 (([d0, d1, d2].drop 2).take (Tryd.prog.cellsOf 23)) = ys[2]? := hf' 2 _ rfl
    rw [show Tryd.prog.cellsOf 22 = 1 from by kernel_rfl] at f0
    rw [show Tryd.prog.cellsOf 23 = 1 from by kernel_rfl] at f1 f2
    have hy0 : ys[0]? = some (ys[0]'(by simp at hyl; omega)) := List.getElem?_eq_getElem _
    rw [hy0] at f0
    have hy1 : ys[1]? = some (ys[1]'(by simp at hyl; omega)) := List.getElem?_eq_getElem _
    rw [hy1] at f1
    have hy2 : ys[2]? = some (ys[2]'(by simp at hyl; omega)) := List.getElem?_eq_getElem _
    rw [hy2] at f2
    simp only [List.drop_zero, List.drop_succ_cons, List.take_succ_cons, List.take_zero] at f0 f1 f2
    have hxd : d = .agg (ys.map (·.1)) := by have := congrArg Prod.fst hD; exact this
    have hw : ∀ (j t : Nat) (y : DataW H), Tryd.prog.fieldsOf 25 = Tryd.prog.fieldsOf 25 → True := fun _ _ _ _ => trivial
    have hw0 : ∀ n ∈ (ys[0]'(by simp at hyl; omega)).1.weights Tryd.prog 22, n ≤ reachBytes := by
      intro n hn
      apply hs
      rw [hxd]
      simp only [DataW.weights, Tryd.underlying25]
      exact DataW.weights_mem_each (j := 0) (t := 22) (d := (ys[0]'(by simp at hyl; omega)).1) rfl (by rw [List.getElem?_map, hy0]; rfl) n hn
    have hw1 : ∀ n ∈ (ys[1]'(by simp at hyl; omega)).1.weights Tryd.prog 23, n ≤ reachBytes := by
      intro n hn
      apply hs
      rw [hxd]
      simp only [DataW.weights, Tryd.underlying25]
      exact DataW.weights_mem_each (j := 1) (t := 23) (d := (ys[1]'(by simp at hyl; omega)).1) rfl (by rw [List.getElem?_map, hy1]; rfl) n hn
    have hw2 : ∀ n ∈ (ys[2]'(by simp at hyl; omega)).1.weights Tryd.prog 23, n ≤ reachBytes := by
      intro n hn
      apply hs
      rw [hxd]
      simp only [DataW.weights, Tryd.underlying25]
      exact DataW.weights_mem_each (j := 2) (t := 23) (d := (ys[2]'(by simp at hyl; omega)).1) rfl (by rw [List.getElem?_map, hy2]; rfl) n hn
    obtain ⟨va, v, vc, rfl, a1, a2, a3⟩ := rowI_open_sized f0 hw0
    obtain ⟨ha, hs, hc, rfl, b1, b2, b3⟩ := ops_open f1 hw1
    obtain ⟨la, ls, lc, rfl, e1, e2, e3⟩ := ops_open f2 hw2
    exact ⟨va, v, _, vc, ha, hs, _, hc, la, ls, _, lc, rfl, a1, rfl, a3, a2, b1, rfl, b3, b2, e1, rfl, e3, e2⟩
end Go.Proofs.YtdpopdlifcjdeaaDoor
