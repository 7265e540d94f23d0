/- Joined: D19. -/
import Derived.Test.YtdpopdlifcjdeaaDoorYD18

/- Hold: an operation laid into a row: Insert where there is room. -/
namespace Go.Proofs.YtdpopdlifcjdeaaDoor
open Go.RowKit Go.Lib
set_option linter.unusedVariables false

theorem grown_setRow_drew (w : World) (g : Nat) (arr : Array Value) : w.grownBy (w.drew.setRow g arr) (some g) := ⟨rfl, rfl, rfl, by simp, fun k hk hne => setRow_other _ _ _ _ (fun e => hne (by rw [e]))⟩
theorem cellsO_one : ∀ {os : List OpD} {dl : List Value}, (∀ d ∈ dl, d.oneCell' = true) → ∀ u ∈ cellsO os dl, u.oneCell' = true
  | [], _, _, u, h => by simp [cellsO] at h
  | _ :: _, [], _, u, h => by simp [cellsO] at h
  | y :: os, e :: dl, hd, u, h => by
    rw [cellsO, List.mem_append] at h
    rcases h with h | h
    · simp only [OpR.cells, List.mem_cons, List.not_mem_nil, or_false] at h
      rcases h with rfl | rfl | rfl | rfl | rfl | rfl | rfl | rfl | rfl | rfl | rfl | rfl
      all_goals first | rfl | exact hd _ (List.mem_cons_self ..)
    · exact cellsO_one (fun d hd' => hd d (List.mem_cons_of_mem _ hd')) u h
set_option maxHeartbeats 4000000 in
set_option maxRecDepth 100000 in
theorem insert_room (base : Nat) (g n cap i : Nat) (os : List OpD) (dl : List Value) (x : OpD) (da : Option Addr) (dn dc : Nat) (W0 : World) (ho : OwnO W0 base (.slice (some ⟨g, 0, none⟩) n cap) os dl) (hin : i < n) (hroom : n + 1 ≤ cap) (hl : n ≤ 16) (hd1 : ∀ d ∈ dl, d.oneCell' = true) :
    Calls Tryd.prog 45 #[.slice (some ⟨g, 0, none⟩) n cap, .int .i64 (i : Int), .slice (some ⟨W0.heap.size, 0, none⟩) 1 1] (W0.alloc (objO x da dn dc)) (InsPost base (.slice (some ⟨g, 0, none⟩) n cap) os dl x (.slice da dn dc) i W0) := by
  have mixed : Tryd.prog.follows .mixedOrders = true := by kernel_rfl
  obtain ⟨hn, hbg, hnc, hcm, cur, hh, hcs, htk⟩ := ho.heap
  have hglt : g < W0.heap.size := (ho.lt (g := g) rfl).2
  have HB := Lib.hid (box_bel W0 (objO x da dn dc))
  obtain ⟨H, hH⟩ : ∃ H, W0.heap.size = H := ⟨_, rfl⟩
  obtain ⟨ns, hns⟩ : ∃ ns, x.1.cells x.2 (.slice da dn dc) = ns := ⟨_, rfl⟩
  have hnl : ns.length = 12 := by rw [← hns]; rfl
  have hn1 : ∀ u ∈ ns, u.oneCell' = true := by rw [← hns]; exact cells_one x da dn dc
  obtain ⟨xs, hxs⟩ : ∃ xs, cellsO os dl = xs := ⟨_, rfl⟩
  rw [hxs] at htk
  have hxl : xs.length = n * 12 := by rw [← hxs, cellsO_len ho.len, hn]
  have hx1 : ∀ u ∈ xs, u.oneCell' = true := by rw [← hxs]; exact cellsO_one hd1
  obtain ⟨W, hW⟩ : ∃ W, W = W0.alloc (objO x da dn dc) := ⟨_, rfl⟩
  have hgW : W.heap[g]? = some (.cells cur 32 (0, 0)) := by rw [hW]; have := HB.out.block g hglt; rw [this]; exact hh
  have hvW : ∀ j u, ns[j]? = some u → W.cell? ⟨H, j, none⟩ = some u := fun j u hu => by rw [hW, ← hH]; rw [← hns] at hu; exact (blkX_new W0 x da dn dc).cell j u hu
  obtain ⟨cs1, hcs1⟩ : ∃ cs1, xs.drop (i * 12) = cs1 := ⟨_, rfl⟩
  have hc1l : cs1.length = (n - i) * 12 := by rw [← hcs1, List.length_drop, hxl]; omega
  obtain ⟨c1, hc1⟩ : ∃ c1, cur.toList.take ((i + 1) * 12) ++ cs1 ++ cur.toList.drop ((i + 1) * 12 + cs1.length) = c1 := ⟨_, rfl⟩
  have hc1s : c1.length = cap * 12 := by rw [← hc1]; simp; omega
  obtain ⟨c2, hc2⟩ : ∃ c2, c1.take (i * 12) ++ ns ++ c1.drop (i * 12 + ns.length) = c2 := ⟨_, rfl⟩
  have hfin := ins_list cur.toList xs ns i n cap hin hroom (by simpa using hcs) htk hnl
  rw [hcs1, hc1, hc2] at hfin
  have hcp1 : ∀ ty dc' sc, (Builtin.copy_ #[23, 23] ty #[.slice (some ⟨g, (i + 1) * 12, none⟩) (n - i) dc', .slice (some ⟨g, i * 12, none⟩) (n + 1 - i) sc]).run Tryd.prog W.drew = .ok (goInt ((n - i : Nat))) (W.drew.setRow g c1.toArray) := fun ty dc' sc => by
    have h := copyO_run W.drew ty g ((i + 1) * 12) (n - i) dc' ⟨g, i * 12, none⟩ (n + 1 - i) sc cur cs1 (n - i) (by simp only [Nat.min_def]; split <;> omega) hgW hc1l (fun j u hu => by
      rw [addr_add]
      refine cell_row (w := W.drew) hgW (i * 12 + j) u ?_
      rw [← hcs1, List.getElem?_drop, ← htk, List.getElem?_take] at hu
      split at hu
      · exact hu
      · cases hu) (by rw [hc1l, hcs]; omega) (fun u hu => hx1 u (by rw [← hcs1] at hu; exact List.mem_of_mem_drop hu))
    rw [hc1] at h
    exact h
  obtain ⟨W1, hW1⟩ : ∃ W1, W1 = W.drew.setRow g c1.toArray := ⟨_, rfl⟩
  have hgW1 : W1.heap[g]? = some (.cells c1.toArray 32 (0, 0)) := by rw [hW1]; exact setRow_heap _ _ cur _ 32 (0, 0) hgW
  have hcp2 : ∀ ty dc', (Builtin.copy_ #[23, 23] ty #[.slice (some ⟨g, i * 12, none⟩) (n + 1 - i) dc', .slice (some ⟨H, 0, none⟩) 1 1]).run Tryd.prog W1 = .ok (goInt 1) (W1.setRow g c2.toArray) := fun ty dc' => by
    have h := copyO_run W1 ty g (i * 12) (n + 1 - i) dc' ⟨H, 0, none⟩ 1 1 c1.toArray ns 1 (by simp only [Nat.min_def]; split <;> omega) hgW1 (by rw [hnl]) (fun j u hu => by
      rw [addr_add, Nat.zero_add, hW1, cell_setRow _ _ _ _ _ (by omega)]
      exact hvW j u hu) (by simp [hc1s]; omega) hn1
    rw [List.toList_toArray, hc2] at h
    exact h
  have hov : ∀ lb cb, (callFunc 65 #[.slice (some ⟨H, 0, none⟩) 1 1, .slice (some ⟨g, (i + 1) * 12, none⟩) lb cb]).run Tryd.prog W = .ok (.value (.bool false)) W := fun lb cb => by
    rw [run_callFunc_extern Tryd.func65 (by kernel_rfl) (by kernel_rfl) (by kernel_rfl) (e := Extern.SlicesOverlaps.overlaps #[23, 23] #[4]) (by kernel_rfl),
      Lib.run_overlaps_apart W 23 4 32 Tryd.underlying23 12 size32 ⟨H, 0, none⟩ ⟨g, (i + 1) * 12, none⟩ 1 1 lb cb (by show H ≠ g; omega) 32 32 12 (cap * 12) (by rw [hW, ← hH]; unfold World.shape?; rw [show (W0.alloc (objO x da dn dc)).heap[(⟨W0.heap.size, 0, none⟩ : Addr).block]? = some (objO x da dn dc) from heap_alloc_new W0 _]; rfl) (by unfold World.shape?; rw [show W.heap[(⟨g, (i + 1) * 12, none⟩ : Addr).block]? = some (.cells cur 32 (0, 0)) from hgW]; show some (32, cur.size) = _; rw [hcs]) (by omega) (by rw [hW, ← hH]; exact (blkX_new W0 x da dn dc).free 0 _ rfl) (by rw [hW]; exact World.frozen?_alloc_at (w := W0) _ _ _ _ hH.symm)]
    rfl
  have hs1 : ∀ W, (Instr.slice 23 (.slice (some ⟨g, 0, none⟩) n cap) (some (.int .i64 (i : Int))) none none).run Tryd.prog W = .ok (.slice (some ⟨g, i * 12, none⟩) (n - i) (cap - i)) W := fun W => by
    rw [sliceO_l W _ n cap i i rfl (by omega)]
    unfold partO
    rw [if_neg (by omega), Option.map_some, addr_add, Nat.zero_add]
  have hs2 : ∀ W, (Instr.slice 23 (.slice (some ⟨g, 0, none⟩) n cap) none (some (.int .i64 ((n : Int) + 1))) none).run Tryd.prog W = .ok (.slice (some ⟨g, 0, none⟩) (n + 1) cap) W := fun W => sliceO_h W _ n cap (n + 1) _ (by omega) hroom
  have hs3 : ∀ W, (Instr.slice 23 (.slice (some ⟨g, 0, none⟩) (n + 1) cap) (some (.int .i64 ((i : Int) + 1))) none none).run Tryd.prog W = .ok (.slice (some ⟨g, (i + 1) * 12, none⟩) (n - i) (cap - (i + 1))) W := fun W => by
    rw [sliceO_l W _ (n + 1) cap (i + 1) _ (by omega) (by omega)]
    unfold partO
    rw [if_neg (by omega), Option.map_some, addr_add, Nat.zero_add, show n + 1 - (i + 1) = n - i by omega]
  have hs4 : ∀ W, (Instr.slice 23 (.slice (some ⟨g, 0, none⟩) (n + 1) cap) (some (.int .i64 (i : Int))) none none).run Tryd.prog W = .ok (.slice (some ⟨g, i * 12, none⟩) (n + 1 - i) (cap - i)) W := fun W => by
    rw [sliceO_l W _ (n + 1) cap i i rfl (by omega)]
    unfold partO
    rw [if_neg (by omega), Option.map_some, addr_add, Nat.zero_add]
  have HE : Hid (OwnO (W1.setRow g c2.toArray) base (.slice (some ⟨g, 0, none⟩) (n + 1) cap) (os.take i ++ x :: os.drop i) (dl.take i ++ .slice da dn dc :: dl.drop i) ∧ W0.grownBy (W1.setRow g c2.toArray) (some g)) := by
    refine ⟨⟨?_, ?_, .inr ⟨g, cap, c2.toArray, ?_, hbg, setRow_heap _ _ c1.toArray _ 32 (0, 0) hgW1, ?_, hcm, ?_, ?_⟩⟩, ?_⟩
    · have := ho.len
      simp [List.length_take, List.length_drop]
      omega
    · rw [cellsO_ins i x _ ho.len (by omega), hxs, hns]
      simp
      omega
    · rw [show (os.take i ++ x :: os.drop i).length = n + 1 by simp; omega]
    · rw [show (os.take i ++ x :: os.drop i).length = n + 1 by simp; omega]; exact hroom
    · have := hfin.2
      simpa using this
    · rw [show (os.take i ++ x :: os.drop i).length = n + 1 by simp; omega, cellsO_ins i x _ ho.len (by omega), hxs, hns, hcs1, List.toList_toArray]
      exact hfin.1
    · refine World.grownBy.trans (b := W) ?_ (World.grownBy.trans (b := W1) ?_ (grown_setRow W1 g c2.toArray))
      · rw [hW]; exact World.grownBy_alloc W0 _ _
      · rw [hW1]; exact grown_setRow_drew W g c1.toArray
  have hine : ((i : Int) == (n : Int)) = false := beq_eq_false_iff_ne.2 (by omega)
  have hine2 : ¬ (i : Int) = (n : Int) := by omega
  have hrz : ¬ (cap : Int) < (n : Int) + 1 := by omega
  clear hfin hc1 hc2 hcs1 htk hcs hh hx1 hn1 hvW hgW hgW1 hn hxs hns hc1s hc1l hxl hnl ho
  have HW : Hid (W0.alloc (objO x da dn dc) = W) := hW.symm
  rw [← hW, hH]
  clear hW hd1
  have hw1 : IntKind.i64.wrap ((i : Int) + 1) = (i : Int) + 1 := IntWalk.i64_in _ (by omega)
  have hb1 : (0 : Int) ≤ (i : Int) + 1 := by omega
  have hb3 : (i : Int) + 1 ≤ (n : Int) + 1 := by omega
  have htn : ((i : Int) + 1).toNat = i + 1 := by omega
  have hb2 : ¬ cap = i + 1 := by omega
  have hb4 : ¬ cap = i := by omega
  have hb5 : (i : Int) ≤ (n : Int) + 1 := by omega
  rw [← hW1] at hcp1
  clear hW1
  go_enter Tryd.func45, Tryd.ntmps45
  go_wp2_with (first | simp only [hov] | fail)
  go_region_law_o (refine step_copyO rfl _ _ rfl (.slice (some ⟨g, (i + 1) * 12, none⟩) (n - i) (cap - (i + 1))) (.slice (some ⟨g, i * 12, none⟩) (n + 1 - i) (cap - i)) (by simp [Act.eval, Act.put]) (by simp [Act.eval, Act.put]) (hcp1 _ _ _) ?_)
  go_wp2_with (at_builtin; refine wpList_copyO _ rfl _ _ rfl _ _ rfl rfl (hcp2 _ _) ?_)
  go_ret
  exact ⟨_, rfl, HE.out.1, HE.out.2⟩
end Go.Proofs.YtdpopdlifcjdeaaDoor
