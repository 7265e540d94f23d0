/- Joined: D20. -/
import Derived.Test.YtdpopdlifcjdeaaDoorYD19

/- Hold: an operation laid into a row: Insert where there is none. -/
namespace Go.Proofs.YtdpopdlifcjdeaaDoor
open Go.RowKit Go.Lib
set_option linter.unusedVariables false

theorem ins_list2 (xs ns rest : List Value) (i n : Nat) (row : List Value) (hin : i < n) (hxl : xs.length = n * 12) (hns : ns.length = 12) (hrow : row = xs.take (i * 12) ++ rest) (hrl : (n + 1) * 12 ≤ row.length) (c1 c2 : List Value)
    (h1 : row.take (i * 12) ++ ns ++ row.drop (i * 12 + ns.length) = c1) (h2 : c1.take ((i + 1) * 12) ++ xs.drop (i * 12) ++ c1.drop ((i + 1) * 12 + (xs.drop (i * 12)).length) = c2) :
    c2.take ((n + 1) * 12) = xs.take (i * 12) ++ ns ++ xs.drop (i * 12) ∧ c2.length = row.length ∧ c1.length = row.length := by
  have hl1 : (xs.take (i * 12)).length = i * 12 := by rw [List.length_take]; omega
  have e1 : row.take (i * 12) = xs.take (i * 12) := by rw [hrow, List.take_append_of_le_length (by omega), List.take_of_length_le (by omega)]
  have hc1l : c1.length = row.length := by rw [← h1]; simp; omega
  have e2 : c1.take ((i + 1) * 12) = xs.take (i * 12) ++ ns := by
    rw [← h1, e1, List.take_append_of_le_length (by simp; omega), List.take_of_length_le (by simp; omega)]
  have hd : (xs.drop (i * 12)).length = (n - i) * 12 := by rw [List.length_drop]; omega
  refine ⟨?_, ?_, hc1l⟩
  · rw [← h2, e2, List.take_append_of_le_length (by simp; omega), List.take_of_length_le (by simp; omega)]
  · rw [← h2]; simp; omega
theorem wpList_appO (w : World) {ops : Array Oper} {rest : List Oper} {o : Oper} {a : Act} {Q : Exit → Act → World → Prop} (hgd : o.guard = none) (d s : Operand)
    (ho : o.op = .call { callee := .builtin .append, args := #[d, s], argTypes := #[23, 3] }) (v u : Value) (hd : a.eval d = v) (hs : a.eval s = u) {v' : Value} {w' : World}
    (hr : (Builtin.append_ #[23, 3] o.type #[v, u]).run Tryd.prog w = .ok v' w') (h : wpList Tryd.prog ops Q rest (a.put o.dst v') w') : wpList Tryd.prog ops Q (o :: rest) a w := by
  refine wpList_plain hgd fun _ hK => ?_
  unfold Oper.wp execOp
  simp only [ho, resolve, invoke, builtin, Sem.run_bind, Sem.run_pure, Result.andThen_ok, List.map_toArray, List.map_cons, List.map_nil, hd, hs, hr]
  exact hK _ _ h
set_option maxHeartbeats 4000000 in
set_option maxRecDepth 100000 in
theorem insert_grow (base : Nat) (g n cap i : Nat) (os : List OpD) (dl : List Value) (x : OpD) (da : Option Addr) (dn dc : Nat) (W0 : World) (ho : OwnO W0 base (.slice (some ⟨g, 0, none⟩) n cap) os dl) (hin : i < n) (hroom : cap < n + 1) (hl : n ≤ 16) (hbase : base ≤ W0.heap.size) (hd1 : ∀ d ∈ dl, d.oneCell' = true) :
    Calls Tryd.prog 45 #[.slice (some ⟨g, 0, none⟩) n cap, .int .i64 (i : Int), .slice (some ⟨W0.heap.size, 0, none⟩) 1 1] (W0.alloc (objO x da dn dc)) (InsPost base (.slice (some ⟨g, 0, none⟩) n cap) os dl x (.slice da dn dc) i W0) := by
  have mixed : Tryd.prog.follows .mixedOrders = true := by kernel_rfl
  obtain ⟨hn, hbg, hnc, hcm, cur, hh, hcs, htk⟩ := ho.heap
  obtain rfl : cap = n := by omega
  have hglt : g < W0.heap.size := (ho.lt (g := g) rfl).2
  have HB := Lib.hid (box_bel W0 (objO x da dn dc))
  obtain ⟨H, hH⟩ : ∃ H, W0.heap.size = H := ⟨_, rfl⟩
  obtain ⟨ns, hns⟩ : ∃ ns, x.1.cells x.2 (.slice da dn dc) = ns := ⟨_, rfl⟩
  have hnl : ns.length = 12 := by rw [← hns]; rfl
  have hn1 : ∀ u ∈ ns, u.oneCell' = true := by rw [← hns]; exact cells_one x da dn dc
  obtain ⟨xs, hxs⟩ : ∃ xs, cellsO os dl = xs := ⟨_, rfl⟩
  rw [hxs] at htk
  have hxl : xs.length = cap * 12 := by rw [← hxs, cellsO_len ho.len, hn]
  have hx1 : ∀ u ∈ xs, u.oneCell' = true := by rw [← hxs]; exact cellsO_one hd1
  obtain ⟨W, hW⟩ : ∃ W, W = W0.alloc (objO x da dn dc) := ⟨_, rfl⟩
  have hWs : W.heap.size = H + 1 := by rw [hW, World.size_alloc, hH]
  have hgW : W.heap[g]? = some (.cells cur 32 (0, 0)) := by rw [hW]; have := HB.out.block g hglt; rw [this]; exact hh
  have hvW : ∀ j u, ns[j]? = some u → W.cell? ⟨H, j, none⟩ = some u := fun j u hu => by rw [hW, ← hH]; rw [← hns] at hu; exact (blkX_new W0 x da dn dc).cell j u hu
  have hxW : ∀ j u, xs[j]? = some u → W.cell? ⟨g, j, none⟩ = some u := fun j u hu => by
    refine cell_row hgW j u ?_
    rw [← htk, List.getElem?_take] at hu
    split at hu
    · exact hu
    · cases hu
  obtain ⟨i0, hi0, hz0, hzs, hzb⟩ := info_parts Tryd.info32
  have hold : (Builtin.firstCells i0.size i (.slice (some ⟨g, 0, none⟩) i cap)).run Tryd.prog W.drew = .ok (xs.take (i * 12)).toArray W.drew := by
    have hl2 := run_loadCells_list (P := Tryd.prog) W.drew ⟨g, 0, none⟩ (xs.take (i * 12)) (fun j u hu => by
      rw [addr_add, Nat.zero_add]
      rw [List.getElem?_take] at hu
      split at hu
      · exact hxW j u hu
      · cases hu)
    rw [List.length_take, Nat.min_eq_left (by omega)] at hl2
    rw [hzs]
    simp [Builtin.firstCells, hl2]
  obtain ⟨G, hG⟩ : ∃ G, grownCap W (cap + 1) cap 32 = G := ⟨_, rfl⟩
  have hGn : cap + 1 ≤ G := by rw [← hG]; exact grownCap_ge W _ _ _
  have hGm : G ≤ maxLen := by
    rw [← hG]
    exact grownCap_le_maxLen W (cap + 1) cap 32 (by unfold maxLen; omega)
  obtain ⟨ROW, hROW⟩ : ∃ ROW : Array Value, (xs.take (i * 12)).toArray ++ Builtin.zeroCells (Value.agg #[.int .i64 0, .int .i64 0, .int .i64 0, .slice none 0 0, .int .i64 0, .int .i64 0, .int .i64 0, .int .i64 0, .int .i64 0, .string ⟨#[]⟩, .int .i64 0, .int .i64 0]).cells (cap + 1 - i) ++ Builtin.zeroCells (Value.agg #[.int .i64 0, .int .i64 0, .int .i64 0, .slice none 0 0, .int .i64 0, .int .i64 0, .int .i64 0, .int .i64 0, .int .i64 0, .string ⟨#[]⟩, .int .i64 0, .int .i64 0]).cells (G - (cap + 1)) = ROW := ⟨_, rfl⟩
  have hkk : (cap : Int) + 1 - (i : Int) = ((cap + 1 - i : Nat) : Int) := by omega
  have hik : i + (cap + 1 - i) = cap + 1 := by omega
  have hrz : ∀ ty, (Builtin.append_ #[23, 3] ty #[.slice (some ⟨g, 0, none⟩) i cap, .int .i64 ((cap : Int) + 1 - (i : Int))]).run Tryd.prog W = .ok (.slice (some ⟨H + 1, 0, none⟩) (cap + 1) G) (W.drew.alloc (.cells ROW 32)) := fun ty => by
    have h := Lib.run_append_grow_zeros W 23 3 ty 32 i0 _ .i64 .i64 Tryd.underlying23 Tryd.underlying3 hi0 hz0 (some ⟨g, 0, none⟩) i cap (xs.take (i * 12)) hold (cap + 1 - i) (by omega) (by rw [hzs]; omega) (by omega) (by omega) (by rw [hzb]; omega) (by rw [hzb, hik]; exact growslice_fits (by omega) (by omega))
    rw [hik, hG, hROW, hWs] at h
    rw [hkk]
    exact h
  have hRs : ROW.size = G * 12 := by
    rw [← hROW]
    simp [Builtin.zeroCells, Value.cells]
    omega
  obtain ⟨rest, hrest⟩ : ∃ rest, ROW.toList = xs.take (i * 12) ++ rest := ⟨_, by rw [← hROW, Array.append_assoc, Array.toList_append, List.toList_toArray]⟩
  obtain ⟨W1, hW1⟩ : ∃ W1, W1 = W.drew.alloc (.cells ROW 32) := ⟨_, rfl⟩
  have hg1 : W1.heap[H + 1]? = some (.cells ROW 32 (0, 0)) := by rw [hW1, ← hWs]; exact heap_alloc_new W.drew _
  have hb1 : Below (H + 1) W W1 := by rw [hW1]; exact ((Below.refl (H + 1) W).drew).alloc (by show H + 1 ≤ W.heap.size; omega) _
  obtain ⟨c1, hc1⟩ : ∃ c1, ROW.toList.take (i * 12) ++ ns ++ ROW.toList.drop (i * 12 + ns.length) = c1 := ⟨_, rfl⟩
  obtain ⟨cs, hcs1⟩ : ∃ cs, xs.drop (i * 12) = cs := ⟨_, rfl⟩
  obtain ⟨c2, hc2⟩ : ∃ c2, c1.take ((i + 1) * 12) ++ cs ++ c1.drop ((i + 1) * 12 + cs.length) = c2 := ⟨_, rfl⟩
  have hcl : cs.length = (cap - i) * 12 := by rw [← hcs1, List.length_drop, hxl]; omega
  have hfin := ins_list2 xs ns rest i cap ROW.toList hin hxl hnl hrest (by rw [Array.length_toList, hRs]; omega) c1 c2 hc1 (by rw [hcs1]; exact hc2)
  rw [hcs1] at hfin
  have hc1l : c1.length = G * 12 := by rw [hfin.2.2, Array.length_toList, hRs]
  have hc2l : c2.length = G * 12 := by rw [hfin.2.1, Array.length_toList, hRs]
  have hcpA : ∀ ty dc', (Builtin.copy_ #[23, 23] ty #[.slice (some ⟨H + 1, i * 12, none⟩) (cap + 1 - i) dc', .slice (some ⟨H, 0, none⟩) 1 1]).run Tryd.prog W1 = .ok (goInt 1) (W1.setRow (H + 1) c1.toArray) := fun ty dc' => by
    have h := copyO_run W1 ty (H + 1) (i * 12) (cap + 1 - i) dc' ⟨H, 0, none⟩ 1 1 ROW ns 1 (by simp only [Nat.min_def]; split <;> omega) hg1 (by rw [hnl]) (fun j u hu => by
      rw [addr_add, Nat.zero_add]
      exact (hb1.cell (p := ⟨H, j, none⟩) (by show H < H + 1; omega)).trans (hvW j u hu)) (by rw [hnl, hRs]; omega) hn1
    rw [hc1] at h
    exact h
  obtain ⟨W2, hW2⟩ : ∃ W2, W2 = W1.setRow (H + 1) c1.toArray := ⟨_, rfl⟩
  rw [← hW2] at hcpA
  have hg2 : W2.heap[H + 1]? = some (.cells c1.toArray 32 (0, 0)) := by rw [hW2]; exact setRow_heap _ _ ROW _ 32 (0, 0) hg1
  have hb2 : Below (H + 1) W W2 := by rw [hW2]; exact hb1.trans ⟨rfl, rfl, rfl, by simp, fun k hk => setRow_other _ _ _ _ (by omega)⟩
  have hcpB : ∀ ty dc' sc, (Builtin.copy_ #[23, 23] ty #[.slice (some ⟨H + 1, (i + 1) * 12, none⟩) (cap - i) dc', .slice (some ⟨g, i * 12, none⟩) (cap - i) sc]).run Tryd.prog W2.drew = .ok (goInt ((cap - i : Nat))) (W2.drew.setRow (H + 1) c2.toArray) := fun ty dc' sc => by
    have h := copyO_run W2.drew ty (H + 1) ((i + 1) * 12) (cap - i) dc' ⟨g, i * 12, none⟩ (cap - i) sc c1.toArray cs (cap - i) (by simp only [Nat.min_def]; split <;> omega) hg2 hcl (fun j u hu => by
      rw [addr_add]
      rw [← hcs1, List.getElem?_drop] at hu
      exact (hb2.cell (p := ⟨g, i * 12 + j, none⟩) (by show g < H + 1; omega)).trans (hxW _ u hu)) (by simp [hcl, hc1l]; omega) (fun u hu => hx1 u (by rw [← hcs1] at hu; exact List.mem_of_mem_drop hu))
    rw [List.toList_toArray, hc2] at h
    exact h
  obtain ⟨W3, hW3⟩ : ∃ W3, W3 = W2.drew.setRow (H + 1) c2.toArray := ⟨_, rfl⟩
  rw [← hW3] at hcpB
  have hg3 : W3.heap[H + 1]? = some (.cells c2.toArray 32 (0, 0)) := by rw [hW3]; exact setRow_heap _ _ c1.toArray _ 32 (0, 0) hg2
  have hb3 : Below (H + 1) W W3 := by rw [hW3]; exact hb2.trans ⟨rfl, rfl, rfl, by simp, fun k hk => setRow_other _ _ _ _ (by omega)⟩
  have hb4 : Below W0.heap.size W0 W3 := by
    have h1 := HB.out
    rw [← hW] at h1
    exact h1.trans (hb3.mono (by omega))
  have hlen : (os.take i ++ x :: os.drop i).length = cap + 1 := by simp; omega
  have HE : Hid (OwnO W3 base (.slice (some ⟨H + 1, 0, none⟩) (cap + 1) G) (os.take i ++ x :: os.drop i) (dl.take i ++ .slice da dn dc :: dl.drop i) ∧ W0.grownBy W3 (some g)) := by
    refine ⟨⟨?_, ?_, .inr ⟨H + 1, G, c2.toArray, ?_, by omega, hg3, ?_, hGm, ?_, ?_⟩⟩, ⟨hb4.os, hb4.tape, hb4.output, hb4.size, fun k hk _ => hb4.block k hk⟩⟩
    · have := ho.len
      simp [List.length_take, List.length_drop]
      omega
    · rw [cellsO_ins i x _ ho.len (by omega), hxs, hns, hlen]
      simp
      omega
    · rw [hlen]
    · rw [hlen]; exact hGn
    · simp [hc2l]
    · rw [hlen, cellsO_ins i x _ ho.len (by omega), hxs, hns, hcs1, List.toList_toArray]
      exact hfin.1
  have hs1 : ∀ W, (Instr.slice 23 (.slice (some ⟨g, 0, none⟩) cap cap) (some (.int .i64 (i : Int))) none none).run Tryd.prog W = .ok (.slice (some ⟨g, i * 12, none⟩) (cap - i) (cap - i)) W := fun W => by
    rw [sliceO_l W _ cap cap i i rfl (by omega)]
    unfold partO
    rw [if_neg (by omega), Option.map_some, addr_add, Nat.zero_add]
  have hs2 : ∀ W, (Instr.slice 23 (.slice (some ⟨g, 0, none⟩) cap cap) none (some (.int .i64 (i : Int))) none).run Tryd.prog W = .ok (.slice (some ⟨g, 0, none⟩) i cap) W := fun W => sliceO_h W _ cap cap i _ rfl (by omega)
  have hs3 : ∀ W, (Instr.slice 23 (.slice (some ⟨H + 1, 0, none⟩) (cap + 1) G) (some (.int .i64 (i : Int))) none none).run Tryd.prog W = .ok (.slice (some ⟨H + 1, i * 12, none⟩) (cap + 1 - i) (G - i)) W := fun W => by
    rw [sliceO_l W _ (cap + 1) G i i rfl (by omega)]
    unfold partO
    rw [if_neg (by omega), Option.map_some, addr_add, Nat.zero_add]
  have hine : ((i : Int) == (cap : Int)) = false := beq_eq_false_iff_ne.2 (by omega)
  have hine2 : ¬ (i : Int) = (cap : Int) := by omega
  have hrz2 : (cap : Int) < (cap : Int) + 1 := by omega
  have hw1 : IntKind.i64.wrap ((i : Int) + 1) = (i : Int) + 1 := IntWalk.i64_in _ (by omega)
  have hq1 : (0 : Int) ≤ (i : Int) + 1 := by omega
  have hq3 : (i : Int) + 1 ≤ (cap : Int) + 1 := by omega
  have htn : ((i : Int) + 1).toNat = i + 1 := by omega
  have hq2 : ¬ G = i + 1 := by omega
  have hq4 : ¬ cap = i := by omega
  have hq5 : (i : Int) ≤ (cap : Int) := by omega
  have hq6 : ((cap : Int) == (0 : Int)) = false := beq_eq_false_iff_ne.2 (by omega)
  have hGz : G ≤ 9223372036854775807 := by unfold maxLen at hGm; omega
  rw [← hW1] at hrz
  rw [← hW, hH]
  clear hfin hc1 hc2 hcs1 htk hcs hh hx1 hn1 hvW hgW hn hxs hns hc1l hc2l hxl hnl ho hW hd1 hW1 hW2 hW3 hg1 hg2 hg3 hb1 hb2 hb3 hb4 hlen hrest hRs hROW hG hold hxW hkk hik hcl hWs
  go_enter Tryd.func45, Tryd.ntmps45
  go_wp2_with (first
    | (at_builtin; refine wpList_appO _ rfl _ _ rfl _ _ rfl rfl (hrz _) ?_)
    | (at_builtin; refine wpList_copyO _ rfl _ _ rfl _ _ rfl rfl (hcpA _ _) ?_))
  go_region_law_o (refine step_copyO rfl _ _ rfl (.slice (some ⟨H + 1, (i + 1) * 12, none⟩) (cap - i) (G - (i + 1))) (.slice (some ⟨g, i * 12, none⟩) (cap - i) (cap - i)) (by simp [Act.eval, Act.put]) (by simp [Act.eval, Act.put]) (hcpB _ _ _) ?_)
  go_wp2
  go_ret
  exact ⟨_, rfl, HE.out.1, HE.out.2⟩
end Go.Proofs.YtdpopdlifcjdeaaDoor
