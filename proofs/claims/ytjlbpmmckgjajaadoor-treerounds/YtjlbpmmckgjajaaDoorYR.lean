/- Joined: TK1 TK2. -/
import Derived.Test.YtjlbpmmckgjajaaDoorYQ
import Derived.Lib.SliceRun

/- Trees: Kids: which nodes stay (IndexFunc, DeleteFunc). -/
namespace Go.Proofs.YtjlbpmmckgjajaaDoor
open Go.RowKit Go.Lib Go.Maps
set_option linter.unusedVariables false

def keepB (s : Pl) (x : ND) : Bool := decide (x.par.1 = s.1 ∧ x.par.2 = s.2)
theorem keepB_iff {s : Pl} {x : ND} : keepB s x = true ↔ x.par = s := by
  unfold keepB
  rw [decide_eq_true_eq]
  exact ⟨fun h => Prod.ext h.1 h.2, fun h => by rw [h]; exact ⟨rfl, rfl⟩⟩
/-- a place that lies somewhere -/
def PlAt (w : World) (b : Nat) (s : Pl) : Prop := w.cell? ⟨b, 0, none⟩ = some (.int .i64 s.1) ∧ w.cell? ⟨b, 1, none⟩ = some (.int .i64 s.2)
theorem PlAt.next {w w' : World} {b : Nat} {s : Pl} (h : PlAt w b s) (hb : Below w.heap.size w w') : PlAt w' b s := ⟨(hb.cell (p := ⟨b, 0, none⟩) (World.block_lt_of_cell? _ _ h.1)).trans h.1, (hb.cell (p := ⟨b, 1, none⟩) (World.block_lt_of_cell? _ _ h.2)).trans h.2⟩
theorem PlAt.lt {w : World} {b : Nat} {s : Pl} (h : PlAt w b s) : b < w.heap.size := World.block_lt_of_cell? _ _ h.1
theorem PlAt.grown {w w' : World} {b : Nat} {s : Pl} {row : Option Nat} (h : PlAt w b s) (hg : w.grownBy w' row) (hne : some b ≠ row) : PlAt w' b s := ⟨hg.cell h.1 hne, hg.cell h.2 hne⟩
set_option maxHeartbeats 1000000 in
theorem kid1_any (x : ND) (b : Nat) (s : Pl) (w : World) (h : PlAt w b s) : Calls Tryd.prog 37 #[valN x, .pointer (some ⟨b, 0, none⟩)] w (BoolPost w (!keepB s x)) := by
  have HB := Lib.hid (box_bel w (objN x))
  have hb := objN_new w x
  obtain ⟨c0, c1⟩ := h.next (box_bel w (objN x))
  have e2 := hb.cell 2 _ rfl
  have e3 := hb.cell 3 _ rfl
  have hG := St.st_guard
  obtain ⟨kb, hkb⟩ : ∃ kb, keepB s x = kb := ⟨_, rfl⟩
  have hz : ∀ w, (binOp .neq 36 (.agg #[.int .i64 x.par.1, .int .i64 x.par.2]) (.agg #[.int .i64 s.1, .int .i64 s.2])).run Tryd.prog w = .ok (.bool (!kb)) w := fun w => by
    rw [St.st_neq, ← hkb]
    congr 3
    unfold keepB
    rw [Bool.eq_iff_iff]
    simp
  rw [hkb]
  clear h hb hkb
  go_enter Tryd.func37, Tryd.ntmps37
  go_wp2
  go_ret
  exact ⟨rfl, HB.out⟩
def IdxPost (w : World) (s : Pl) (xs : List ND) (e : Ending) (w' : World) : Prop :=
  Below w.heap.size w w' ∧ ((∃ i x, xs[i]? = some x ∧ keepB s x = false ∧ (∀ y ∈ xs.take i, keepB s y = true) ∧ e = .returned (.int .i64 (i : Int))) ∨ ((∀ y ∈ xs, keepB s y = true) ∧ e = .returned (.int .i64 (-1))))
set_option maxHeartbeats 2000000 in
set_option maxRecDepth 100000 in
theorem idxN_any (a : Option Addr) (xs : List ND) (n c b : Nat) (s : Pl) (w : World) (hr : RowF 5 ND.enc w a xs) (hn : n = xs.length) (hl : n ≤ 1000) (hs : PlAt w b s) :
    Calls Tryd.prog 56 #[.slice a n c, .func (.func 37) #[] #[.pointer (some ⟨b, 0, none⟩)]] w (IdxPost w s xs) := by
  have mixed : Tryd.prog.follows .mixedOrders = true := by kernel_rfl
  have HR := Lib.hid hr
  have HN := Lib.hid hn
  have HS := Lib.hid hs
  clear hr hn hs
  go_enter Tryd.func56, Tryd.ntmps56
  go_wp2
  go_loopg [8] n (fun gg s8 wr => ∃ k : Nat, s8 = .int .i64 k ∧ k ≤ n ∧ n - k ≤ gg ∧ Hid (∀ y ∈ xs.take k, keepB s y = true) ∧ Hid (Below w.heap.size w wr))
  case atStart => exact ⟨0, rfl, Nat.zero_le _, by omega, fun y hy => by simp at hy, Below.refl _ _⟩
  case round =>
    obtain ⟨k, rfl, hk, hgk, HK, HB⟩ := hrel
    by_cases hin : k < n
    · have hinz : (k : Int) < (n : Int) := by omega
      obtain ⟨x, hx⟩ : ∃ x, xs[k]? = some x := ⟨_, List.getElem?_eq_getElem (by rw [← HN.out]; exact hin)⟩
      obtain ⟨b1, o1, rfl, hat⟩ := (HR.out.next flatN HB.out) k x hx
      have HX := Lib.hid hx
      have e0 : wr.cell? ⟨b1, o1 + k * 5, none⟩ = some (.int .i64 x.id.1) := hat 0 _ rfl
      have e1 : wr.cell? ⟨b1, o1 + k * 5 + 1, none⟩ = some (.int .i64 x.id.2) := hat 1 _ rfl
      have e2 : wr.cell? ⟨b1, o1 + k * 5 + 2, none⟩ = some (.int .i64 x.par.1) := hat 2 _ rfl
      have e3 : wr.cell? ⟨b1, o1 + k * 5 + 3, none⟩ = some (.int .i64 x.par.2) := hat 3 _ rfl
      have e4 : wr.cell? ⟨b1, o1 + k * 5 + 4, none⟩ = some (.string x.key) := hat 4 _ rfl
      have C := Lib.hid (kid1_any x b s wr (HS.out.next HB.out))
      clear hx hat
      go_wp2_with fail
      clear e0 e1 e2 e3 e4
      refine (C.out).mono ?_
      rintro e w1 ⟨rfl, hb1⟩
      have HB1 := Lib.hid (HB.out.trans (hb1.mono HB.out.size))
      clear hb1 C
      cases hkp : keepB s x
      · have HKP := Lib.hid hkp
        clear hkp
        go_wp2_with fail
        go_ret
        exact ⟨HB1.out, .inl ⟨k, x, HX.out, HKP.out, HK.out, rfl⟩⟩
      · have HK2 : Hid (∀ y ∈ xs.take (k + 1), keepB s y = true) := fun y hy => by
          rw [take_snoc HX.out] at hy
          rcases List.mem_append.1 hy with hy | hy
          · exact HK.out y hy
          · rw [List.mem_singleton] at hy
            rw [hy]; exact hkp
        clear hkp
        go_wp2_with fail
        go_roundg (n - (k + 1))
        case measure => omega
        case rel => exact ⟨k + 1, by go_num, by omega, by omega, HK2, HB1⟩
    · obtain rfl : k = n := by omega
      have hinz : ¬ (k : Int) < (k : Int) := by omega
      have HF : Hid (∀ y ∈ xs, keepB s y = true) := by
        have h := HK.out
        rw [List.take_of_length_le (by have := HN.out; omega)] at h
        exact h
      go_wp2
      go_ret
      exact ⟨HB.out, .inr ⟨HF.out, rfl⟩⟩
end Go.Proofs.YtjlbpmmckgjajaaDoor

/- Trees: Kids: the nodes that stay (DeleteFunc). -/
namespace Go.Proofs.YtjlbpmmckgjajaaDoor
open Go.RowKit Go.Lib Go.Maps
set_option linter.unusedVariables false

section
variable {α : Type} {e st : TypeId} {k bytes : Nat} {enc : α → List Value}
theorem setsL_take (o : Nat) : ∀ (r : List Value) (j : Nat) (cs : List Value), (setsL cs o r j).take o = cs.take o
  | [], j, cs => rfl
  | u :: r, j, cs => by
    rw [setsL, setsL_take o r (j + 1)]
    apply List.ext_getElem?
    intro t
    rw [List.getElem?_take, List.getElem?_take]
    split
    · rw [List.getElem?_set, if_neg (by omega)]
    · rfl
theorem flat_take (F : Flat e st k bytes enc) : ∀ (xs : List α) (i : Nat), (xs.flatMap enc).take (i * k) = (xs.take i).flatMap enc
  | [], i => by simp
  | x :: r, 0 => by simp
  | x :: r, i + 1 => by
    rw [List.take_succ_cons, List.flatMap_cons, List.flatMap_cons, List.take_append, F.len, flat_take_aux F x i, show (i + 1) * k - k = i * k by rw [Nat.add_mul, Nat.one_mul, Nat.add_sub_cancel], flat_take F r i]
where flat_take_aux (F : Flat e st k bytes enc) (x : α) (i : Nat) : (enc x).take ((i + 1) * k) = enc x := List.take_of_length_le (by rw [F.len, Nat.add_mul, Nat.one_mul]; omega)
/-- the first of them, whatever is written over the rest -/
theorem OwnF.cut (F : Flat e st k bytes enc) {w : World} {base g n cap : Nat} {zs : List α} (h : OwnF e k enc w base (.slice (some ⟨g, 0, none⟩) n cap) zs) (hn : n = zs.length) {i : Nat} (hi : i ≤ n) (L : List Value) :
    OwnF e k enc (w.setCells g (i * k) L) base (.slice (some ⟨g, 0, none⟩) i cap) (zs.take i) ∧ w.grownBy (w.setCells g (i * k) L) (some g) := by
  subst hn
  have h1 := ownsRow_sets (i * k) L 0 h
  rw [setsF_is, Nat.add_zero] at h1
  refine ⟨⟨flat_len F _, ?_⟩, h1.2⟩
  rcases h1.1.2 with ⟨h0, _⟩ | ⟨g', cap', cur, e1, h2, h3, h4, h5, h6, h7⟩
  · cases h0
  · injection e1 with e1 e2 e3
    injection e1 with e1
    injection e1 with e1 _ _
    subst e1 e3
    have hl : (zs.take i).length = i := by rw [List.length_take]; omega
    refine .inr ⟨g, cap, cur, by rw [hl], h2, h3, by rw [hl]; omega, h5, h6, ?_⟩
    have h8 : cur.toList.take (i * k) = (setsL (zs.flatMap enc) (i * k) L 0).take (i * k) := by rw [← h7, List.take_take, Nat.min_eq_left (Nat.mul_le_mul_right k hi)]
    rw [hl, h8, setsL_take, flat_take F]
end
theorem wpList_clear {ops : Array Oper} {rest : List Oper} {o : Oper} {a : Act} {w w' : World} {Q : Exit → Act → World → Prop} (hgd : o.guard = none) (d : Operand) (T1 : TypeId)
    (ho : o.op = .call { callee := .builtin .clear, args := #[d], argTypes := #[T1] }) (v : Value) (hd : a.eval d = v) {v' : Value}
    (hr : (Builtin.clear_ #[T1] o.type #[v]).run Tryd.prog w = .ok v' w') (h : wpList Tryd.prog ops Q rest (a.put o.dst v') w') : wpList Tryd.prog ops Q (o :: rest) a w := by
  refine wpList_plain hgd fun _ hK => ?_
  unfold Oper.wp execOp
  simp only [ho, resolve, invoke, builtin, Sem.run_bind, Sem.run_pure, Result.andThen_ok, List.map_toArray, List.map_cons, List.map_nil, hd, hr]
  exact hK _ _ h
def zNv : Value := .agg #[.int .i64 0, .int .i64 0, .int .i64 0, .int .i64 0, .string ⟨#[]⟩]
theorem run_clearN (w : World) (ty : TypeId) (g o n c : Nat) (hn : 0 < n) (hc : ∀ j, j < n * 5 → (w.cell? ⟨g, o + j, none⟩).isSome = true) (hf : ∀ j, j < n * 5 → w.frozen? ⟨g, o + j, none⟩ = false) :
    (Builtin.clear_ #[22] ty #[.slice (some ⟨g, o, none⟩) n c]).run Tryd.prog w = .ok (.tuple #[]) (w.setCells g o (Builtin.zeroCells zNv.cells n).toList) := by
  have hv : ∀ w, (zeroValue 44).run Tryd.prog w = .ok zNv w := fun w => by kernel_rfl
  have hl : (Builtin.zeroCells zNv.cells n).toList.length = n * 5 := by simp [Builtin.zeroCells, zNv, Value.cells]
  have h1 : ∀ v ∈ (Builtin.zeroCells zNv.cells n).toList, v.oneCell' = true := by
    intro v hv
    simp only [Builtin.zeroCells, zNv, Value.cells, Array.toList_map, List.mem_map] at hv
    obtain ⟨j, hj, rfl⟩ := hv
    have h5 : ∀ t, t < 5 → (#[Value.int .i64 0, .int .i64 0, .int .i64 0, .int .i64 0, .string ⟨#[]⟩] : Array Value)[t]!.oneCell' = true := by
      intro t ht
      match t, ht with
      | 0, _ | 1, _ | 2, _ | 3, _ | 4, _ => rfl
    exact h5 (j % 5) (Nat.mod_lt _ (by decide))
  have hst := run_storeCells_cells (P := Tryd.prog) g o (Builtin.zeroCells zNv.cells n).toList 0 w (by rw [hl]; simpa using hc) (by rw [hl]; simpa using hf) h1
  simp only [Nat.add_zero] at hst
  obtain ⟨m, rfl⟩ : ∃ m, n = m + 1 := ⟨n - 1, by omega⟩
  simp [Builtin.clear_, run_underlying Tryd.underlying22, hv, hst, Sem.run_bind, Result.andThen]
def DelPost (W : World) (base : Nat) (v : Value) (s : Pl) (xs : List ND) (e : Ending) (w' : World) : Prop := ∃ v', e = .returned v' ∧ OwnF 44 5 ND.enc w' base v' (xs.filter (keepB s)) ∧ Below base W w' ∧ v'.ownBlock = v.ownBlock
/-- while they are moved together -/
structure DelI (W : World) (base g n cap : Nat) (s : Pl) (xs : List ND) (w : World) (i j : Nat) (zs : List ND) : Prop where
  ow : OwnF 44 5 ND.enc w base (.slice (some ⟨g, 0, none⟩) n cap) zs
  ln : zs.length = n
  tk : zs.take i = (xs.take j).filter (keepB s)
  dr : zs.drop j = xs.drop j
  lt : i < j
  bl : Below base W w
theorem DelI.skip {W : World} {base g n cap : Nat} {s : Pl} {xs : List ND} {w w' : World} {i j : Nat} {zs : List ND} {x : ND} (h : DelI W base g n cap s xs w i j zs) (hx : xs[j]? = some x) (hk : keepB s x = false) (hb : Below w.heap.size w w') (hbs : base ≤ w.heap.size) : DelI W base g n cap s xs w' i (j + 1) zs := by
  refine ⟨h.ow.below hb, h.ln, ?_, ?_, by have := h.lt; omega, h.bl.trans (hb.mono hbs)⟩
  · rw [take_snoc hx, List.filter_append, h.tk]
    simp [hk]
  · rw [← List.drop_drop, ← List.drop_drop, h.dr]
theorem DelI.move {W : World} {base g n cap : Nat} {s : Pl} {xs : List ND} {w w' : World} {i j : Nat} {zs : List ND} {x : ND} (h : DelI W base g n cap s xs w i j zs) (hx : xs[j]? = some x) (hk : keepB s x = true) (hb : Below w.heap.size w w') (hbs : base ≤ w.heap.size) (hB : base ≤ W.heap.size) (hn : n = xs.length) : DelI W base g n cap s xs (setsF w' g (i * 5) x.enc 0) (i + 1) (j + 1) (zs.set i x) := by
  have hlt := h.lt
  have hj := (List.getElem?_eq_some_iff.1 hx).1
  have hl := h.ln
  have hg := (h.ow.lt (g := g) rfl).1
  obtain ⟨h1, h2⟩ := (h.ow.below hb).put flatN hl.symm x (show i < zs.length by omega)
  refine ⟨h1, by rw [List.length_set]; exact hl, ?_, ?_, by omega, bel_own hB (h.bl.trans (hb.mono hbs)) h2 hg⟩
  · have e1 : (zs.set i x)[i]? = some x := by rw [List.getElem?_set, if_pos rfl, if_pos (by omega)]
    rw [take_snoc e1, List.take_set_of_le (Nat.le_refl i), h.tk, take_snoc hx, List.filter_append]
    simp [hk]
  · rw [List.drop_set_of_lt (by omega), ← List.drop_drop, ← List.drop_drop, h.dr]
theorem PlAt.far {W w : World} {base b : Nat} {s : Pl} (h : PlAt W b s) (hb : Below base W w) (hlt : b < base) : PlAt w b s := ⟨(hb.cell (p := ⟨b, 0, none⟩) hlt).trans h.1, (hb.cell (p := ⟨b, 1, none⟩) hlt).trans h.2⟩
theorem sliceN_l (w : World) (a : Option Addr) (len cap l : Nat) (h1 : l ≤ len) :
    (Instr.slice 22 (.slice a len cap) (some (.int .i64 (l : Int))) none none).run Tryd.prog w = .ok (.slice (partF 5 a l cap) (len - l) (cap - l)) w := by
  have ht' : Tryd.prog.underlying 22 = some (.slice (Tryd.prog.elem 22)) := by simp [Program.elem, Tryd.underlying22]
  have he : Tryd.prog.elem 22 = 44 := by simp [Program.elem, Tryd.underlying22]
  rw [run_slice_l w 22 _ _ _ ht' .i64 _ (by omega) (by omega), he, sizeND]
  simp [Result.andThen, sliced, partF]
theorem sliceN_h (w : World) (g len cap h : Nat) (h1 : h ≤ cap) :
    (Instr.slice 22 (.slice (some ⟨g, 0, none⟩) len cap) none (some (.int .i64 (h : Int))) none).run Tryd.prog w = .ok (.slice (some ⟨g, 0, none⟩) h cap) w := by
  have ht' : Tryd.prog.underlying 22 = some (.slice (Tryd.prog.elem 22)) := by simp [Program.elem, Tryd.underlying22]
  have he : Tryd.prog.elem 22 = 44 := by simp [Program.elem, Tryd.underlying22]
  rw [run_slice_h w 22 _ _ _ ht' .i64 _ (by omega) (by omega), he, sizeND]
  simp [Result.andThen, sliced, addr_add]
set_option maxHeartbeats 4000000 in
set_option maxRecDepth 100000 in
theorem delN_any (base : Nat) (a : Option Addr) (n c : Nat) (xs : List ND) (b : Nat) (s : Pl) (W : World) (ho : OwnF 44 5 ND.enc W base (.slice a n c) xs) (hl : xs.length ≤ 1000) (hB : base ≤ W.heap.size) (hs : PlAt W b s) (hb : b < base) :
    Calls Tryd.prog 35 #[.slice a n c, .func (.func 37) #[] #[.pointer (some ⟨b, 0, none⟩)]] W (DelPost W base (.slice a n c) s xs) := by
  have mixed : Tryd.prog.follows .mixedOrders = true := by kernel_rfl
  obtain ⟨a', n', c', e1, hn, hc, hrow, hg⟩ := ho.form flatN
  injection e1 with e1 e2 e3
  subst e1 e2 e3
  have CI := Lib.hid (idxN_any a xs n c b s W hrow hn (by omega) hs)
  have HO := Lib.hid ho
  have HN := Lib.hid hn
  have HGG := Lib.hid hg
  have HS := Lib.hid hs
  have HBB := Lib.hid hb
  have HB0 := Lib.hid hB
  have hnl : n ≤ 1000 := by omega
  have hnc : n ≤ c := hc
  clear ho hn hrow hg hs hB hl hb hc
  go_enter Tryd.func35, Tryd.ntmps35
  go_wp2_with fail
  refine (CI.out).mono ?_
  rintro e w1 ⟨hb1, hcase⟩
  have HB1 := Lib.hid hb1
  clear hb1 CI
  rcases hcase with ⟨i, x, hx, hk, hall, rfl⟩ | ⟨hall, rfl⟩
  · have hin : i < n := by rw [HN.out]; exact (List.getElem?_eq_some_iff.1 hx).1
    obtain ⟨g, rfl⟩ := HGG.out (by omega)
    have hin1 : ((i : Int) == -1) = false := by rw [beq_eq_false_iff_ne]; omega
    have hin2 : ¬ (i : Int) = -1 := by omega
    have HI0 : Hid (DelI W base g n c s xs w1 i (i + 1) xs) := by
      refine ⟨HO.out.below HB1.out, HN.out.symm, ?_, rfl, by omega, HB1.out.mono HB0.out⟩
      rw [take_snoc hx, List.filter_append, List.filter_eq_self.2 hall]
      simp [hk]
    clear hx hk hall
    go_wp2
    clear hin1 hin2
    go_loopg [5, 6] n (fun gg s5 s6 wr => ∃ (i j : Nat) (zs : List ND), s5 = .int .i64 i ∧ s6 = .int .i64 j ∧ j ≤ n ∧ n - j ≤ gg ∧ Hid (DelI W base g n c s xs wr i j zs))
    case atStart => exact ⟨i, i + 1, xs, rfl, by go_num, by omega, by omega, HI0⟩
    case round =>
      obtain ⟨i, j, zs, rfl, rfl, hj, hgj, HI⟩ := hrel
      clear HI0 hin
      have hij := HI.out.lt
      by_cases hjn : j < n
      · have hjz : (j : Int) < (n : Int) := by omega
        obtain ⟨x, hx⟩ : ∃ x, xs[j]? = some x := ⟨_, List.getElem?_eq_getElem (by rw [← HN.out]; exact hjn)⟩
        have hz : zs[j]? = some x := by
          have h1 := congrArg (fun l => l[0]?) HI.out.dr
          simp only [List.getElem?_drop, Nat.add_zero] at h1
          rw [h1, hx]
        have HAT : Hid (FAt ND.enc wr g (j * 5) x) := fun t u hu => by
          have h1 := World.ownsRow.cells HI.out.ow (g := g) rfl (j * 5 + t) u (flat_at flatN j hz t u hu)
          rw [addr_add, Nat.zero_add] at h1
          exact h1
        have HX := Lib.hid hx
        have hbs : base ≤ wr.heap.size := by have h1 := HI.out.ow.lt (g := g) rfl; omega
        have HBS := Lib.hid hbs
        have e0 : wr.cell? ⟨g, j * 5, none⟩ = some (.int .i64 x.id.1) := HAT.out 0 _ rfl
        have e1 : wr.cell? ⟨g, j * 5 + 1, none⟩ = some (.int .i64 x.id.2) := HAT.out 1 _ rfl
        have e2 : wr.cell? ⟨g, j * 5 + 2, none⟩ = some (.int .i64 x.par.1) := HAT.out 2 _ rfl
        have e3 : wr.cell? ⟨g, j * 5 + 3, none⟩ = some (.int .i64 x.par.2) := HAT.out 3 _ rfl
        have e4 : wr.cell? ⟨g, j * 5 + 4, none⟩ = some (.string x.key) := HAT.out 4 _ rfl
        clear hx hz hbs
        go_upto_region 8 with fail
        clear e0 e1 e2 e3 e4
        obtain ⟨w5, hw5⟩ : ∃ w5, wr.alloc (objN x) = w5 := ⟨_, rfl⟩
        have HB5 : Hid (Below wr.heap.size wr w5) := by show Below _ _ _; rw [← hw5]; exact box_bel wr _
        have HQ5 : Hid (Blk w5 wr.heap.size x.enc) := by show Blk _ _ _; rw [← hw5]; exact objN_new wr x
        rw [hw5]
        clear hw5
        have HP5 : Hid (PlAt w5 b s) := HS.out.far (HI.out.bl.trans (HB5.out.mono HBS.out)) HBB.out
        have C := Lib.hid (kid1_any x b s w5 HP5.out)
        obtain ⟨q, hq⟩ : ∃ q, wr.heap.size = q := ⟨_, rfl⟩
        rw [hq] at HQ5 ⊢
        clear hq
        have k0 := HQ5.out.cell 0 _ rfl
        have k1 := HQ5.out.cell 1 _ rfl
        have k2 := HQ5.out.cell 2 _ rfl
        have k3 := HQ5.out.cell 3 _ rfl
        have k4 := HQ5.out.cell 4 _ rfl
        go_wp2_with fail
        clear k0 k1 k2 k3 k4
        refine (C.out).mono ?_
        rintro e w6 ⟨rfl, hb6⟩
        have HB6 : Hid (Below wr.heap.size wr w6) := HB5.out.trans (hb6.mono HB5.out.size)
        have HQ6 : Hid (Blk w6 q x.enc) := HQ5.out.next hb6
        clear hb6 C
        cases hkp : keepB s x
        · have HI6 := Lib.hid (HI.out.skip HX.out hkp HB6.out HBS.out)
          clear hkp
          go_wp2_with fail
          go_roundg (n - (j + 1))
          case measure => omega
          case rel => exact ⟨i, j + 1, zs, rfl, by go_num, by omega, by omega, HI6⟩
        · have HI6 := Lib.hid (HI.out.move HX.out hkp HB6.out HBS.out HB0.out HN.out)
          have hiz : (i : Int) < (n : Int) := by omega
          have hst : (storeVar 44 ⟨g, i * 5, none⟩ (valN x)).run Tryd.prog w6 = .ok () (setsF w6 g (i * 5) x.enc 0) := by
            have ho6 := HI.out.ow.below HB6.out
            obtain ⟨y, hy⟩ : ∃ y, zs[i]? = some y := ⟨_, List.getElem?_eq_getElem (by rw [HI.out.ln]; omega)⟩
            refine storeVar_is (T := 44) (g := g) (o := i * 5) (cs := x.enc) sizeND rfl (flatN.one x) (fun t ht => ?_) (fun t ht => ho6.free HI.out.ln.symm _)
            have h1 := World.ownsRow.cells ho6 (g := g) rfl (i * 5 + t) _ (flat_at flatN i hy t _ (List.getElem?_eq_getElem (show t < 5 from ht)))
            rw [addr_add, Nat.zero_add] at h1
            rw [h1]; rfl
          have m0 := HQ6.out.cell 0 _ rfl
          have m1 := HQ6.out.cell 1 _ rfl
          have m2 := HQ6.out.cell 2 _ rfl
          have m3 := HQ6.out.cell 3 _ rfl
          have m4 := HQ6.out.cell 4 _ rfl
          clear hkp
          go_wp2_with (refine wpList_storeS rfl _ _ 44 rfl g (i * 5) rfl _ rfl hst ?_)
          go_roundg (n - (j + 1))
          case measure => omega
          case rel => exact ⟨i + 1, j + 1, _, by go_num, by go_num, by omega, by omega, HI6⟩
      · obtain rfl : j = n := by omega
        have hjz : ¬ (j : Int) < (j : Int) := by omega
        have hil : (i : Int) ≤ (j : Int) := by omega
        have hs1 : ∀ w, (Instr.slice 22 (.slice (some ⟨g, 0, none⟩) j c) (some (.int .i64 (i : Int))) none none).run Tryd.prog w = .ok (.slice (some ⟨g, i * 5, none⟩) (j - i) (c - i)) w := fun w => by
          rw [sliceN_l w _ j c i (by omega)]
          unfold partF
          rw [if_neg (by omega), Option.map_some, addr_add, Nat.zero_add]
        have hs2 : ∀ w, (Instr.slice 22 (.slice (some ⟨g, 0, none⟩) j c) none (some (.int .i64 (i : Int))) none).run Tryd.prog w = .ok (.slice (some ⟨g, 0, none⟩) i c) w := fun w => sliceN_h w g j c i (by omega)
        have hcl := fun ty => run_clearN wr ty g (i * 5) (j - i) (c - i) (by omega) (fun t ht => by
          have hz : (zs.flatMap ND.enc).length = j * 5 := by rw [flat_len flatN, HI.out.ln]
          have h1 := World.ownsRow.cells HI.out.ow (g := g) rfl (i * 5 + t) _ (List.getElem?_eq_getElem (by rw [hz]; omega))
          rw [addr_add, Nat.zero_add] at h1
          rw [h1]; rfl) (fun t _ => HI.out.ow.free HI.out.ln.symm _)
        obtain ⟨h1, h2⟩ := HI.out.ow.cut flatN HI.out.ln.symm (show i ≤ j by omega) (Builtin.zeroCells zNv.cells (j - i)).toList
        have HF : Hid (OwnF 44 5 ND.enc (wr.setCells g (i * 5) (Builtin.zeroCells zNv.cells (j - i)).toList) base (.slice (some ⟨g, 0, none⟩) i c) (xs.filter (keepB s))) := by
          have h3 := HI.out.tk
          have h4 : xs.take j = xs := List.take_of_length_le (by have := HN.out; omega)
          rw [h4] at h3
          rw [← h3]
          exact h1
        have HBF := Lib.hid (bel_own HB0.out HI.out.bl h2 (HI.out.ow.lt (g := g) rfl).1)
        clear h1 h2
        generalize wr.setCells g (i * 5) (Builtin.zeroCells zNv.cells (j - i)).toList = w9 at hcl HF HBF
        obtain ⟨q1, hq1⟩ : ∃ q1, j - i = q1 := ⟨_, rfl⟩
        obtain ⟨q2, hq2⟩ : ∃ q2, c - i = q2 := ⟨_, rfl⟩
        rw [hq1, hq2] at hs1 hcl
        clear hq1 hq2
        go_wp2_with (refine wpList_clear rfl _ 22 rfl (.slice (some ⟨g, i * 5, none⟩) q1 q2) rfl (hcl _) ?_)
        go_ret
        exact ⟨_, rfl, HF.out, HBF.out, rfl⟩
  · have HF : Hid (xs.filter (keepB s) = xs) := List.filter_eq_self.2 hall
    clear hall
    go_wp2
    go_ret
    exact ⟨_, rfl, by rw [HF.out]; exact HO.out.below HB1.out, HB1.out.mono HB0.out, rfl⟩
end Go.Proofs.YtjlbpmmckgjajaaDoor
