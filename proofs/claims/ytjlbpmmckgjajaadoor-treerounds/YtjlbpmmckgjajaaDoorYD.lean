/- Joined: TF8 TN0. -/
import Derived.Test.YtjlbpmmckgjajaaDoorYC
import Derived.Shelf.SlSortCmp.InsertionK

/- What a sort of nodes asks of its closure. -/
namespace Go.Proofs.YtjlbpmmckgjajaaDoor
open Go.RowKit Go.Lib Go.Maps Go.Sort St
set_option linter.unusedVariables false

/-- a call that only lays blocks -/
def IntGrow (w : World) (z : Int) (e : Ending) (w' : World) : Prop := e = .returned (.int .i64 z) ∧ ∃ q os', w' = grow (w.drewN q) os'
set_option maxHeartbeats 400000 in
theorem cmpG_any (t r u v : Int) (w : World) : Calls Tryd.prog 50 #[.agg #[.int .i64 t, .int .i64 r], .agg #[.int .i64 u, .int .i64 v]] w (IntGrow w (cmpS t r u v)) := by
  by_cases g1 : t = u
  · have hc : cmpS t r u v = cmpI r v := by unfold cmpS; rw [if_pos g1]
    rw [hc]
    have C := Lib.hid (fun W => compare_any r v W)
    clear hc
    generalize cmpI r v = z at *
    go_enter Tryd.func50, Tryd.ntmps50
    go_wp2_with fail
    refine (C.out _).mono ?_
    rintro e w' ⟨rfl, rfl⟩
    go_wp2
    go_ret
    exact ⟨rfl, 0, _, by rw [alloc_eq_grow, alloc_eq_grow, grow_grow]; rfl⟩
  · have hc : cmpS t r u v = cmpI t u := by unfold cmpS; rw [if_neg g1]
    rw [hc]
    have C := Lib.hid (fun W => compare_any t u W)
    clear hc
    generalize cmpI t u = z at *
    go_enter Tryd.func50, Tryd.ntmps50
    go_wp2_with fail
    refine (C.out _).mono ?_
    rintro e w' ⟨rfl, rfl⟩
    go_wp2
    go_ret
    exact ⟨rfl, 0, _, by rw [alloc_eq_grow, alloc_eq_grow, grow_grow]; rfl⟩
def cmpN (x y : ND) : Int := cmpS x.id.1 x.id.2 y.id.1 y.id.2
abbrev valN (x : ND) : Value := .agg #[.int .i64 x.id.1, .int .i64 x.id.2, .int .i64 x.par.1, .int .i64 x.par.2, .string x.key]
set_option maxHeartbeats 1000000 in
theorem cmpN_any (x y : ND) (w : World) : Calls Tryd.prog 68 #[valN x, valN y] w (IntGrow w (cmpN x y)) := by
  have C := Lib.hid (fun W => cmpG_any x.id.1 x.id.2 y.id.1 y.id.2 W)
  have hc : cmpN x y = cmpS x.id.1 x.id.2 y.id.1 y.id.2 := rfl
  rw [hc]
  clear hc
  generalize cmpS x.id.1 x.id.2 y.id.1 y.id.2 = z at *
  go_enter Tryd.func68, Tryd.ntmps68
  go_wp2_with fail
  refine (C.out _).mono ?_
  rintro e w' ⟨rfl, q, os', rfl⟩
  go_wp2
  go_ret
  rw [alloc_eq_grow, alloc_eq_grow, grow_grow]
  exact ⟨rfl, q, _, grow_grow (w.drewN q) _ os'⟩
theorem ltP_cmp (a b : ND) : ltOf cmpN a b = ltP a.id b.id := by
  rw [Bool.eq_iff_iff, ltP_iff]
  unfold ltOf cmpN cmpS cmpI
  simp only [decide_eq_true_eq]
  constructor
  · intro h
    (repeat (first | omega | split at h))
  · intro h
    (repeat (first | omega | split))
theorem swoN : SWO (ltOf cmpN) where
  irrefl x := by rw [ltP_cmp]; exact ltP_irr _
  trans x y z h1 h2 := by rw [ltP_cmp] at *; exact ltP_trans h1 h2
  ntrans x y z h1 h2 := by
    rw [ltP_cmp] at *
    rcases ltP_tri x.id z.id with e | e | e
    · rcases ltP_tri y.id z.id with f | f | f
      · rw [f] at h2; cases h2
      · rw [← f, h1] at e; cases e
      · rw [ltP_trans e f] at h1; cases h1
    · rw [e]; exact ltP_irr _
    · cases g : ltP x.id z.id
      · rfl
      · exact absurd (ltP_trans g e) (by rw [ltP_irr]; decide)
end Go.Proofs.YtjlbpmmckgjajaaDoor

/- A row of flat structs that is owned, ahead of a sort of it and behind. -/
namespace Go.Proofs.YtjlbpmmckgjajaaDoor
open Go.RowKit Go.Lib Go.Maps Go.Sort
set_option linter.unusedVariables false

instance : Inhabited ND := ⟨⟨(0, 0), (0, 0), ⟨#[]⟩⟩⟩
section
variable {α : Type} [Inhabited α] {e st : TypeId} {k bytes : Nat} {enc : α → List Value}
theorem flatK_at (F : Flat e st k bytes enc) (d : Array α) (t : Nat) (ht : t < d.size * k) : (d.toList.flatMap enc)[t]? = some (flatK enc k d)[t]! := by
  have hp := F.pos
  have hd : t / k * k + t % k = t := by rw [Nat.mul_comm]; exact Nat.div_add_mod t k
  have hm : t % k < k := Nat.mod_lt _ hp
  have hq : t / k < d.size := Nat.div_lt_of_lt_mul (by rw [Nat.mul_comm]; exact ht)
  have hx : d.toList[t / k]? = some d[t / k]! := by
    rw [getElem!_pos d _ hq]
    simp [hq]
  have hl : t % k < (enc d[t / k]!).length := by rw [F.len]; exact hm
  have h1 := flat_at F (t / k) hx (t % k) _ (List.getElem?_eq_getElem hl)
  rw [hd] at h1
  rw [h1, get_flatK _ _ _ _ ht]
  congr 1
  exact (getElem!_pos (enc d[t / k]!) (t % k) hl).symm
theorem flatK_list (F : Flat e st k bytes enc) (d : Array α) : (flatK enc k d).toList = d.toList.flatMap enc := by
  apply List.ext_getElem?
  intro t
  rcases Nat.lt_or_ge t (d.size * k) with ht | ht
  · rw [flatK_at F d t ht, getElem!_pos (flatK enc k d) t (by rw [size_flatK]; exact ht)]
    simp [ht]
  · rw [List.getElem?_eq_none (by simpa using ht), List.getElem?_eq_none (by rw [flat_len F]; simpa using ht)]
theorem OwnF.holds (F : Flat e st k bytes enc) {w : World} {base g n cap : Nat} {d : Array α} (h : OwnF e k enc w base (.slice (some ⟨g, 0, none⟩) n cap) d.toList) (hn : n = d.toList.length) : HoldsK enc k w g 0 d := by
  intro t ht
  rw [size_flatK] at ht
  refine ⟨?_, h.free hn _⟩
  have h1 := World.ownsRow.cells h (g := g) rfl t _ (flatK_at F d t ht)
  rw [addr_add] at h1
  exact h1
theorem sortW_grown (w : World) (g m : Nat) (d : Array α) (os : Array Obj) (hg : g < w.heap.size) : w.grownBy (sortWorldK enc k w g 0 m d os) (some g) := by
  unfold sortWorldK
  refine ⟨rfl, rfl, rfl, by rw [size_grow, size_putRowK]; exact Nat.le_add_right _ _, fun j hj hne => ?_⟩
  rw [heap_grow_old _ _ (by rw [size_putRowK]; exact hj)]
  show ((w.heap.modify g _)[j]?) = _
  rw [Array.getElem?_modify, if_neg (fun e => hne (by rw [e]))]
theorem OwnF.sorted (F : Flat e st k bytes enc) {w : World} {base g n cap : Nat} {xs : List α} (h : OwnF e k enc w base (.slice (some ⟨g, 0, none⟩) n cap) xs) (hn : n = xs.length) (m : Nat) (d : Array α) (os : Array Obj) (hd : d.size = xs.length) :
    OwnF e k enc (sortWorldK enc k w g 0 m d os) base (.slice (some ⟨g, 0, none⟩) n cap) d.toList := by
  subst hn
  have hdl : d.toList.length = xs.length := by simpa using hd
  refine ⟨flat_len F _, ?_⟩
  rcases h.2 with ⟨h0, _⟩ | ⟨g', cap', cur, e1, h1, h2, h3, h4, h5, h6⟩
  · cases h0
  · injection e1 with e1 e2 e3
    injection e1 with e1
    injection e1 with e1 _ _
    subst e1 e3
    refine .inr ⟨g, cap, putCells id 0 (flatK enc k d) cur, by rw [hdl], h1, ?_, by rw [hdl]; exact h3, h4, by simp [putCells, h5], ?_⟩
    · unfold sortWorldK
      rw [heap_grow_old _ _ (by rw [size_putRowK]; exact (Array.getElem?_eq_some_iff.1 h2).1)]
      show ((w.heap.modify g _)[g]?) = _
      rw [Array.getElem?_modify, if_pos rfl]
      show (w.heap[g]?).map _ = _
      rw [h2]
      rfl
    · rw [← flatK_list F d]
      apply List.ext_getElem?
      intro t
      have hc : d.size * k ≤ cap * k := Nat.mul_le_mul_right k (by omega)
      rw [List.getElem?_take, hdl, ← hd]
      split
      · rename_i ht
        rw [Array.getElem?_toList, Array.getElem?_toList]
        unfold putCells
        rw [Array.getElem?_mapIdx, Array.getElem?_eq_getElem (by omega), Option.map_some, if_pos ⟨Nat.zero_le _, by rw [size_flatK]; omega⟩, Nat.sub_zero, getElem!_pos (flatK enc k d) t (by rw [size_flatK]; exact ht), Array.getElem?_eq_getElem (by rw [size_flatK]; exact ht)]
        rfl
      · rw [Array.getElem?_toList, Array.getElem?_eq_none (by rw [size_flatK]; omega)]
theorem sortW_bel {a w : World} {B g m : Nat} {d : Array α} {os : Array Obj} (hb : Below B a w) (hg : g < w.heap.size) (hB : B ≤ g) : Below B a (sortWorldK enc k w g 0 m d os) := by
  have h := sortW_grown (enc := enc) (k := k) w g m d os hg
  exact ⟨h.os.trans hb.os, h.tape.trans hb.tape, h.output.trans hb.output, Nat.le_trans hb.size h.size, fun j hj => (h.block j (by have := hb.size; omega) (fun e => by injection e with e; omega)).trans (hb.block j hj)⟩
end
theorem ndN_len (x : ND) : (ND.enc x).length = 5 := rfl
theorem aggND (w : World) : (isAgg 44).run Tryd.prog w = .ok true w := by
  simp [isAgg, run_underlying Tryd.underlying44, Sem.run_bind, Result.andThen]
theorem sizeND (w : World) : (Go.sizeOf 44).run Tryd.prog w = .ok 5 w := by
  have h : (Tryd.prog.info? 44).map (fun i => (i.zero, i.size, i.bytes)) = some (some (.agg #[.int .i64 0, .int .i64 0, .int .i64 0, .int .i64 0, .string ⟨#[]⟩]), 5, 48) := by kernel_rfl
  obtain ⟨i0, hi, hz0, hz1, hz2⟩ := info_parts h
  simp [Go.sizeOf, typeInfo, hi, hz1]
theorem cmpN_lays (g off size : Nat) (w : World) : CmpLays Tryd.prog 68 #[] ND.enc 5 cmpN g off size w := fun _ _ _ _ x y => cmpN_any x y _
/-- what a sort of the nodes that are there leaves -/
theorem sort_list {ps : List Pl} {sp : List SpD} {ns : List ND} (h : FoM ps sp ns) {d d' : Array ND} (hd : d.toList = liveN sp) (hp : PermIn 0 d.size d d') (hs : SortedIn (ltOf cmpN) 0 d.size d') : d'.toList = ns := by
  have hz : d'.size = d.size := by
    have h1 := (perm_all hp).length_eq
    simpa using h1
  refine live_sorted h (by rw [← hd]; exact perm_all hp) ?_
  rw [← hz] at hs
  exact (sorted_pair hs).imp fun {a b} hab => by rw [ltP_cmp] at hab; exact hab
end Go.Proofs.YtjlbpmmckgjajaaDoor
