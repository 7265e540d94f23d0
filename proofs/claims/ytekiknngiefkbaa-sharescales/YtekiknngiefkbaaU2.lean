/- The indexes of the rests, the largest first. -/
import Derived.Test.YtekiknngiefkbaaU1
import Derived.Laws.MakeOwn
import Derived.Laws.OwnMore
import Derived.Laws.Rows
import Derived.Deep.Draws
namespace Go.Proofs.Ytekiknngiefkbaa
open Go.Shelf Go.RowKit Go.Lib Go.Sort Go.Proofs

/-- the key of the order: a larger rest first, of equal ones the smaller index -/
def keyR (rs : List Int) (i : Nat) : Int := (i : Int) - 512 * rs.getD i 0
/-- the indexes, each once, by the key -/
structure OrdOk (rs : List Int) (ord : List Nat) : Prop where
  perm : ord.Perm (List.range rs.length)
  up : ∀ s t, s < t → t < ord.length → keyR rs (ord.getD s 0) < keyR rs (ord.getD t 0)

def ByPost (w : World) (rs : List Int) (e : Ending) (w' : World) : Prop :=
  ∃ g ord, e = .returned (.slice (some ⟨g, 0, none⟩) rs.length rs.length) ∧ OrdOk rs ord ∧ (∀ i, i < rs.length → w'.cell? ⟨g, i, none⟩ = some (.int .i64 (ord.getD i 0 : Nat))) ∧ w.heap.size ≤ g ∧ g < w'.heap.size ∧ Below w.heap.size w w'

theorem Try.info3 : (Try.prog.info? 3).map (fun i => (i.zero, i.size, i.bytes)) = some (some (.int .i64 0), 1, 8) := by kernel_rfl

def Bk (w : World) (g : Nat) (cs : Array Value) : Prop := w.heap[g]? = some (.cells cs 3 (0, 0))
theorem Bk.lt {w : World} {g : Nat} {cs : Array Value} (h : Bk w g cs) : g < w.heap.size := by
  rcases Nat.lt_or_ge g w.heap.size with hlt | hge
  · exact hlt
  · unfold Bk at h; rw [Array.getElem?_eq_none hge] at h; cases h
theorem Bk.cell {w : World} {g : Nat} {cs : Array Value} (h : Bk w g cs) (i : Nat) : w.cell? ⟨g, i, none⟩ = cs[i]? := cell_of_row w g i cs 3 (0, 0) h
theorem Bk.frozen {w : World} {g : Nat} {cs : Array Value} (h : Bk w g cs) (i : Nat) : w.frozen? ⟨g, i, none⟩ = false := by
  unfold Bk at h
  simp [World.frozen?, h]
theorem Bk.set_ {w : World} {g : Nat} {cs : Array Value} (h : Bk w g cs) (i : Nat) (u : Value) : Bk (w.setCell ⟨g, i, none⟩ u) g (cs.setIfInBounds i u) := by
  unfold Bk at h ⊢
  simp [World.setCell, Array.getElem?_modify, h]

theorem run_make_rowN {P : Program} (t e : TypeId) (i : TypeInfo) (z : Value) (ht : P.underlying t = some (.slice e)) (hi : P.info? e = some i) (hz : i.zero = some z)
    (kl kc : IntKind) (n c : Nat) (hnc : n ≤ c) (hbytes : i.bytes * c ≤ 281474976710656) (h63 : c ≤ 9223372036854775807) (w : World) :
    (Instr.makeSlice t (.int kl (n : Int)) (.int kc (c : Int))).run P w = .ok (.slice (some ⟨w.heap.size, 0, none⟩) n c) (w.alloc (.cells (madeCells z.cells (c * i.size)) e)) := by
  have hb : (i.bytes : Int) * (c : Int) ≤ 281474976710656 := by
    have h : ((i.bytes * c : Nat) : Int) ≤ 281474976710656 := by omega
    rwa [Int.natCast_mul] at h
  have hr := run_make (P := P) w t e i z ht hi hz kl kc n c (by omega) (by omega) hb (by omega)
  simp only [Int.toNat_natCast] at hr
  exact hr

theorem cmpI_lt (x y : Int) : cmpI x y < 0 ↔ x < y := by
  unfold cmpI
  by_cases h1 : x < y
  · simp [h1]
  · by_cases h2 : y < x <;> simp [h1, h2]

theorem extract_all {α : Type} (d : Array α) (n : Nat) (h : d.size = n) : (d.extract 0 n).toList = d.toList := by subst h; simp

theorem ord_of (rs : List Int) (m n' : Nat) (hn' : n' = m + 1) (hm : rs.length = m + 1) (h256 : rs.length ≤ 256) (d' : Array (Fin (m + 1))) (hp : PermIn 0 n' (Array.ofFn (fun i : Fin (m + 1) => i)) d') (hu : Up (fun x => keyR rs x.val) d' 0 n') :
    OrdOk rs (d'.toList.map (·.val)) ∧ d'.size = m + 1 ∧ ∀ i, i < m + 1 → (d'.toList.map (·.val)).getD i 0 = (d'[i]!).val := by
  subst hn'
  have hs : d'.size = m + 1 := by have := hp.1; simpa using this
  have hperm : (d'.toList.map (·.val)).Perm (List.range (m + 1)) := by
    have h1 := hp.2.2
    have e1 := extract_all d' (m + 1) hs
    have e2 := extract_all (Array.ofFn (fun i : Fin (m + 1) => i)) (m + 1) (by simp)
    rw [e1, e2] at h1
    have h2 := h1.map (·.val)
    have e3 : (Array.ofFn (fun i : Fin (m + 1) => i)).toList.map (·.val) = List.range (m + 1) := by
      apply List.ext_getElem
      · simp
      · intro i h1 h2
        rw [List.getElem_map, List.getElem_range, Array.getElem_toList, Array.getElem_ofFn]
    rw [e3] at h2
    exact h2
  have hget : ∀ i, i < m + 1 → (d'.toList.map (·.val)).getD i 0 = (d'[i]!).val := by
    intro i hi
    have hi' : i < d'.size := by omega
    rw [getElem!_pos d' i hi']
    simp [List.getD, hi']
  refine ⟨⟨by rw [hm]; exact hperm, ?_⟩, hs, hget⟩
  intro s t hst ht
  have ht' : t < m + 1 := by simpa [hs] using ht
  have h1 := hu s t (Nat.zero_le _) (Nat.le_of_lt hst) ht'
  rw [hget s (by omega), hget t ht']
  simp only at h1
  have hnd : (d'.toList.map (·.val)).Nodup := hperm.nodup_iff.2 List.nodup_range
  have hne : (d'[s]!).val ≠ (d'[t]!).val := by
    intro e
    rw [← hget s (by omega), ← hget t ht'] at e
    have hl : (d'.toList.map (·.val)).length = m + 1 := by simp [hs]
    rw [List.getD_eq_getElem?_getD, List.getD_eq_getElem?_getD, List.getElem?_eq_getElem (by omega), List.getElem?_eq_getElem (by omega), Option.getD_some, Option.getD_some] at e
    exact List.pairwise_iff_getElem.1 hnd s t (by omega) (by omega) hst e
  have b1 := (d'[s]!).isLt
  have b2 := (d'[t]!).isLt
  unfold keyR at h1 ⊢
  generalize (d'[s]!).val = x at *
  generalize (d'[t]!).val = y at *
  generalize rs.getD x 0 = p at *
  generalize rs.getD y 0 = q at *
  omega

def SortPost (W : World) (g : Nat) (rs : List Int) (e : Ending) (w' : World) : Prop :=
  e = .returned (.tuple #[]) ∧ ∃ ord, OrdOk rs ord ∧ (∀ i, i < rs.length → w'.cell? ⟨g, i, none⟩ = some (.int .i64 (ord.getD i 0 : Nat))) ∧ Below g W w' ∧ g < w'.heap.size

theorem sort_call (W : World) (g bx b off cap : Nat) (rs : List Int) (cs : Array Value) (h0 : 0 < rs.length) (h256 : rs.length ≤ 256) (hB : Bk W g cs) (hcs : cs.size = rs.length) (hid : ∀ i, i < rs.length → cs[i]? = some (.int .i64 (i : Int)))
    (hbox : W.cell? ⟨bx, 0, none⟩ = some (.slice (some ⟨b, off, none⟩) rs.length cap)) (hrow : ∀ i, i < rs.length → W.cell? ⟨b, off + i, none⟩ = some (.int .i64 (rs.getD i 0))) (hbx : bx < g) (hb : b < g) :
    Calls Try.prog 27 #[.slice (some ⟨g, 0, none⟩) rs.length rs.length, .func (.func 28) #[] #[.pointer (some ⟨bx, 0, none⟩)]] W (SortPost W g rs) := by
  obtain ⟨m, hm⟩ : ∃ m, rs.length = m + 1 := ⟨rs.length - 1, by omega⟩
  have hg := hB.lt
  have hd0 : (Array.ofFn (fun i : Fin (m + 1) => i)).size = m + 1 := by simp
  have hget0 : ∀ t, t < m + 1 → ((Array.ofFn (fun i : Fin (m + 1) => i))[t]!).val = t := by
    intro t ht
    rw [getElem!_pos _ t (by simpa using ht)]
    simp
  have hH : Holds (encF m) W g 0 (Array.ofFn (fun i : Fin (m + 1) => i)) := by
    intro j hj
    rw [hd0] at hj
    refine ⟨?_, by rw [Nat.zero_add]; exact hB.frozen j⟩
    rw [Nat.zero_add, hB.cell j, hid j (by omega)]
    unfold encF
    rw [hget0 j hj]
  have R : Row1 (encF m) W g 0 (Array.ofFn (fun i : Fin (m + 1) => i)) := ⟨encF_one m, hH, hg⟩
  have eg : ∀ args w, (callFunc 28 args).run Try.prog w = .ok (.enter 28 args) w := enters_of Try.func28 (by kernel_rfl) rfl
  have hcmp : CmpLays1 Try.prog 28 #[.pointer (some ⟨bx, 0, none⟩)] (encF m) (fun x y => cmpI (rs.getD y.val 0) (rs.getD x.val 0)) g 0 (Array.ofFn (fun i : Fin (m + 1) => i)).size W := by
    apply CmpReads.lays
    intro mm os dk _ x y
    exact closure_any bx b off rs.length cap x.val y.val _ _ _ ((sortWorld_cell _ _ _ _ _ _ _ _ _ (by omega) (by omega)).trans hbox) ((sortWorld_cell _ _ _ _ _ _ _ _ _ (by omega) (by omega)).trans (hrow _ (by have := x.isLt; omega))) ((sortWorld_cell _ _ _ _ _ _ _ _ _ (by omega) (by omega)).trans (hrow _ (by have := y.isLt; omega))) (by have := x.isLt; omega) (by have := y.isLt; omega)
  have hst := stable_any (encF m) (fun x y => cmpI (rs.getD y.val 0) (rs.getD x.val 0)) (fun x => keyR rs x.val) (·.val) 28 #[.pointer (some ⟨bx, 0, none⟩)] g 0 rs.length (Array.ofFn (fun i : Fin (m + 1) => i)) W W eg hcmp R (SW.start hH) (by omega)
    (by
      intro x y hxy
      have b1 := x.isLt
      have b2 := y.isLt
      unfold ltOf keyR
      rw [decide_eq_decide, cmpI_lt]
      generalize rs.getD x.val 0 = p
      generalize rs.getD y.val 0 = q
      omega)
    (by intro t ht; rw [hd0] at ht; exact hget0 t ht)
  refine (sortStable_any _ _ _ _ _ _ _ (by rw [hd0, hm]) hst (fun e w' h => h.1)).mono ?_
  rintro e w' ⟨rfl, d', hS, hp, hu⟩
  obtain ⟨ho, hs, hgt⟩ := ord_of rs m _ hd0 hm h256 d' hp hu
  refine ⟨rfl, _, ho, fun i hi => ?_, sw_below hS (by omega), hS.lt hg⟩
  have hi' : i < d'.size := by omega
  have hc := (hS.holds hg hH (by rw [hd0]; exact hs) i hi').1
  rw [Nat.zero_add] at hc
  rw [hc, hgt i (by omega)]
  rfl

set_option maxHeartbeats 1000000 in
set_option maxRecDepth 100000 in
theorem byRests_any (b off cap : Nat) (rs : List Int) (w : World) (h0 : 0 < rs.length) (h256 : rs.length ≤ 256) (hrow : ∀ i, i < rs.length → w.cell? ⟨b, off + i, none⟩ = some (.int .i64 (rs.getD i 0))) :
    Calls Try.prog 22 #[.slice (some ⟨b, off, none⟩) rs.length cap] w (ByPost w rs) := by
  have mixed : Try.prog.follows .mixedOrders = true := by kernel_rfl
  have HR := Lib.hid hrow
  clear hrow
  obtain ⟨n, hn⟩ : ∃ n, n = rs.length := ⟨_, rfl⟩
  have HN := Lib.hid hn
  rw [← hn] at h0 h256 ⊢
  clear hn
  obtain ⟨i0, hi, hz0, hz1, hz2⟩ := info_parts Try.info3
  have hmk : ∀ W : World, (Instr.makeSlice 23 (.int .i64 (n : Int)) (.int .i64 (n : Int))).run Try.prog W = .ok (.slice (some ⟨W.heap.size, 0, none⟩) n n) (W.alloc (.cells (madeCells (Value.int .i64 0).cells n) 3)) := fun W => by
    have := run_make_rowN (P := Try.prog) 23 3 i0 (.int .i64 0) Try.underlying23 hi hz0 .i64 .i64 n n (Nat.le_refl _) (by rw [hz2]; omega) (by omega) W
    rw [hz1, Nat.mul_one] at this
    exact this
  obtain ⟨mc, hmc⟩ : ∃ q, q = madeCells (Value.int .i64 0).cells n := ⟨_, rfl⟩
  have hms : mc.size = n := by rw [hmc]; exact size_madeCells _ _
  rw [← hmc] at hmk
  clear hmc
  have HMS := Lib.hid hms
  clear hms
  go_enter Try.func22, Try.ntmps22
  go_wp2
  go_loopg [10] n (fun g1 v wr => ∃ (k : Nat) (cs : Array Value), v = .int .i64 k ∧ k ≤ n ∧ n - k ≤ g1 ∧ Hid (Bk wr (w.heap.size + 1) cs ∧ cs.size = n ∧ (∀ i, i < k → cs[i]? = some (.int .i64 (i : Int))) ∧ Below (w.heap.size + 1) (w.alloc (.cells #[.slice (some ⟨b, off, none⟩) n cap] 23)) wr))
  case atStart => exact ⟨0, mc, rfl, by omega, by omega, ⟨by have h := heap_alloc_new (w.alloc (.cells #[.slice (some ⟨b, off, none⟩) n cap] 23)) (.cells mc 3); rw [World.size_alloc] at h; exact h, HMS.out, fun i hi => by omega, (Below.refl _ _).alloc (by simp) _⟩⟩
  case round =>
    obtain ⟨k, cs, rfl, hkn, hg1, HB⟩ := hrel
    by_cases hlt : k < n
    · have hltz : (k : Int) < (n : Int) := by omega
      obtain ⟨u, hu⟩ : ∃ u, cs[k]? = some u := ⟨cs[k]'(by rw [HB.out.2.1]; exact hlt), by simp⟩
      have hc : wr.cell? ⟨w.heap.size + 1, k, none⟩ = some u := (HB.out.1.cell k).trans hu
      have hf : wr.frozen? ⟨w.heap.size + 1, k, none⟩ = false := HB.out.1.frozen k
      clear hu
      go_wp2
      go_roundg (n - (k + 1))
      case measure => omega
      case rel =>
        refine ⟨k + 1, _, by go_num, by omega, by omega, ⟨HB.out.1.set_ k (.int .i64 (k : Int)), by simpa using HB.out.2.1, fun i hi => ?_, HB.out.2.2.2.setCell (Nat.le_refl _) _⟩⟩
        have hik : i < cs.size := by have := HB.out.2.1; omega
        rw [Array.getElem?_setIfInBounds]
        by_cases e : k = i
        · subst e; rw [if_pos rfl, if_pos hik]
        · rw [if_neg e]; exact HB.out.2.2.1 i (by omega)
    · have hltz : ¬ (k : Int) < (n : Int) := by omega
      obtain rfl : n = k := by omega
      have HC : Hid (Calls Try.prog 27 #[.slice (some ⟨w.heap.size + 1, 0, none⟩) n n, .func (.func 28) #[] #[.pointer (some ⟨w.heap.size, 0, none⟩)]] wr (SortPost wr (w.heap.size + 1) rs)) := by
        obtain ⟨hB, hcs, hid, hbl⟩ := HB.out
        have hN := HN.out
        subst hN
        have hbl0 := World.block_lt_of_cell? _ _ (HR.out 0 h0)
        simp only at hbl0
        refine sort_call wr _ _ b off cap rs cs h0 h256 hB hcs hid ?_ (fun i hi => ?_) (by omega) (by omega)
        · rw [hbl.cell (p := ⟨w.heap.size, 0, none⟩) (by simp)]; simp
        · rw [hbl.cell (p := ⟨b, off + i, none⟩) (by simp only; omega), World.cell?_alloc_lt _ _ _ hbl0]; exact HR.out i hi
      go_wp2_with fail
      refine (HC.out).mono ?_
      rintro e w2 ⟨rfl, ord, ho, hc, hbl, hlw⟩
      have HF : Hid (ByPost w rs (.returned (.slice (some ⟨w.heap.size + 1, 0, none⟩) n n)) w2) := by
        have hN := HN.out
        subst hN
        exact ⟨w.heap.size + 1, ord, rfl, ho, hc, by omega, hlw, ((Below.refl _ _).alloc (Nat.le_refl _) _).trans ((HB.out.2.2.2.mono (by omega)).trans (hbl.mono (by omega)))⟩
      clear ho hc hbl hlw HC
      go_wp2
      go_ret
      exact HF.out
end Go.Proofs.Ytekiknngiefkbaa
