/- Joined: TX14 TX5 TX15. -/
import Derived.Test.YtjlbpmmckgjajaaDoorYU
import Derived.BigQuiet
import Derived.Test.YtjlbpmmckgjajaaDoorYT
import Derived.Test.YtjlbpmmckgjajaaDoorYW

/- Trees: is a stamp one of these. -/
namespace Go.Proofs.YtjlbpmmckgjajaaDoor
open Go.RowKit Go.Lib Go.Maps
set_option linter.unusedVariables false

def inSt (xs : List Pl) (s : Pl) : Int := if s ∈ xs then ((xs.findIdx (fun x => decide (x = s)) : Nat) : Int) else -1
theorem inSt_yes {xs : List Pl} {s : Pl} (h : s ∈ xs) : 0 ≤ inSt xs s := by unfold inSt; rw [if_pos h]; omega
theorem inSt_no {xs : List Pl} {s : Pl} (h : s ∉ xs) : inSt xs s = -1 := by unfold inSt; rw [if_neg h]
theorem inSt_at {xs : List Pl} {s : Pl} {k : Nat} (h : xs[k]? = some s) (ha : ∀ j x, j < k → xs[j]? = some x → x ≠ s) : inSt xs s = (k : Int) := by
  have hk := (List.getElem?_eq_some_iff.1 h).1
  unfold inSt
  rw [if_pos (List.mem_of_getElem? h)]
  congr 1
  rw [List.findIdx_eq hk]
  refine ⟨?_, fun j hj => ?_⟩
  · have := (List.getElem?_eq_some_iff.1 h).2
    simp [this]
  · have := ha j _ hj (List.getElem?_eq_getElem (by omega))
    simp [this]
set_option maxHeartbeats 2000000 in
set_option maxRecDepth 100000 in
theorem inStamps_any (a : Option Addr) (xs : List Pl) (n c : Nat) (t r : Int) (W : World) (hr : RowF 2 encP W a xs) (hn : n = xs.length) (hb : xs.length ≤ 140737488355328) :
    Calls Tryd.prog 14 #[.slice a n c, .agg #[.int .i64 t, .int .i64 r]] W (fun e w' => e = .returned (.int .i64 (inSt xs (t, r))) ∧ Below W.heap.size W w') := by
  have mixed : Tryd.prog.follows .mixedOrders = true := by kernel_rfl
  obtain ⟨W0, hW0⟩ : ∃ W0, W.alloc (.cells #[.int .i64 t, .int .i64 r] 36) = W0 := ⟨_, rfl⟩
  have HB0 : Hid (Below W.heap.size W W0) := by show Below _ _ _; rw [← hW0]; exact box_bel W _
  have HS0 : Hid (Blk W0 W.heap.size [.int .i64 t, .int .i64 r]) := by show Blk _ _ _; rw [← hW0]; exact stP_new W t r
  have HR : Hid (RowF 2 encP W0 a xs) := hr.next flatP HB0.out
  have HN := Lib.hid hn
  have HLB := Lib.hid hb
  clear hr hn hb
  go_enter Tryd.func14, Tryd.ntmps14
  go_wp2_with fail
  clear hW0
  go_loopg [5] n (fun gg s5 wr => ∃ k : Nat, s5 = .int .i64 k ∧ k ≤ n ∧ n - k ≤ gg ∧ Hid (∀ j x, j < k → xs[j]? = some x → x ≠ (t, r)) ∧ Hid (Below W0.heap.size W0 wr))
  case atStart => exact ⟨0, rfl, Nat.zero_le _, by omega, fun j x hj => absurd hj (Nat.not_lt_zero _), Below.refl _ _⟩
  case round =>
    obtain ⟨k, rfl, hk, hgk, HA, HB⟩ := hrel
    have HBW : Hid (Below W.heap.size W wr) := HB0.out.trans (HB.out.mono HB0.out.size)
    have hnb : n ≤ 140737488355328 := by rw [HN.out]; exact HLB.out
    by_cases hin : k < n
    · have hinz : (k : Int) < (n : Int) := by omega
      obtain ⟨x, hx⟩ : ∃ x, xs[k]? = some x := ⟨_, List.getElem?_eq_getElem (by rw [← HN.out]; exact hin)⟩
      obtain ⟨b, off, rfl, hat⟩ := HR.out k x hx
      obtain ⟨x1, x2⟩ := x
      have hat2 : FAt encP wr b (off + k * 2) (x1, x2) := hat.below HB.out (FAt.lt flatP hat)
      have c0 : wr.cell? ⟨b, off + k * 2, none⟩ = some (.int .i64 x1) := hat2 0 _ rfl
      have c1 : wr.cell? ⟨b, off + k * 2 + 1, none⟩ = some (.int .i64 x2) := hat2 1 _ rfl
      have hs := HS0.out.next HB.out
      have p0 := hs.cell 0 _ rfl
      have p1 := hs.cell 1 _ rfl
      have HXK := Lib.hid hx
      clear hat hat2 hs hx
      by_cases he : x1 = t ∧ x2 = r
      · obtain ⟨rfl, rfl⟩ := he
        have z := fun w => St.st_eql x1 x2 x1 x2 w
        simp only [BEq.rfl, Bool.and_self] at z
        have HE : Hid (inSt xs (x1, x2) = (k : Int)) := inSt_at HXK.out HA.out
        go_wp2_with fail
        go_quiet (fail)
        go_wp2_with fail
        go_ret
        exact ⟨ret_int HE.out.symm, below_drewN HBW.out _⟩
      · have z : ∀ w, (binOp .eql 36 (.agg #[.int .i64 x1, .int .i64 x2]) (.agg #[.int .i64 t, .int .i64 r])).run Tryd.prog w = .ok (.bool false) w := fun w => by
          rw [St.st_eql]
          have : (x1 == t && x2 == r) = false := by
            rw [Bool.eq_false_iff]
            intro h
            simp only [Bool.and_eq_true, beq_iff_eq] at h
            exact he h
          rw [this]
        have HA2 : Hid (∀ j x, j < k + 1 → xs[j]? = some x → x ≠ (t, r)) := fun j x hj hx => by
          by_cases hjk : j < k
          · exact HA.out j x hjk hx
          · obtain rfl : j = k := by omega
            rw [HXK.out] at hx
            injection hx with hx
            subst hx
            intro e
            injection e with e1 e2
            exact he ⟨e1, e2⟩
        go_wp2_with fail
        go_quiet (fail)
        go_wp2_with fail
        go_roundg (n - (k + 1))
        case measure => omega
        case rel => exact ⟨k + 1, by go_num, by omega, by omega, HA2, below_drewN HB.out _⟩
    · obtain rfl : k = n := by omega
      have hinz : ¬ (k : Int) < (k : Int) := by omega
      have HE : Hid (inSt xs (t, r) = -1) := inSt_no (fun h => by
        obtain ⟨j, hj⟩ := List.getElem?_of_mem h
        exact HA.out j _ (by rw [HN.out]; exact (List.getElem?_eq_some_iff.1 hj).1) hj rfl)
      go_wp2
      go_ret
      exact ⟨ret_int HE.out.symm, HBW.out⟩
end Go.Proofs.YtjlbpmmckgjajaaDoor

/- Trees: the ways up and the children: mathematics. -/
namespace Go.Proofs.YtjlbpmmckgjajaaDoor
open Go.RowKit Go.Lib
set_option linter.unusedVariables false

theorem upL_over {ns : List ND} {s : Pl} : ∀ {k : Nat} {u : Pl} {m : ND}, findN ns u = some m → s ∈ upL ns k u → ∀ j, k ≤ j → overG ns s j m.par = true
  | 0, u, m, _, h, _, _ => by simp [upL] at h
  | k + 1, u, m, hf, h, j, hj => by
    obtain ⟨j', rfl⟩ : ∃ j', j = j' + 1 := ⟨j - 1, by omega⟩
    rw [upL, hf] at h
    simp only at h
    rw [overG]
    by_cases e : m.par = s
    · rw [if_pos e]
    · rw [if_neg e]
      rcases List.mem_cons.1 h with h | h
      · exact absurd h.symm e
      · cases hf' : findN ns m.par with
        | none => rw [upL_none hf'] at h; simp at h
        | some m' => exact upL_over hf' h j' (by omega)
theorem up_not_self {ns : List ND} (ha : Acyc ns) {s : Pl} {n : ND} (hf : findN ns s = some n) : s ∉ upA ns s := fun h => by
  have h1 := upL_over hf h (ns.length + 1) (by omega)
  rw [not_back hf (ha.bound n.par)] at h1
  cases h1
theorem kids_mem {l : List OpD} {n : ND} (hn : n ∈ nodesG l) : n.id ∈ kidsG l n.par := by
  unfold kidsG
  refine List.mem_map.2 ⟨n, (sortK_all _).mem_iff.2 (List.mem_filter.2 ⟨hn, ?_⟩), rfl⟩
  unfold keepB
  exact decide_eq_true ⟨rfl, rfl⟩
theorem kids_are {l : List OpD} {s u : Pl} (h : u ∈ kidsG l s) : ∃ m, findN (nodesG l) u = some m ∧ m.par = s := by
  unfold kidsG at h
  obtain ⟨m, hm, rfl⟩ := List.mem_map.1 h
  have h1 := (sortK_all _).mem_iff.1 hm
  obtain ⟨h2, h3⟩ := List.mem_filter.1 h1
  unfold keepB at h3
  obtain ⟨h4, h5⟩ := of_decide_eq_true h3
  exact ⟨m, asc_find (nodesG_asc l) h2, Prod.ext h4 h5⟩
theorem kids_len (l : List OpD) (s : Pl) : (kidsG l s).length ≤ l.length := by
  unfold kidsG
  rw [List.length_map, sortK_len]
  exact Nat.le_trans (List.length_filter_le _ _) (nodes_len l)
theorem putN_memP {ns : List ND} {n x : ND} (h : x ∈ putN ns n) (P : ND → Prop) (hn : P n) (hs : ∀ y ∈ ns, P y) : P x := by
  rcases putN_mem h with rfl | h
  · exact hn
  · exact hs x h
theorem made_wf : ∀ (l : List OpD) {ns : List ND}, (∀ x ∈ ns, wfP x.id ∧ wfP x.par) → AllM l → ∀ x ∈ (madeG l ns).1, wfP x.id ∧ wfP x.par
  | [], _, h, _ => h
  | o :: l, ns, h, hl => by
    refine made_wf l (ns := doneG ns o) (fun x hx => ?_) fun x hx => hl x (List.mem_cons_of_mem _ hx)
    unfold doneG at hx
    split at hx
    · exact h x hx
    · exact putN_memP hx (fun x => wfP x.id ∧ wfP x.par) (moveB_wf (hl o (List.mem_cons_self ..))) h
theorem nodes_wf {l : List OpD} (h : AllM l) {x : ND} (hx : x ∈ nodesG l) : wfP x.id ∧ wfP x.par := made_wf l (fun x hx => by simp at hx) h x hx
end Go.Proofs.YtjlbpmmckgjajaaDoor

/- Trees: what the law of rounds asks: above, beneath, found, with the answers known; a node in a box of its own. -/
namespace Go.Proofs.YtjlbpmmckgjajaaDoor
open Go.RowKit Go.Lib Go.Maps
set_option linter.unusedVariables false

def RowsP (W : World) (xs : List Pl) (e : Ending) (w' : World) : Prop := ∃ a n c, e = .returned (.tuple #[.slice a n c, .int .i64 0]) ∧ n = xs.length ∧ RowF 2 encP w' a xs ∧ Below W.heap.size W w'
theorem above_some (v : Value) (l : List OpD) (t r : Int) (W : World) (ht : Pr.Tab W) (h : TrI W v l) (hm : AllM l) (ha : AscS l) (hl : l.length ≤ 160) {n : ND} (hf : findN (nodesG l) (t, r) = some n) (hs : wfP (t, r)) :
    Calls Tryd.prog 12 #[v, .agg #[.int .i64 t, .int .i64 r]] W (RowsP W (upA (nodesG l) (t, r))) := by
  refine (above_tri v l t r W ht h hm ha hl hs).mono ?_
  rintro e w' ⟨hb, hc⟩
  rcases hc with ⟨h1, _⟩ | ⟨m, v', _, rfl, ho⟩
  · rw [hf] at h1; cases h1
  · obtain ⟨a, n', c, rfl, hn, -, hr, -⟩ := ho.form flatP
    exact ⟨a, n', c, rfl, hn, hr, hb⟩
theorem kids_some (v : Value) (l : List OpD) (t r : Int) (W : World) (ht : Pr.Tab W) (h : TrI W v l) (hm : AllM l) (ha : AscS l) (hl : l.length ≤ 19) :
    Calls Tryd.prog 13 #[v, .agg #[.int .i64 t, .int .i64 r]] W (RowsP W (kidsG l (t, r))) := by
  refine (kids_tri v l t r W ht h hm ha hl).mono ?_
  rintro e w' ⟨hb, v', rfl, ho⟩
  obtain ⟨a, n', c, rfl, hn, -, hr, -⟩ := ho.form flatP
  exact ⟨a, n', c, rfl, hn, hr, hb⟩
def FindS (W : World) (x : ND) (e : Ending) (w' : World) : Prop := Below W.heap.size W w' ∧ e = .returned (.tuple #[valN x, .int .i64 0])
theorem find_some (v : Value) (l : List OpD) (t r : Int) (W : World) (ht : Pr.Tab W) (h : TrI W v l) (hm : AllM l) (ha : AscS l) (hl : l.length ≤ 160) {x : ND} (hf : findN (nodesG l) (t, r) = some x) (hs : wfP (t, r)) :
    Calls Tryd.prog 16 #[v, .agg #[.int .i64 t, .int .i64 r]] W (FindS W x) := by
  refine (find_tri v l t r W ht h hm ha hl hs).mono ?_
  rintro e w' ⟨hb, hc⟩
  rcases hc with ⟨h1, _⟩ | ⟨m, hm, rfl⟩
  · rw [hf] at h1; cases h1
  · rw [hf] at hm
    injection hm with hm
    subst hm
    exact ⟨hb, rfl⟩
abbrev zNo : Obj := .cells #[.int .i64 0, .int .i64 0, .int .i64 0, .int .i64 0, .string ⟨#[]⟩] 44
/-- a node in a box of its own -/
structure NR (wr wc : World) (gx : Nat) (x : ND) : Prop where
  bel : Below wr.heap.size wr wc
  ge : wr.heap.size ≤ gx
  blk : Blk wc gx x.enc
section
variable {wr w' : World} {x : ND}
theorem NR.box (hb : Below (wr.alloc zNo).drew.heap.size (wr.alloc zNo).drew w') : Blk w' wr.heap.size zND.enc := ((objN_new wr zND).drew).next hb
theorem NR.two (hb : Below wr.drew.heap.size wr.drew w') : NR wr (w'.alloc (objN x)) w'.heap.size x :=
  ⟨((Below.refl wr.heap.size wr).drew.trans hb).trans ((box_bel w' _).mono hb.size), hb.size, objN_new w' x⟩
theorem NR.one (hb : Below (wr.alloc zNo).drew.heap.size (wr.alloc zNo).drew w') : NR wr (((((w'.setCell ⟨wr.heap.size, 0, none⟩ (.int .i64 x.id.1)).setCell ⟨wr.heap.size, 1, none⟩ (.int .i64 x.id.2)).setCell ⟨wr.heap.size, 2, none⟩ (.int .i64 x.par.1)).setCell ⟨wr.heap.size, 3, none⟩ (.int .i64 x.par.2)).setCell ⟨wr.heap.size, 4, none⟩ (.string x.key)) wr.heap.size x := by
  have hs : (wr.alloc zNo).drew.heap.size = wr.heap.size + 1 := by show (wr.alloc zNo).heap.size = _; exact World.size_alloc ..
  have h2 := NR.box hb
  rw [hs] at hb
  have h1 : Below wr.heap.size wr w' := (box_bel wr zNo).drew.trans (hb.mono (Nat.le_succ _))
  exact ⟨((((h1.setCell (p := ⟨wr.heap.size, 0, none⟩) (Nat.le_refl _) _).setCell (p := ⟨wr.heap.size, 1, none⟩) (Nat.le_refl _) _).setCell (p := ⟨wr.heap.size, 2, none⟩) (Nat.le_refl _) _).setCell (p := ⟨wr.heap.size, 3, none⟩) (Nat.le_refl _) _).setCell (p := ⟨wr.heap.size, 4, none⟩) (Nat.le_refl _) _, Nat.le_refl _, ((((h2.set 0 _).set 1 _).set 2 _).set 3 _).set 4 _⟩
end
/-- what is told of a node of a tree -/
theorem up_first {l : List OpD} (hm : AllM l) {x : ND} (hf : findN (nodesG l) x.id = some x) : (upA (nodesG l) x.id)[0]? = some x.par := by
  rw [upA_up (acyc_made l acyc_nil) hf]
  rfl
theorem nodes_lt {l : List OpD} {k : Nat} {x y : ND} (h1 : (nodesG l)[k]? = some x) (h2 : (nodesG l)[k + 1]? = some y) : ltP x.id y.id = true := by
  have ha := nodesG_asc l
  unfold AscN at ha
  rw [List.pairwise_iff_getElem] at ha
  have k1 := (List.getElem?_eq_some_iff.1 h1)
  have k2 := (List.getElem?_eq_some_iff.1 h2)
  have := ha k (k + 1) k1.1 k2.1 (Nat.lt_succ_self _)
  rw [k1.2, k2.2] at this
  exact this
end Go.Proofs.YtjlbpmmckgjajaaDoor
