/- Joined: TG7. -/
import Derived.Test.YtjlbpmmckgjajaaDoorYH
import Derived.Deep.RegionHeld3

/- Trees: a move done and held against its entry: the statement by itself. -/
namespace Go.Proofs.YtjlbpmmckgjajaaDoor
open Go.RowKit Go.Lib Go.Maps
set_option linter.unusedVariables false

/-- the region of that number -/
def regionOf (n : Nat) : Code → Option Code
  | .region i ops b => if i = n then some (.region i ops b) else none
  | .loop c => regionOf n c
  | .seq a b => match regionOf n a with
    | some c => some c
    | none => regionOf n b
  | .block _ c => regionOf n c
  | .scope c => regionOf n c
  | .cond _ a b => match regionOf n a with
    | some c => some c
    | none => regionOf n b
  | _ => none
noncomputable def regG7 : Code := (Tryd.f23.body.bind (regionOf 7)).getD .skip
/-- what is left behind it -/
structure G7Post (w6 w : World) (base fp bm : Nat) (sv : Value) (ps : List Pl) (nk : List ND) (o : OpD) (sv' : Value) (ps' : List Pl) (sp' : List SpD) : Prop where
  fr : FoR w base fp bm sv' ps' sp'
  fm : FoM ps' sp' (doneG nk o)
  kp : KeptF w6 w fp bm sv sv'
  ln : ps'.length ≤ ps.length + 2
set_option maxHeartbeats 8000000 in
set_option maxRecDepth 100000 in
theorem g7_law (base fp bm q : Nat) (w6 : World) (sv : Value) (ps : List Pl) (nk : List ND) (e xe : ED) (da : Option Addr) (dn dc : Nat) (sb : Bool) (hx : Blk w6 q (cellsE e da dn dc)) (hq : q ≠ fp ∧ q ≠ bm ∧ sv.ownBlock ≠ some q)
    (C1 : Hid (Calls Tryd.prog 46 #[.pointer (some ⟨fp, 0, none⟩), valO e.op da dn dc] w6.drew (DoPost w6.drew base fp bm sv ps nk e.op da dn dc))) (hxe : entG nk e.op = xe)
    (CS : Hid (∀ W, Calls Tryd.prog 45 #[valE xe da dn dc, valE e da dn dc] W (BoolPost W sb))) (Q : Exit → Act → World → Prop) (s0 s1 s2 s3 s5 s7 s8 s9 s10 s11 s12 s13 s14 s15 s16 s17 s18 s19 s20 s21 s22 s23 s24 s25 s26 s27 s28 s29 s30 s31 s32 s33 s34 s35 s36 s37 s38 s39 s40 s41 s42 s43 s44 s45 s46 s47 s48 s49 s50 s51 s52 s53 : Value)
    (hQ : ∀ (u39 u40 u41 u42 u43 u44 : Value) (sv' : Value) (ps' : List Pl) (sp' : List SpD) (w : World), G7Post w6 w base fp bm sv ps nk e.op sv' ps' sp' → Q .normal ⟨#[s0, s1, s2, s3, .pointer (some ⟨fp, 0, none⟩), s5, .pointer (some ⟨q, 0, none⟩), s7, s8, s9, s10, s11, s12, s13, s14, s15, s16, s17, s18, s19, s20, s21, s22, s23, s24, s25, s26, s27, s28, s29, s30, s31, s32, s33, s34, s35, s36, s37, s38, u39, u40, u41, u42, u43, u44, .bool (!sb), s46, s47, s48, s49, s50, s51, s52, s53], []⟩ w) :
    Code.wp Tryd.prog regG7 Q ⟨#[s0, s1, s2, s3, .pointer (some ⟨fp, 0, none⟩), s5, .pointer (some ⟨q, 0, none⟩), s7, s8, s9, s10, s11, s12, s13, s14, s15, s16, s17, s18, s19, s20, s21, s22, s23, s24, s25, s26, s27, s28, s29, s30, s31, s32, s33, s34, s35, s36, s37, s38, s39, s40, s41, s42, s43, s44, s45, s46, s47, s48, s49, s50, s51, s52, s53], []⟩ w6 := by
  have mixed : Tryd.prog.follows .mixedOrders = true := by kernel_rfl
  have HQ := Lib.hid hQ
  have HX6 := Lib.hid hx
  have HQN := Lib.hid hq
  have hX6 := hx.drew
  have HLT : Hid (q < w6.heap.size) := hx.lt
  unfold DoPost at C1
  rw [hxe] at C1
  clear hQ hx hq hxe
  have hc := fun (W : World) (h : Blk W q (cellsE e da dn dc)) => (show W.cell? ⟨q, 0, none⟩ = some (.int .i64 e.op.1.t) ∧ W.cell? ⟨q, 1, none⟩ = some (.int .i64 e.op.1.r) ∧ W.cell? ⟨q, 2, none⟩ = some (.int .i64 e.op.2) ∧ W.cell? ⟨q, 3, none⟩ = some (.slice da dn dc) ∧ W.cell? ⟨q, 4, none⟩ = some (.int .i64 e.op.1.k) ∧ W.cell? ⟨q, 5, none⟩ = some (.int .i64 e.op.1.nt) ∧ W.cell? ⟨q, 6, none⟩ = some (.int .i64 e.op.1.nr) ∧ W.cell? ⟨q, 7, none⟩ = some (.int .i64 e.op.1.pt) ∧ W.cell? ⟨q, 8, none⟩ = some (.int .i64 e.op.1.pr) ∧ W.cell? ⟨q, 9, none⟩ = some (.string e.op.1.s) ∧ W.cell? ⟨q, 10, none⟩ = some (.int .i64 e.op.1.p) ∧ W.cell? ⟨q, 11, none⟩ = some (.int .i64 e.op.1.v) ∧ W.cell? ⟨q, 12, none⟩ = some (.bool e.was) ∧ W.cell? ⟨q, 13, none⟩ = some (.int .i64 e.par.1) ∧ W.cell? ⟨q, 14, none⟩ = some (.int .i64 e.par.2) ∧ W.cell? ⟨q, 15, none⟩ = some (.string e.key) ∧ W.cell? ⟨q, 16, none⟩ = some (.bool e.idle) from ⟨h.cell 0 _ rfl, h.cell 1 _ rfl, h.cell 2 _ rfl, h.cell 3 _ rfl, h.cell 4 _ rfl, h.cell 5 _ rfl, h.cell 6 _ rfl, h.cell 7 _ rfl, h.cell 8 _ rfl, h.cell 9 _ rfl, h.cell 10 _ rfl, h.cell 11 _ rfl, h.cell 12 _ rfl, h.cell 13 _ rfl, h.cell 14 _ rfl, h.cell 15 _ rfl, h.cell 16 _ rfl⟩)
  have HC := Lib.hid hc
  have hS0 := hc w6.drew hX6
  clear hX6 hc
  conv => arg 2; whnf
  go_wp2_with fail
  go_region_held3 (fun W => W.cell? ⟨q, 0, none⟩ = some (.int .i64 e.op.1.t) ∧ W.cell? ⟨q, 1, none⟩ = some (.int .i64 e.op.1.r) ∧ W.cell? ⟨q, 2, none⟩ = some (.int .i64 e.op.2) ∧ W.cell? ⟨q, 3, none⟩ = some (.slice da dn dc) ∧ W.cell? ⟨q, 4, none⟩ = some (.int .i64 e.op.1.k) ∧ W.cell? ⟨q, 5, none⟩ = some (.int .i64 e.op.1.nt) ∧ W.cell? ⟨q, 6, none⟩ = some (.int .i64 e.op.1.nr) ∧ W.cell? ⟨q, 7, none⟩ = some (.int .i64 e.op.1.pt) ∧ W.cell? ⟨q, 8, none⟩ = some (.int .i64 e.op.1.pr) ∧ W.cell? ⟨q, 9, none⟩ = some (.string e.op.1.s) ∧ W.cell? ⟨q, 10, none⟩ = some (.int .i64 e.op.1.p) ∧ W.cell? ⟨q, 11, none⟩ = some (.int .i64 e.op.1.v) ∧ W.cell? ⟨q, 12, none⟩ = some (.bool e.was) ∧ W.cell? ⟨q, 13, none⟩ = some (.int .i64 e.par.1) ∧ W.cell? ⟨q, 14, none⟩ = some (.int .i64 e.par.2) ∧ W.cell? ⟨q, 15, none⟩ = some (.string e.key) ∧ W.cell? ⟨q, 16, none⟩ = some (.bool e.idle)) (with_reducible assumption) (first
    | (go_at_call 46
       (with_reducible refine (C1.out).mono ?_)
       rintro e0 w7 ⟨sv', ps', sp', rfl, hf, hM, hk7, hl7⟩
       have HF7 := Lib.hid hf
       have HM7 := Lib.hid hM
       have HK7 := Lib.hid hk7
       have HL7 := Lib.hid hl7
       have HX7 : Hid (Blk w7 q (cellsE e da dn dc)) := HX6.out.drew.keep (HK7.out.blk q HLT.out HQN.out.1 HQN.out.2.1 HQN.out.2.2)
       have hS7 := HC.out w7 HX7.out
       clear hf hM hk7 hl7)
    | (go_at_call 45
       (with_reducible refine (CS.out _).mono ?_)
       rintro e0 w8 ⟨rfl, hb8⟩
       have HF8 := Lib.hid (HF7.out.next hb8)
       have HK8 := Lib.hid (HK7.out.trans (KeptF.of_below hb8))
       have hS8 := HC.out w8 (HX7.out.next hb8)
       clear hb8))
  all_goals
    exact HQ.out _ _ _ _ _ _ sv' ps' sp' _ ⟨HF8.out, HM7.out, (KeptF.of_below (Below.refl _ _).drew).trans HK8.out, HL7.out⟩
end Go.Proofs.YtjlbpmmckgjajaaDoor
