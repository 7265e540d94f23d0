/- Two operations held against each other. -/
import Derived.Test.YtabbbpmhmlapgaaDoorO2
namespace Go.Proofs.YtabbbpmhmlapgaaDoor
open Go.RowKit Go.Lib
set_option linter.unusedVariables false

def eqOB (pt pr : Int) (s : ByteArray) (p v pt' pr' : Int) (s' : ByteArray) (p' v' : Int) : Bool := decide (pt = pt' ∧ pr = pr') && decide (strN s = strN s') && decide (p = p') && decide (v = v')
theorem eqOB_same (pt pr : Int) (s : ByteArray) (p v : Int) : eqOB pt pr s p v pt pr s p v = true := by simp [eqOB]
theorem st_same' (t r : Int) (W : World) : (binOp .eql 24 (.agg #[.int .i64 t, .int .i64 r]) (.agg #[.int .i64 t, .int .i64 r])).run Tryd.prog W = .ok (.bool true) W := by
  rw [St.st_eql]
  congr 2
  simp
theorem st_is (t r u x : Int) (b : Bool) (h : decide (t = u ∧ r = x) = b) (W : World) : (binOp .eql 24 (.agg #[.int .i64 t, .int .i64 r]) (.agg #[.int .i64 u, .int .i64 x])).run Tryd.prog W = .ok (.bool b) W := by
  rw [St.st_eql, ← h]
  congr 2
  rw [Bool.eq_iff_iff]
  simp

set_option maxHeartbeats 2000000 in
set_option maxRecDepth 100000 in
theorem eqOp_any (t r q : Int) (da : Option Addr) (ds : List Int) (dn dc : Nat) (k nt nr pt pr : Int) (s : ByteArray) (p v : Int) (pt' pr' : Int) (s' : ByteArray) (p' v' : Int) (da' : Option Addr) (dn' dc' : Nat) (w : World) (hr : RowK .i64 w da ds) (hn : dn = ds.length) (hl : ds.length ≤ 140737488355328) (hr' : RowK .i64 w da' ds) (hn' : dn' = ds.length) :
    Calls Tryd.prog 20 #[.agg #[.int .i64 t, .int .i64 r, .int .i64 q, .slice da dn dc, .int .i64 k, .int .i64 nt, .int .i64 nr, .int .i64 pt, .int .i64 pr, .string s, .int .i64 p, .int .i64 v], .agg #[.int .i64 t, .int .i64 r, .int .i64 q, .slice da' dn' dc', .int .i64 k, .int .i64 nt, .int .i64 nr, .int .i64 pt', .int .i64 pr', .string s', .int .i64 p', .int .i64 v']] w (BoolPost w (eqOB pt pr s p v pt' pr' s' p' v')) := by
  have HB := Lib.hid (St.below2 w (.cells #[.int .i64 t, .int .i64 r, .int .i64 q, .slice da dn dc, .int .i64 k, .int .i64 nt, .int .i64 nr, .int .i64 pt, .int .i64 pr, .string s, .int .i64 p, .int .i64 v] 27) (.cells #[.int .i64 t, .int .i64 r, .int .i64 q, .slice da' dn' dc', .int .i64 k, .int .i64 nt, .int .i64 nr, .int .i64 pt', .int .i64 pr', .string s', .int .i64 p', .int .i64 v'] 27))
  have C := Lib.hid (eqI_yes da da' ds dn dn' dc dc' ((w.alloc (.cells #[.int .i64 t, .int .i64 r, .int .i64 q, .slice da dn dc, .int .i64 k, .int .i64 nt, .int .i64 nr, .int .i64 pt, .int .i64 pr, .string s, .int .i64 p, .int .i64 v] 27)).alloc (.cells #[.int .i64 t, .int .i64 r, .int .i64 q, .slice da' dn' dc', .int .i64 k, .int .i64 nt, .int .i64 nr, .int .i64 pt', .int .i64 pr', .string s', .int .i64 p', .int .i64 v'] 27)) ((hr.alloc _).alloc _) ((hr'.alloc _).alloc _) hn hn' hl)
  have hG := St.st_guard
  have z1 := fun W => st_same' t r W
  have z2 := fun W => st_same' nt nr W
  clear hr hn hl hr' hn'
  cases h1 : decide (pt = pt' ∧ pr = pr')
  · rw [show eqOB pt pr s p v pt' pr' s' p' v' = false by simp only [eqOB, h1]; rfl]
    have z3 := st_is pt pr pt' pr' false h1
    clear h1
    go_enter Tryd.func20, Tryd.ntmps20
    go_wp2_with fail
    refine (C.out).mono ?_
    rintro e w1 ⟨rfl, nq, rfl⟩
    go_wp2
    go_ret
    exact ⟨rfl, below_drewN HB.out nq⟩
  · have z3 := st_is pt pr pt' pr' true h1
    by_cases h2 : strN s = strN s'
    · obtain rfl := Ky.strN_inj h2
      clear h2
      by_cases h3 : p = p'
      · by_cases h4 : v = v'
        · rw [show eqOB pt pr s p v pt' pr' s p' v' = true by simp only [eqOB, h1, h3, h4]; simp]
          subst h3 h4
          clear h1
          go_enter Tryd.func20, Tryd.ntmps20
          go_wp2_with fail
          refine (C.out).mono ?_
          rintro e w1 ⟨rfl, nq, rfl⟩
          go_wp2
          go_ret
          exact ⟨rfl, below_drewN HB.out nq⟩
        · rw [show eqOB pt pr s p v pt' pr' s p' v' = false by simp [eqOB, h4]]
          have h4' : (v == v') = false := by simpa using h4
          subst h3
          clear h1
          go_enter Tryd.func20, Tryd.ntmps20
          go_wp2_with fail
          refine (C.out).mono ?_
          rintro e w1 ⟨rfl, nq, rfl⟩
          go_wp2
          go_ret
          exact ⟨rfl, below_drewN HB.out nq⟩
      · rw [show eqOB pt pr s p v pt' pr' s p' v' = false by simp [eqOB, h3]]
        have h3' : (p == p') = false := by simpa using h3
        clear h1
        go_enter Tryd.func20, Tryd.ntmps20
        go_wp2_with fail
        refine (C.out).mono ?_
        rintro e w1 ⟨rfl, nq, rfl⟩
        go_wp2
        go_ret
        exact ⟨rfl, below_drewN HB.out nq⟩
    · rw [show eqOB pt pr s p v pt' pr' s' p' v' = false by simp [eqOB, h2]]
      have e1 : (s.toList == s'.toList) = false := by rw [Ky.same_strN]; exact decide_eq_false h2
      have e2 : ¬ s.toList = s'.toList := by simpa using e1
      clear h1 h2
      go_enter Tryd.func20, Tryd.ntmps20
      go_wp2_with fail
      refine (C.out).mono ?_
      rintro e w1 ⟨rfl, nq, rfl⟩
      go_wp2
      go_ret
      exact ⟨rfl, below_drewN HB.out nq⟩

theorem op_build (t r q : Int) (da : Option Addr) (dn dc : Nat) (k nt nr : Int) (w : World) : (Instr.build 27 #[(0, .agg #[.int .i64 t, .int .i64 r]), (1, .int .i64 q), (2, .slice da dn dc), (3, .int .i64 k), (4, .agg #[.int .i64 nt, .int .i64 nr])]).run Tryd.prog w = .ok (.agg #[.int .i64 t, .int .i64 r, .int .i64 q, .slice da dn dc, .int .i64 k, .int .i64 nt, .int .i64 nr, .int .i64 0, .int .i64 0, .string ⟨#[]⟩, .int .i64 0, .int .i64 0]) w := run_build w 27 _ _ (by kernel_rfl)
end Go.Proofs.YtabbbpmhmlapgaaDoor

