/-
  A rule of any code: the model's DrawPosVars.
-/
import Derived.Test.YtfgigcdfmkfkjaaJDrawRn
import Derived.Test.YtfgigcdfmkfkjaaJoined2
namespace Go.Proofs.Ytfgigcdfmkfkjaa
open Go.RowKit
set_option linter.unusedVariables false
set_option maxRecDepth 100000

/-- a rule was drawn, and all that was there is as it was -/
def DrawnPV (w : World) (e : Ending) (w' : World) : Prop := ∃ x : RE, e = .returned (.agg #[.string x.nm, .int .i64 x.sal, .slice x.aP x.nP x.cP, .slice x.aC x.nC x.cC, .slice x.aA x.nA x.cA]) ∧ RdRule w' x ∧ x.small ∧ x.P.length ≤ 5 ∧ Below w.heap.size w w'

set_option maxHeartbeats 3200000 in
theorem drawPosVars_any (a : Option Addr) (cap : Nat) (code : List UInt8) (w : World) (hr : Rd w a code) (hn : code.length ≤ 1048576) :
    Calls Try.prog 38 #[.slice a code.length cap] w (DrawnPV w) := by
  have hr1 : ∀ o, RdB w.heap.size (w.alloc o) a code := fun o => hr.toB.below ((Below.refl _ _).alloc (Nat.le_refl _) _)
  have HR1 := hide hr1
  clear hr1
  go_enter Try.func38, Try.ntmps38
  go_wp2_with fail
  refine (l1New_any w.heap.size a cap code _ (HR1.out _) hn (by simp)).mono ?_
  rintro e w1 ⟨rfl, c1, g1⟩
  have hz1 := g1.size
  simp only [World.size_alloc] at hz1 c1 ⊢
  have HB := hide (box_below (boxk_new w #[.string ⟨#[]⟩, .int .i64 0, .slice none 0 0, .slice none 0 0, .slice none 0 0] 49) ((Below.refl _ _).grown g1 (Nat.le_refl _) (fun k hk => by cases hk)) (by simp))
  have B1 : Below w.heap.size w w1 := ((Below.refl w.heap.size w).alloc (Nat.le_refl _) _).grown g1 (by simp) (fun k hk => by cases hk)
  clear g1 HR1
  go_wp2_with fail
  have hq1 := c1.lt
  refine (l9Any_any w.heap.size (w.heap.size + 1) _ c1).mono ?_
  rintro e w2 ⟨nm, sal, vP, P, vC, C, vA, A, rfl, hnm, hP, hC, hA, o, c2, g2⟩
  have HB2 := hide (box_grown HB.out g2 (by omega))
  have B2 : Below w.heap.size w w2 := B1.grown g2 B1.size (fun k hk => by cases hk; omega)
  obtain ⟨aP, cP, rfl⟩ := own_slice o.rP
  obtain ⟨aC, cC, rfl⟩ := own_slice o.rC
  obtain ⟨aA, cA, rfl⟩ := own_slice o.rA
  have HO := hide o
  clear o g2 HB B1 c1 c2
  have u0 := boxk_cell HB2.out 0 _ rfl
  have u1 := boxk_cell HB2.out 1 _ rfl
  have u2 := boxk_cell HB2.out 2 _ rfl
  have u3 := boxk_cell HB2.out 3 _ rfl
  have u4 := boxk_cell HB2.out 4 _ rfl
  have uf0 := boxk_frozen HB2.out 0
  have uf1 := boxk_frozen HB2.out 1
  have uf2 := boxk_frozen HB2.out 2
  have uf3 := boxk_frozen HB2.out 3
  have uf4 := boxk_frozen HB2.out 4
  go_wp2
  refine box5_post HB2.out (fun w9 h9 gr => ?_)
  clear u0 u1 u2 u3 u4 uf0 uf1 uf2 uf3 uf4
  have d0 := boxk_cell h9 0 _ rfl
  have d1 := boxk_cell h9 1 _ rfl
  have d2 := boxk_cell h9 2 _ rfl
  have d3 := boxk_cell h9 3 _ rfl
  have d4 := boxk_cell h9 4 _ rfl
  have h := HO.out
  have hlt : w.heap.size < w1.heap.size := by omega
  have O9 : RlO w1.heap.size (.slice aP P.length cP) P (.slice aC C.length cC) C (.slice aA A.length cA) A w9 :=
    ⟨row_kept h.rP gr (fun k e => by cases e; exact own_ge h.rP hlt), row_kept h.rC gr (fun k e => by cases e; exact own_ge h.rC hlt), row_kept h.rA gr (fun k e => by cases e; exact own_ge h.rA hlt),
      fun p hp => row_kept (h.iP p hp) gr (fun k e => by cases e; exact own_ge (h.iP p hp) hlt), fun a ha => row_kept (h.iA a ha) gr (fun k e => by cases e; exact own_ge (h.iA a ha) hlt), h.sP, h.sC, h.sA⟩
  have B9 : Below w.heap.size w w9 := B2.grown gr B2.size (fun k hk => by cases hk; exact Nat.le_refl _)
  refine bodyPost_ret (v := .agg #[.string nm, .int .i64 sal, .slice aP P.length cP, .slice aC C.length cC, .slice aA A.length cA]) (by simp [results, Try.results38, go_sem, d0, d1, d2, d3, d4]) rfl ?_
  obtain ⟨x, e1, e2, e3, e4, e5, e6, e7, e8, rx⟩ := O9.rd nm sal
  refine ⟨x, by rw [e1, e2, ← e3, ← e4, ← e5], rx, tiny_rule (by rw [e1]; exact hnm) (by rw [e6]; exact h.sP) (by rw [e7]; exact h.sC) (by rw [e8]; exact h.sA) (by rw [e6]; omega) (by rw [e7]; omega) (by rw [e8]; omega), by rw [e6]; exact hP, B9⟩
end Go.Proofs.Ytfgigcdfmkfkjaa
