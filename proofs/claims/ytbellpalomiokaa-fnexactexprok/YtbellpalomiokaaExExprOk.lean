/-
  Proved: for every term, the law on ExprOk answers true (the tested function answers as its model), and nothing that was there has turned. No exprition.
-/
import Derived.Test.YtbellpalomiokaaExprOk
import Derived.Test.YtbellpalomiokaaLawExpr
import Derived.Test.YtbellpalomiokaaRows
import Derived.ProofKit
import Derived.OpenShut
import Derived.ShutString
import Derived.ChangeOld
import Derived.Below
import Derived.Lib.SmallJoins
import Derived.Deep.RegionHeld3
namespace Go.Proofs.Ytbellpalomiokaa.ExExprOk
open Go.ChangeShapes Go.WideShapes Go.ChangeAt Go.RowKit Go.Joins
open Go.ChangeMaps (open_string shut_string)
set_option linter.unusedVariables false

set_option maxRecDepth 100000 in
set_option maxHeartbeats 3200000 in
theorem walk (x : X11) (w : World) (hx : x.fits) :
    Calls Try.prog 3 #[.agg #[.string x.Op, .int .i64 x.L.K, .string x.L.S, .int .i64 x.L.V.K, .int .i64 x.L.V.N, .string x.L.V.S, .int .i64 x.R.K, .string x.R.S, .int .i64 x.R.V.K, .int .i64 x.R.V.N, .string x.R.V.S]] w fun e w' => e = .returned (.bool true) ∧ Below w.heap.size w w' := by
  go_enter Try.func3, Try.ntmps3
  go_wp2_with fail
  have b0 := below_al w (.cells #[.string x.Op, .int .i64 x.L.K, .string x.L.S, .int .i64 x.L.V.K, .int .i64 x.L.V.N, .string x.L.V.S, .int .i64 x.R.K, .string x.R.S, .int .i64 x.R.V.K, .int .i64 x.R.V.N, .string x.R.V.S] 27)
  have hA := boxk_new w #[.string x.Op, .int .i64 x.L.K, .string x.L.S, .int .i64 x.L.V.K, .int .i64 x.L.V.N, .string x.L.V.S, .int .i64 x.R.K, .string x.R.S, .int .i64 x.R.V.K, .int .i64 x.R.V.N, .string x.R.V.S] 27
  refine (szExpr_any x.Op x.L.K x.L.S x.L.V.K x.L.V.N x.L.V.S x.R.K x.R.S x.R.V.K x.R.V.N x.R.V.S 1048576 _ hx.1 hx.2.1.1 hx.2.1.2 hx.2.2.1 hx.2.2.2 (by omega) (by omega)).mono ?_
  rintro e w1 ⟨⟨r, rfl, hr⟩, hb1⟩
  have HA1 := hide (box_below hA hb1 (by simp))
  have hB1 : Below w.heap.size w w1 := b0.trans (hb1.mono b0.size)
  clear hb1 b0 hA
  rcases hr with rfl | ⟨h0, h1⟩
  · go_wp2
    go_ret
    exact ⟨rfl, hB1⟩
  · clear h1
    have a0 := boxk_cell HA1.out 0 _ rfl
    have a1 := boxk_cell HA1.out 1 _ rfl
    have a2 := boxk_cell HA1.out 2 _ rfl
    have a3 := boxk_cell HA1.out 3 _ rfl
    have a4 := boxk_cell HA1.out 4 _ rfl
    have a5 := boxk_cell HA1.out 5 _ rfl
    have a6 := boxk_cell HA1.out 6 _ rfl
    have a7 := boxk_cell HA1.out 7 _ rfl
    have a8 := boxk_cell HA1.out 8 _ rfl
    have a9 := boxk_cell HA1.out 9 _ rfl
    have a10 := boxk_cell HA1.out 10 _ rfl
    go_wp2_with fail
    refine (toExpr_any x.Op x.L.K x.L.S x.L.V.K x.L.V.N x.L.V.S x.R.K x.R.S x.R.V.K x.R.V.N x.R.V.S _).mono ?_
    rintro e w2 ⟨rfl, hb2⟩
    have HA2 := hide (box_step HA1.out hb2)
    have hB2 : Below w.heap.size w w2 := hB1.trans (hb2.mono hB1.size)
    clear hb2 hB1 HA1 a0 a1 a2 a3 a4 a5 a6 a7 a8 a9 a10
    go_wp2_with fail
    refine (specExprOk_any x.Op x.L x.R _ hx.2.1 hx.2.2).mono ?_
    rintro e w3 ⟨rfl, hb3⟩
    have HA3 := hide (box_step HA2.out hb3)
    have hB3 : Below w.heap.size w w3 := hB2.trans (hb3.mono hB2.size)
    clear hb3 hB2 HA2
    have a0 := boxk_cell HA3.out 0 _ rfl
    have a1 := boxk_cell HA3.out 1 _ rfl
    have a2 := boxk_cell HA3.out 2 _ rfl
    have a3 := boxk_cell HA3.out 3 _ rfl
    have a4 := boxk_cell HA3.out 4 _ rfl
    have a5 := boxk_cell HA3.out 5 _ rfl
    have a6 := boxk_cell HA3.out 6 _ rfl
    have a7 := boxk_cell HA3.out 7 _ rfl
    have a8 := boxk_cell HA3.out 8 _ rfl
    have a9 := boxk_cell HA3.out 9 _ rfl
    have a10 := boxk_cell HA3.out 10 _ rfl
    go_wp2_with fail
    refine (toExpr_any x.Op x.L.K x.L.S x.L.V.K x.L.V.N x.L.V.S x.R.K x.R.S x.R.V.K x.R.V.N x.R.V.S _).mono ?_
    rintro e w4 ⟨rfl, hb4⟩
    have hB4 : Below w.heap.size w w4 := hB3.trans (hb4.mono hB3.size)
    clear hb4 hB3 HA3 a0 a1 a2 a3 a4 a5 a6 a7 a8 a9 a10
    go_wp2_with fail
    refine (implExprOk_any x.Op x.L x.R _ hx.2.1 hx.2.2).mono ?_
    rintro e w5 ⟨rfl, hb5⟩
    have hB5 : Below w.heap.size w w5 := hB4.trans (hb5.mono hB4.size)
    clear hb5 hB4
    generalize exprB x.Op x.L x.R = bb
    have hbb : (bb != bb) = false := by simp
    go_wp2
    go_ret
    exact ⟨rfl, hB5⟩

theorem own : ownKnob Try.prog.godebug = none := by kernel_rfl
theorem laidOut : laidOutB Try.prog = true := by kernel_rfl

set_option maxRecDepth 100000 in
theorem lifted (os : Os) (started : os.Started) (H : Type) (enc : TypeId × Value → H) :
    ReturnsInHanded {} Try.checked os 3 .any (Rows.fnExactExprOkSpec.pre6 enc Try.prog Try.f3 Rows.fnExactExprOkRow.domain false) (Rows.fnExactExprOkSpec.post enc Try.prog Try.f3 false true false false) := by
  refine returnsInHanded_of_change (C := Try.checked) own started (by kernel_rfl) Try.func3
    (ChangeSpec.witness6 (enc := enc) (C := Try.checked) false ⟨#[], #[.agg #[.string ByteArray.empty, .int .i64 0, .string ByteArray.empty, .int .i64 0, .int .i64 0, .string ByteArray.empty, .int .i64 0, .string ByteArray.empty, .int .i64 0, .int .i64 0, .string ByteArray.empty]], []⟩ 8 (by kernel_rfl) (by kernel_rfl) (by kernel_rfl) (by kernel_rfl)) ?_
  intro W base args ds gs before hval0 hW hcnd _
  have hval : ∀ (j : Nat) t v, Try.f3.params[j]? = some t → args[j]? = some v → Value.okWide Try.prog W .any base t v := hval0
  have hW' := hW
  obtain ⟨p, q, hA0, hV, rfl, hfz, hnd⟩ := hW
  have hA : DataW.TrodAll enc Try.prog W 0 (fun _ => true) true Try.f3.params.toList args.toList ds p := hA0
  rw [Try.params3] at hA hval
  obtain ⟨v0, vs0, d0, ds0, p0, q0, hargs, rfl, rfl, h0, r0⟩ := trodAll_cons hA
  obtain ⟨rfl, rfl, rfl⟩ := trodAll_nil r0
  obtain rfl : args = #[v0] := by cases args; simp_all
  obtain ⟨rfl, rfl⟩ := trodVars_none hV
  have k0 := h0
  have lt0 : ∀ x ∈ p0, x.block < W.heap.size := by obtain ⟨m, hm⟩ := k0; exact DataW.trod_lt m _ _ _ hm
  obtain ⟨x0, rfl, w0⟩ := expr_in (hval 0 27 v0 rfl rfl) h0
  clear hA0 hval0
  refine (walk x0 W w0).mono fun e W' ⟨he, bel⟩ => ?_
  subst he
  exact ⟨_, rfl, _, _, _, [], _, [], hW', trodAll_mk1 (shut_bool Try.underlying4 _), (trodAll_cons_mk (Below.trod laidOut (by kernel_rfl) (of_decide_eq_true (by kernel_rfl)) k0 bel lt0) trodAll_mk0), rfl, bel.frame _, fun h => by cases h⟩

theorem over : Rows.fnExactExprOkRow.holds Try.pinned (OpenSpec.ofChange Rows.fnExactExprOkSpec) :=
  OpenClaim.holds_of_wide 3 Try.f3 rfl rfl rfl rfl rfl rfl rfl ⟨rfl, rfl, rfl, rfl, rfl⟩ rfl rfl rfl rfl rfl (by kernel_rfl) Try.func3 (by kernel_rfl)
    (of_decide_eq_true (by kernel_rfl)) (by unfold Func.isWrapper; first | (rw [if_pos (by decide +kernel)]; kernel_rfl) | (rw [if_neg (by decide +kernel)]; exact ⟨rfl, rfl⟩))
    (fun os started H enc _ => lifted os started H enc)
end Go.Proofs.Ytbellpalomiokaa.ExExprOk
namespace Go.Proofs.Ytbellpalomiokaa
theorem fnExactExprOk_holds : Rows.FnExactExprOkSaid := ExExprOk.over
#print axioms fnExactExprOk_holds
end Go.Proofs.Ytbellpalomiokaa
