/-
  Proved: for every term and every list of binds, the law on Compute answers true (the tested function answers as its model and writes into no argument), and all that was there reads as it did. No condition.
-/
import Derived.Test.YtbellpalomiokaaCompI
import Derived.Test.YtbellpalomiokaaCompS
import Derived.Test.YtbellpalomiokaaLawExpr
import Derived.Test.YtbellpalomiokaaLawArg
import Derived.Test.YtbellpalomiokaaLawBind
import Derived.Test.YtbellpalomiokaaRows
import Derived.ProofKit
import Derived.OpenShut
import Derived.ShutString
import Derived.ChangeOld
import Derived.Below
import Derived.Lib.SmallJoins
import Derived.Deep.RegionHeld3
namespace Go.Proofs.Ytbellpalomiokaa.ExCompute
open Go.ChangeShapes Go.WideShapes Go.ChangeAt Go.RowKit Go.Joins
open Go.ChangeMaps (open_string shut_string)
set_option linter.unusedVariables false

set_option maxRecDepth 100000 in
set_option maxHeartbeats 3200000 in
theorem walk (x : X11) (a : Option Addr) (len cap : Nat) (L : List B4) (w : World) (hx : x.fits) (hv : IsBinds w a len cap L) :
    Calls Try.prog 4 #[.agg #[.string x.Op, .int .i64 x.L.K, .string x.L.S, .int .i64 x.L.V.K, .int .i64 x.L.V.N, .string x.L.V.S, .int .i64 x.R.K, .string x.R.S, .int .i64 x.R.V.K, .int .i64 x.R.V.N, .string x.R.V.S], .slice a len cap] w fun e w' => e = .returned (.bool true) ∧ Below w.heap.size w w' := by
  obtain ⟨rfl, hm, hr, hs⟩ := hv
  have HS := hide hs
  clear hs
  go_enter Try.func4, Try.ntmps4
  go_wp2_with fail
  have b0 := below_al w (.cells #[.string x.Op, .int .i64 x.L.K, .string x.L.S, .int .i64 x.L.V.K, .int .i64 x.L.V.N, .string x.L.V.S, .int .i64 x.R.K, .string x.R.S, .int .i64 x.R.V.K, .int .i64 x.R.V.N, .string x.R.V.S] 27)
  have hA := boxk_new w #[.string x.Op, .int .i64 x.L.K, .string x.L.S, .int .i64 x.L.V.K, .int .i64 x.L.V.N, .string x.L.V.S, .int .i64 x.R.K, .string x.R.S, .int .i64 x.R.V.K, .int .i64 x.R.V.N, .string x.R.V.S] 27
  refine (szExpr_any x.Op x.L.K x.L.S x.L.V.K x.L.V.N x.L.V.S x.R.K x.R.S x.R.V.K x.R.V.N x.R.V.S 1048576 _ hx.1 hx.2.1.1 hx.2.1.2 hx.2.2.1 hx.2.2.2 (by omega) (by omega)).mono ?_
  rintro e w1 ⟨⟨r, rfl, hr1⟩, hb1⟩
  have HA1 := hide (box_below hA hb1 (by simp))
  have hB1 : Below w.heap.size w w1 := b0.trans (hb1.mono b0.size)
  clear hb1 b0 hA
  rcases hr1 with rfl | ⟨h0, h1⟩
  · go_wp2
    go_ret
    exact ⟨rfl, hB1⟩
  · have HSx : Hid (x.small) := ⟨by omega, ⟨by omega, by omega⟩, by omega, by omega⟩
    have h2 : r ≤ 1048576 := by omega
    clear h1
    go_wp2_with fail
    refine (szBindS_any a cap L r _ (hr.below hB1) HS.out hm h0 h2).mono ?_
    rintro e w2 ⟨⟨r2, rfl, hr2⟩, hb2⟩
    have HA2 := hide (box_step HA1.out hb2)
    have hB2 : Below w.heap.size w w2 := hB1.trans (hb2.mono hB1.size)
    clear hb2 hB1 HA1
    rcases hr2 with rfl | ⟨h3, h4, hsm⟩
    · go_wp2
      go_ret
      exact ⟨rfl, hB2⟩
    · have hn : L.length ≤ 1048576 := by omega
      have HSm := hide hsm
      clear h4 hsm h2
      have a0 := boxk_cell HA2.out 0 _ rfl
      have a1 := boxk_cell HA2.out 1 _ rfl
      have a2 := boxk_cell HA2.out 2 _ rfl
      have a3 := boxk_cell HA2.out 3 _ rfl
      have a4 := boxk_cell HA2.out 4 _ rfl
      have a5 := boxk_cell HA2.out 5 _ rfl
      have a6 := boxk_cell HA2.out 6 _ rfl
      have a7 := boxk_cell HA2.out 7 _ rfl
      have a8 := boxk_cell HA2.out 8 _ rfl
      have a9 := boxk_cell HA2.out 9 _ rfl
      have a10 := boxk_cell HA2.out 10 _ rfl
      go_wp2_with fail
      refine (toExpr_any x.Op x.L.K x.L.S x.L.V.K x.L.V.N x.L.V.S x.R.K x.R.S x.R.V.K x.R.V.N x.R.V.S _).mono ?_
      rintro e w3 ⟨rfl, hb3⟩
      have HA3 := hide (box_step HA2.out hb3)
      have hB3 : Below w.heap.size w w3 := hB2.trans (hb3.mono hB2.size)
      clear hb3 hB2 HA2 a0 a1 a2 a3 a4 a5 a6 a7 a8 a9 a10
      go_wp2_with fail
      refine (toBindS_ex a cap L _ (hr.below hB3) hn).mono ?_
      rintro e w4 ⟨g4, rfl, hg4, o4, hb4⟩
      have HA4 := hide (box_step HA3.out hb4)
      have hB4 : Below w.heap.size w w4 := hB3.trans (hb4.mono hB3.size)
      have r4 := rdOwnBind o4
      clear hb4 hB3 o4 HA3
      go_wp2_with fail
      refine (specCompute_any x _ _ L _ HSx.out r4 HSm.out (by omega)).mono ?_
      rintro e w5 ⟨rfl, hb5⟩
      have HA5 := hide (box_step HA4.out hb5)
      have hB5 : Below w.heap.size w w5 := hB4.trans (hb5.mono hB4.size)
      clear hb5 hB4 r4 HA4
      obtain ⟨K', N', S', b, hA⟩ := bindA_form (compO x L)
      rw [hA]
      have HA := hide hA
      clear hA
      have b5 := hB5.alloc hB5.size (.cells #[.int .i64 K', .int .i64 N', .string S'] 30)
      have HX := hide (boxk_new w5 #[.int .i64 K', .int .i64 N', .string S'] 30)
      have HA6 := hide (box_old HA5.out (Array.getElem?_eq_some_iff.1 HA5.out).1 (.cells #[.int .i64 K', .int .i64 N', .string S'] 30))
      clear HA5 hB5
      go_wp2_with fail
      refine (toBindS_ex a cap L _ (hr.below b5) hn).mono ?_
      rintro e w6 ⟨g6, rfl, hg6, o6, hb6⟩
      have HX6 := hide (box_step HX.out hb6)
      have HA7 := hide (box_step HA6.out hb6)
      have hB6 : Below w.heap.size w w6 := b5.trans (hb6.mono b5.size)
      have r6 := rdOwnBind o6
      clear hb6 b5 o6 HX HA6
      have a0 := boxk_cell HA7.out 0 _ rfl
      have a1 := boxk_cell HA7.out 1 _ rfl
      have a2 := boxk_cell HA7.out 2 _ rfl
      have a3 := boxk_cell HA7.out 3 _ rfl
      have a4 := boxk_cell HA7.out 4 _ rfl
      have a5 := boxk_cell HA7.out 5 _ rfl
      have a6 := boxk_cell HA7.out 6 _ rfl
      have a7 := boxk_cell HA7.out 7 _ rfl
      have a8 := boxk_cell HA7.out 8 _ rfl
      have a9 := boxk_cell HA7.out 9 _ rfl
      have a10 := boxk_cell HA7.out 10 _ rfl
      go_wp2_with fail
      refine (toExpr_any x.Op x.L.K x.L.S x.L.V.K x.L.V.N x.L.V.S x.R.K x.R.S x.R.V.K x.R.V.N x.R.V.S _).mono ?_
      rintro e w7 ⟨rfl, hb7⟩
      have HX7 := hide (box_step HX6.out hb7)
      have hB7 : Below w.heap.size w w7 := hB6.trans (hb7.mono hB6.size)
      have r7 := r6.below hb7
      clear hb7 hB6 HX6 HA7 r6 a0 a1 a2 a3 a4 a5 a6 a7 a8 a9 a10
      go_wp2_with fail
      refine (implCompute_any x _ _ L _ HSx.out r7 HSm.out (by omega)).mono ?_
      rintro e w8 ⟨rfl, hb8⟩
      have HX8 := hide (box_step HX7.out hb8)
      have hB8 : Below w.heap.size w w8 := hB7.trans (hb8.mono hB7.size)
      have r8 := r7.below hb8
      clear hb8 hB7 r7 HX7
      rw [HA.out]
      have b9 := hB8.alloc hB8.size (.cells #[.int .i64 K', .int .i64 N', .string S'] 30)
      have HX9 := hide (box_old HX8.out (Array.getElem?_eq_some_iff.1 HX8.out).1 (.cells #[.int .i64 K', .int .i64 N', .string S'] 30))
      have r9 := r8.below (below_al w8 (.cells #[.int .i64 K', .int .i64 N', .string S'] 30))
      clear hB8 HX8 r8
      obtain ⟨x0, x1, x2, -, -, -⟩ := box_cell HX9.out
      have hbb : (b != b) = false := by simp
      go_wp2_with fail
      refine (eqVal_same K' N' S' _).mono ?_
      rintro e w10 ⟨rfl, hb10⟩
      have hB10 : Below w.heap.size w w10 := b9.trans (hb10.mono b9.size)
      have r10 := r9.below hb10
      clear hb10 r9 x0 x1 x2 HX9 b9
      go_wp2_with fail
      refine (toBindS_ex a cap L _ (hr.below hB10) hn).mono ?_
      rintro e w11 ⟨g11, rfl, hg11, o11, hb11⟩
      have hB11 : Below w.heap.size w w11 := hB10.trans (hb11.mono hB10.size)
      have r11 := r10.below hb11
      clear hb11 hB10 r10
      go_wp2_with fail
      refine (eqBindS_same _ _ _ _ L _ r11 (rdOwnBind o11) (by omega)).mono ?_
      rintro e w12 ⟨rfl, hb12⟩
      have hB12 : Below w.heap.size w w12 := hB11.trans (hb12.mono hB11.size)
      go_wp2
      go_ret
      exact ⟨rfl, hB12⟩

theorem own : ownKnob Try.prog.godebug = none := by kernel_rfl
theorem laidOut : laidOutB Try.prog = true := by kernel_rfl

set_option maxRecDepth 100000 in
theorem lifted (os : Os) (started : os.Started) (H : Type) (enc : TypeId × Value → H) :
    ReturnsInHanded {} Try.checked os 4 .any (Rows.fnExactComputeSpec.pre6 enc Try.prog Try.f4 Rows.fnExactComputeRow.domain false) (Rows.fnExactComputeSpec.post enc Try.prog Try.f4 false true false false) := by
  refine returnsInHanded_of_change (C := Try.checked) own started (by kernel_rfl) Try.func4
    (ChangeSpec.witness6 (enc := enc) (C := Try.checked) false ⟨#[], #[.agg #[.string ByteArray.empty, .int .i64 0, .string ByteArray.empty, .int .i64 0, .int .i64 0, .string ByteArray.empty, .int .i64 0, .string ByteArray.empty, .int .i64 0, .int .i64 0, .string ByteArray.empty], .slice none 0 0], []⟩ 8 (by kernel_rfl) (by kernel_rfl) (by kernel_rfl) (by kernel_rfl)) ?_
  intro W base args ds gs before hval0 hW hcnd _
  have hval : ∀ (j : Nat) t v, Try.f4.params[j]? = some t → args[j]? = some v → Value.okWide Try.prog W .any base t v := hval0
  have hW' := hW
  obtain ⟨p, q, hA0, hV, rfl, hfz, hnd⟩ := hW
  have hA : DataW.TrodAll enc Try.prog W 0 (fun _ => true) true Try.f4.params.toList args.toList ds p := hA0
  rw [Try.params4] at hA hval
  obtain ⟨v0, vs0, d0, ds0, p0, q0, hargs, rfl, rfl, h0, r0⟩ := trodAll_cons hA
  obtain ⟨v1, vs1, d1, ds1, p1, q1, rfl, rfl, rfl, h1, r1⟩ := trodAll_cons r0
  obtain ⟨rfl, rfl, rfl⟩ := trodAll_nil r1
  obtain rfl : args = #[v0, v1] := by cases args; simp_all
  obtain ⟨rfl, rfl⟩ := trodVars_none hV
  have k0 := h0
  have lt0 : ∀ x ∈ p0, x.block < W.heap.size := by obtain ⟨m, hm⟩ := k0; exact DataW.trod_lt m _ _ _ hm
  obtain ⟨x0, rfl, w0⟩ := expr_in (hval 0 27 v0 rfl rfl) h0
  obtain ⟨a1, len1, cap1, rfl⟩ := okWide_slice Try.underlying37 (hval 1 37 v1 rfl rfl)
  have k1 := h1
  have lt1 : ∀ x ∈ p1, x.block < W.heap.size := by obtain ⟨m, hm⟩ := k1; exact DataW.trod_lt m _ _ _ hm
  obtain ⟨b1, m1, c1, L1, e1, w1⟩ : ∃ a len cap L, Value.slice a1 len1 cap1 = .slice a len cap ∧ IsBinds W a len cap L := by
    obtain ⟨fuel, hf⟩ := h1
    exact binds_in hf
  rw [e1] at hW' ⊢
  clear hA0 hval0
  refine (walk x0 b1 m1 c1 L1 W w0 w1).mono fun e W' ⟨he, bel⟩ => ?_
  subst he
  exact ⟨_, rfl, _, _, _, [], _, [], hW', trodAll_mk1 (shut_bool Try.underlying4 _), (trodAll_cons_mk (Below.trod laidOut (by kernel_rfl) (of_decide_eq_true (by kernel_rfl)) k0 bel lt0) (trodAll_cons_mk (by rw [← e1]; exact Below.trod laidOut (by kernel_rfl) (of_decide_eq_true (by kernel_rfl)) k1 bel lt1) trodAll_mk0)), rfl, bel.frame _, fun h => by cases h⟩

theorem over : Rows.fnExactComputeRow.holds Try.pinned (OpenSpec.ofChange Rows.fnExactComputeSpec) :=
  OpenClaim.holds_of_wide 4 Try.f4 rfl rfl rfl rfl rfl rfl rfl ⟨rfl, rfl, rfl, rfl, rfl⟩ rfl rfl rfl rfl rfl (by kernel_rfl) Try.func4 (by kernel_rfl)
    (of_decide_eq_true (by kernel_rfl)) (by unfold Func.isWrapper; first | (rw [if_pos (by decide +kernel)]; kernel_rfl) | (rw [if_neg (by decide +kernel)]; exact ⟨rfl, rfl⟩))
    (fun os started H enc _ => lifted os started H enc)
end Go.Proofs.Ytbellpalomiokaa.ExCompute
namespace Go.Proofs.Ytbellpalomiokaa
theorem fnExactCompute_holds : Rows.FnExactComputeSaid := ExCompute.over
#print axioms fnExactCompute_holds
end Go.Proofs.Ytbellpalomiokaa
