/-
  Proved: for every list of binds and every name, the law on BindOf answers true (the tested function answers as its model and writes into no argument), and all that was there reads as it did. No condition.
-/
import Derived.Test.YtakodlfmnedeiaaBindOf
import Derived.Test.YtakodlfmnedeiaaLawBind
import Derived.Test.YtakodlfmnedeiaaRows
import Derived.ProofKit
import Derived.OpenShut
import Derived.ShutString
import Derived.ChangeOld
import Derived.Below
import Derived.Lib.SmallJoins
import Derived.Deep.RegionHeld3
namespace Go.Proofs.Ytakodlfmnedeiaa.ExBindOf
open Go.ChangeShapes Go.WideShapes Go.ChangeAt Go.RowKit Go.Joins
open Go.ChangeMaps (open_string shut_string)
set_option linter.unusedVariables false

set_option maxRecDepth 100000 in
set_option maxHeartbeats 3200000 in
theorem walk (a : Option Addr) (len cap : Nat) (L : List B4) (nm : ByteArray) (w : World) (hv : IsBinds w a len cap L) (hnm : nm.size ≤ maxLen) :
    Calls Try.prog 6 #[.slice a len cap, .string nm] w fun e w' => e = .returned (.bool true) ∧ Below w.heap.size w w' := by
  obtain ⟨rfl, hm, hr, hs⟩ := hv
  unfold maxLen at hnm
  by_cases h0 : nm.size ≤ 1048576
  · go_enter Try.func6, Try.ntmps6
    go_wp2_with fail
    refine (szBindS_any a cap L 1048576 _ hr hs hm (by omega) (by omega)).mono ?_
    rintro e w1 ⟨⟨r, rfl, hr1⟩, hB1⟩
    rcases hr1 with rfl | ⟨hr2, hr3, hsm⟩
    · go_wp2
      go_ret
      exact ⟨rfl, hB1⟩
    · have hn : L.length ≤ 1048576 := by omega
      have HSm := hide hsm
      clear hr3 hsm
      go_wp2_with fail
      refine (toBindS_ex a cap L _ (hr.below hB1) hn).mono ?_
      rintro e w2 ⟨g2, rfl, hg2, o2, hb2⟩
      have hB2 : Below w.heap.size w w2 := hB1.trans (hb2.mono hB1.size)
      have r2 := rdOwnBind o2
      clear hb2 hB1 o2
      go_wp2_with fail
      refine (specBindOf_any _ _ L nm _ r2 (by omega)).mono ?_
      rintro e w3 ⟨rfl, hb3⟩
      have hB3 : Below w.heap.size w w3 := hB2.trans (hb3.mono hB2.size)
      clear hb3 hB2 r2
      obtain ⟨K, N, S, b, hA⟩ := bindA_form (bindO L nm)
      rw [hA]
      have HA := hide hA
      clear hA
      have b3 := hB3.alloc hB3.size (.cells #[.int .i64 K, .int .i64 N, .string S] 28)
      have HX := hide (boxk_new w3 #[.int .i64 K, .int .i64 N, .string S] 28)
      go_wp2_with fail
      refine (toBindS_ex a cap L _ (hr.below b3) hn).mono ?_
      rintro e w4 ⟨g4, rfl, hg4, o4, hb4⟩
      have hB4 : Below w.heap.size w w4 := b3.trans (hb4.mono b3.size)
      have HX4 := hide (box_step HX.out hb4)
      have r4 := rdOwnBind o4
      clear hb4 b3 hB3 o4 HX
      go_wp2_with fail
      refine (implBindOf_any _ _ L nm _ r4 HSm.out (by omega)).mono ?_
      rintro e w5 ⟨rfl, hb5⟩
      have hB5 : Below w.heap.size w w5 := hB4.trans (hb5.mono hB4.size)
      have HX5 := hide (box_step HX4.out hb5)
      have r5 := r4.below hb5
      clear hb5 hB4 HX4 r4
      rw [HA.out]
      have b5 := hB5.alloc hB5.size (.cells #[.int .i64 K, .int .i64 N, .string S] 28)
      have HY := hide (boxk_new w5 #[.int .i64 K, .int .i64 N, .string S] 28)
      have HX6 := hide (box_old HX5.out (Array.getElem?_eq_some_iff.1 HX5.out).1 (.cells #[.int .i64 K, .int .i64 N, .string S] 28))
      have r6 := r5.below (below_al w5 (.cells #[.int .i64 K, .int .i64 N, .string S] 28))
      clear hB5 HX5 r5
      obtain ⟨x0, x1, x2, -, -, -⟩ := box_cell HX6.out
      have hbb : (b != b) = false := by simp
      go_wp2_with fail
      refine (eqVal_same K N S _).mono ?_
      rintro e w7 ⟨rfl, hb7⟩
      have hB7 : Below w.heap.size w w7 := b5.trans (hb7.mono b5.size)
      have r7 := r6.below hb7
      clear hb7 r6 x0 x1 x2 HX6 HY b5
      go_wp2_with fail
      refine (toBindS_ex a cap L _ (hr.below hB7) hn).mono ?_
      rintro e w8 ⟨g8, rfl, hg8, o8, hb8⟩
      have hB8 : Below w.heap.size w w8 := hB7.trans (hb8.mono hB7.size)
      have r8 := r7.below hb8
      clear hb8 hB7 r7
      go_wp2_with fail
      refine (eqBindS_same _ _ _ _ L _ r8 (rdOwnBind o8) (by omega)).mono ?_
      rintro e w9 ⟨rfl, hb9⟩
      have hB9 : Below w.heap.size w w9 := hB8.trans (hb9.mono hB8.size)
      go_wp2
      go_ret
      exact ⟨rfl, hB9⟩
  · go_enter Try.func6, Try.ntmps6
    go_wp2
    go_ret
    exact ⟨rfl, Below.refl _ _⟩

theorem own : ownKnob Try.prog.godebug = none := by kernel_rfl
theorem laidOut : laidOutB Try.prog = true := by kernel_rfl

set_option maxRecDepth 100000 in
theorem lifted (os : Os) (started : os.Started) (H : Type) (enc : TypeId × Value → H) :
    ReturnsInHanded {} Try.checked os 6 .any (Rows.fnExactBindOfSpec.pre6 enc Try.prog Try.f6 Rows.fnExactBindOfRow.domain false) (Rows.fnExactBindOfSpec.post enc Try.prog Try.f6 false true false false) := by
  refine returnsInHanded_of_change (C := Try.checked) own started (by kernel_rfl) Try.func6
    (ChangeSpec.witness6 (enc := enc) (C := Try.checked) false ⟨#[], #[.slice none 0 0, .string ByteArray.empty], []⟩ 8 (by kernel_rfl) (by kernel_rfl) (by kernel_rfl) (by kernel_rfl)) ?_
  intro W base args ds gs before hval0 hW hcnd _
  have hval : ∀ (j : Nat) t v, Try.f6.params[j]? = some t → args[j]? = some v → Value.okWide Try.prog W .any base t v := hval0
  have hW' := hW
  obtain ⟨p, q, hA0, hV, rfl, hfz, hnd⟩ := hW
  have hA : DataW.TrodAll enc Try.prog W 0 (fun _ => true) true Try.f6.params.toList args.toList ds p := hA0
  rw [Try.params6] at hA hval
  obtain ⟨v0, vs0, d0, ds0, p0, q0, hargs, rfl, rfl, h0, r0⟩ := trodAll_cons hA
  obtain ⟨v1, vs1, d1, ds1, p1, q1, rfl, rfl, rfl, h1, r1⟩ := trodAll_cons r0
  obtain ⟨rfl, rfl, rfl⟩ := trodAll_nil r1
  obtain rfl : args = #[v0, v1] := by cases args; simp_all
  obtain ⟨rfl, rfl⟩ := trodVars_none hV
  obtain ⟨a0, len0, cap0, rfl⟩ := okWide_slice Try.underlying49 (hval 0 49 v0 rfl rfl)
  have k0 := h0
  have lt0 : ∀ x ∈ p0, x.block < W.heap.size := by obtain ⟨m, hm⟩ := k0; exact DataW.trod_lt m _ _ _ hm
  obtain ⟨b0, m0, c0, L0, e0, w0⟩ : ∃ a len cap L, Value.slice a0 len0 cap0 = .slice a len cap ∧ IsBinds W a len cap L := by
    obtain ⟨fuel, hf⟩ := h0
    exact binds_in hf
  rw [e0] at hW' ⊢
  obtain ⟨a1, rfl, rfl, rfl, w1⟩ := open_string Try.underlying9 (hval 1 9 v1 rfl rfl) h1
  clear hA0 hval0
  refine (walk b0 m0 c0 L0 a1 W w0 w1).mono fun e W' ⟨he, bel⟩ => ?_
  subst he
  exact ⟨_, rfl, _, _, _, [], _, [], hW', trodAll_mk1 (shut_bool Try.underlying4 _), (trodAll_cons_mk (by rw [← e0]; exact Below.trod laidOut (by kernel_rfl) (of_decide_eq_true (by kernel_rfl)) k0 bel lt0) (trodAll_cons_mk (shut_string Try.underlying9 w1) trodAll_mk0)), rfl, bel.frame _, fun h => by cases h⟩

theorem over : Rows.fnExactBindOfRow.holds Try.pinned (OpenSpec.ofChange Rows.fnExactBindOfSpec) :=
  OpenClaim.holds_of_wide 6 Try.f6 rfl rfl rfl rfl rfl rfl rfl ⟨rfl, rfl, rfl, rfl, rfl⟩ rfl rfl rfl rfl rfl (by kernel_rfl) Try.func6 (by kernel_rfl)
    (of_decide_eq_true (by kernel_rfl)) (by unfold Func.isWrapper; first | (rw [if_pos (by decide +kernel)]; kernel_rfl) | (rw [if_neg (by decide +kernel)]; exact ⟨rfl, rfl⟩))
    (fun os started H enc _ => lifted os started H enc)
end Go.Proofs.Ytakodlfmnedeiaa.ExBindOf
namespace Go.Proofs.Ytakodlfmnedeiaa
theorem fnExactBindOf_holds : Rows.FnExactBindOfSaid := ExBindOf.over
#print axioms fnExactBindOf_holds
end Go.Proofs.Ytakodlfmnedeiaa
