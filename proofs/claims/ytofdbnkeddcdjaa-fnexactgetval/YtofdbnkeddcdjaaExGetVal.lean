/-
  Proved: for every row of bytes and every place, the law on GetVal answers true (the tested function answers as its model, every field, and writes into no argument), and the arguments read as they did. No condition.
-/
import Derived.Test.YtofdbnkeddcdjaaGetValS
import Derived.Test.YtofdbnkeddcdjaaGetValI
import Derived.Test.YtofdbnkeddcdjaaBytesW
import Derived.Test.YtofdbnkeddcdjaaLawEq
import Derived.ProofKit
import Derived.OpenShut
import Derived.ShutString
import Derived.ChangeOld
import Derived.Below
namespace Go.Proofs.Ytofdbnkeddcdjaa.ExGetVal
open Go.ChangeShapes Go.WideShapes Go.ChangeAt Go.RowKit
open Go.ChangeMaps (open_string shut_string)
set_option linter.unusedVariables false

set_option maxRecDepth 100000 in
set_option maxHeartbeats 1600000 in
theorem law (a : Option Addr) (cap : Nat) (x : Int) (bs : List UInt8) (w : World) (hr : Rd w a bs) (hm : bs.length ≤ maxLen) :
    Calls Try.prog 6 #[.slice a bs.length cap, .int .i64 x] w fun e w' => e = .returned (.bool true) ∧ Below w.heap.size w w' := by
  unfold maxLen at hm
  by_cases hb : 1048576 < bs.length
  · go_enter Try.func6, Try.ntmps6
    go_wp2
    go_ret
    exact ⟨rfl, Below.refl _ _⟩
  · obtain ⟨K, N, S, q, b, hv⟩ : ∃ K N S q b, valR bs x = (K, N, S, q, b) := ⟨_, _, _, _, _, rfl⟩
    have HT : Hid (valT (valR bs x) = .tuple #[.agg #[.int .i64 K, .int .i64 N, .string S], .int .i64 q, .bool b]) := by unfold Hid; rw [hv]; rfl
    clear hv
    have hself : decide (bs = bs) = true := by simp
    go_enter Try.func6, Try.ntmps6
    go_wp2_with fail
    refine (toByteS_any a cap bs w hr (by omega)).mono ?_
    rintro e w1 ⟨v1, rfl, hown1, hbel1⟩
    obtain ⟨a1, c1, rfl, hr1, hc1, -⟩ := rd_owns_cap hown1
    go_wp2_with fail
    refine (specGetVal_any a1 c1 x bs w1 hr1 (by omega) hc1).mono ?_
    rw [HT.out]
    rintro e w2 ⟨rfl, hbel2⟩
    have hb2 : Below w.heap.size w w2 := hbel1.trans (hbel2.mono hbel1.size)
    clear hown1 hbel1 hbel2 hr1 hc1
    have hr2 : Rd (w2.alloc (.cells #[.int .i64 K, .int .i64 N, .string S] 25)) a bs := (hr.below hb2).below ((Below.refl _ _).alloc (Nat.le_refl _) _)
    have HR2 := hide hr2
    clear hr2
    go_wp2_with fail
    refine (toByteS_any a cap bs _ HR2.out (by omega)).mono ?_
    rintro e w3 ⟨v3, rfl, hown3, hbel3⟩
    have HW := hide (box_below (box_new w2 (.int .i64 K) (.int .i64 N) (.string S) 25) hbel3 (by simp))
    have hb3 : Below w.heap.size w w3 := (hb2.alloc hb2.size _).trans (hbel3.mono (by have := hb2.size; simp; omega))
    have z3 : w2.heap.size < w3.heap.size := by have := hbel3.size; simp at this; omega
    obtain ⟨a3, c3, rfl, hr3, hc3, hn3⟩ := rd_owns_cap hown3
    clear hown3 hbel3 HR2
    go_wp2_with fail
    refine (implGetVal_any a3 c3 x bs w3 hr3 (by omega) hc3 hn3).mono ?_
    rw [HT.out]
    rintro e w4 ⟨rfl, hbel4⟩
    have HW4 := hide (box_below HW.out hbel4 z3)
    have hb4 : Below w.heap.size w w4 := hb3.trans (hbel4.mono hb3.size)
    have hr4 := hr3.below hbel4
    have z4 : w2.heap.size < w4.heap.size := by have := hbel4.size; omega
    clear hbel4 HW hb3 z3
    obtain ⟨d0, d1, d2, -, -, -⟩ := box_cell HW4.out
    have q1 : (q != q) = false := by simp
    have q2 : (b != b) = false := by simp
    go_wp2_with fail
    refine (eqVal_same K N S _).mono ?_
    rintro e w5 ⟨rfl, hbel5⟩
    have hb5 : Below w.heap.size w w5 := (hb4.alloc hb4.size _).trans (hbel5.mono (by have := hb4.size; simp; omega))
    have hr5 : Rd w5 a3 bs := (hr4.below ((Below.refl _ _).alloc (Nat.le_refl _) _)).below hbel5
    clear hbel5 d0 d1 d2 HW4
    go_wp2_with fail
    refine (toByteS_any a cap bs w5 (hr.below hb5) (by omega)).mono ?_
    rintro e w6 ⟨v6, rfl, hown6, hbel6⟩
    obtain ⟨a6, c6, rfl, hr6, -⟩ := rd_owns hown6
    have hb6 : Below w.heap.size w w6 := hb5.trans (hbel6.mono hb5.size)
    go_wp2_with fail
    refine (eqByteS_any a3 a6 c3 c6 bs bs w6 (hr5.below hbel6) hr6 (by omega) (by omega)).mono ?_
    rintro e w7 ⟨rfl, nd, rfl⟩
    go_wp2
    go_ret
    exact ⟨rfl, hb6.trans (below_drewN _ _ _)⟩

theorem walk (a0 : Option Addr) (len0 cap0 : Nat) (z0 : List Int) (a1 : Int) (w : World) (w0 : IsRow .u8 w a0 len0 cap0 z0) (w1 : (Lit.int .i64 a1).wf = true) :
    Calls Try.prog 6 #[.slice a0 len0 cap0, .int .i64 a1] w fun e w' => e = .returned (.bool true) ∧ Below w.heap.size w w' := by
  obtain ⟨bs, hl, hr⟩ := rd_row w0
  have hm : len0 ≤ maxLen := isRow_len w0
  subst hl
  exact law a0 cap0 a1 bs w hr hm

theorem own : ownKnob Try.prog.godebug = none := by kernel_rfl
theorem laidOut : laidOutB Try.prog = true := by kernel_rfl

set_option maxRecDepth 100000 in
theorem lifted (os : Os) (started : os.Started) (H : Type) (enc : TypeId × Value → H) :
    ReturnsInHanded {} Try.checked os 6 .any (Rows.fnExactGetValSpec.pre6 enc Try.prog Try.f6 Rows.fnExactGetValRow.domain false) (Rows.fnExactGetValSpec.post enc Try.prog Try.f6 false true false false) := by
  refine returnsInHanded_of_change (C := Try.checked) own started (by kernel_rfl) Try.func6
    (ChangeSpec.witness6 (enc := enc) (C := Try.checked) false ⟨#[], #[.slice none 0 0, .int .i64 0], []⟩ 8 (by kernel_rfl) (by kernel_rfl) (by kernel_rfl) (by kernel_rfl)) ?_
  intro W base args ds gs before hval0 hW hcnd _
  have hval : ∀ (j : Nat) t v, Try.f6.params[j]? = some t → args[j]? = some v → Value.okWide Try.prog W .any base t v := hval0
  have hW' := hW
  obtain ⟨p, q, hA0, hV, rfl, hfz, hnd⟩ := hW
  have hA : DataW.TrodAll enc Try.prog W 0 (fun _ => true) true Try.f6.params.toList args.toList ds p := hA0
  rw [Try.params6] at hA hval
  obtain ⟨v0, vs0, d0, ds0, p0, q0, hargs, rfl, rfl, h0, r0⟩ := trodAll_cons hA
  obtain ⟨v1, vs1, d1, ds1, p1, q1, rfl, rfl, rfl, h1, r1⟩ := trodAll_cons r0
  obtain ⟨rfl, rfl, rfl⟩ := trodAll_nil r1
  obtain rfl : args = #[v0, v1] := by cases args; simp_all
  obtain ⟨rfl, rfl⟩ := trodVars_none hV
  obtain ⟨a0, len0, cap0, rfl⟩ := okWide_slice Try.underlying22 (hval 0 22 v0 rfl rfl)
  have k0 := h0
  have lt0 : ∀ x ∈ p0, x.block < W.heap.size := by obtain ⟨m, hm⟩ := k0; exact DataW.trod_lt m _ _ _ hm
  obtain ⟨z0, w0⟩ : ∃ zs, IsRow .u8 W a0 len0 cap0 zs := by
    obtain ⟨fuel, hf⟩ := h0
    rcases open_ints Try.underlying22 Try.underlying5 (by kernel_rfl) hf with ⟨hcs, _⟩ | ⟨x, l, c, zs, hcs, _, hl, hm, hz, _, hcell, hwz⟩
    · simp [Value.cells] at hcs
      obtain ⟨rfl, rfl, rfl⟩ := hcs
      exact ⟨[], .inl ⟨rfl, rfl, rfl, rfl⟩⟩
    · simp [Value.cells] at hcs
      obtain ⟨rfl, rfl, rfl⟩ := hcs
      exact ⟨zs, .inr ⟨_, rfl, hl, hm, by simpa using hz, hcell, hwz⟩⟩
  obtain ⟨a1, rfl, rfl, rfl, w1⟩ := open_int Try.underlying3 (hval 1 3 v1 rfl rfl) h1
  clear hA0 hval0
  refine (walk a0 len0 cap0 z0 a1 W w0 w1).mono fun e W' ⟨he, bel⟩ => ?_
  subst he
  exact ⟨_, rfl, _, _, _, [], _, [], hW', trodAll_mk1 (shut_bool Try.underlying4 _), (trodAll_cons_mk (Below.trod laidOut (by kernel_rfl) (of_decide_eq_true (by kernel_rfl)) k0 bel lt0) (trodAll_cons_mk (shut_int Try.underlying3 w1) trodAll_mk0)), rfl, bel.frame _, fun h => by cases h⟩

theorem over : Rows.fnExactGetValRow.holds Try.pinned (OpenSpec.ofChange Rows.fnExactGetValSpec) :=
  OpenClaim.holds_of_wide 6 Try.f6 rfl rfl rfl rfl rfl rfl rfl ⟨rfl, rfl, rfl, rfl, rfl⟩ rfl rfl rfl rfl rfl (by kernel_rfl) Try.func6 (by kernel_rfl)
    (of_decide_eq_true (by kernel_rfl)) (by unfold Func.isWrapper; first | (rw [if_pos (by decide +kernel)]; kernel_rfl) | (rw [if_neg (by decide +kernel)]; exact ⟨rfl, rfl⟩))
    (fun os started H enc _ => lifted os started H enc)
end Go.Proofs.Ytofdbnkeddcdjaa.ExGetVal
namespace Go.Proofs.Ytofdbnkeddcdjaa
theorem fnExactGetVal_holds : Rows.FnExactGetValSaid := ExGetVal.over
#print axioms fnExactGetVal_holds
end Go.Proofs.Ytofdbnkeddcdjaa
