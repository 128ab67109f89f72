/-
  Proved: for every two values, the law on AddVals answers true (the tested function answers as its model, every field), and the values read as they did. No condition.
-/
import Derived.Test.YtofdbnkeddcdjabSumI
import Derived.Test.YtofdbnkeddcdjabSumS
import Derived.Test.YtofdbnkeddcdjabLawVal
import Derived.Test.YtofdbnkeddcdjabLawEq
import Derived.Test.YtofdbnkeddcdjabKeep6
import Derived.Deep.DeepCutAuto
import Derived.Deep.RegionHeld3
import Derived.Lib.SmallJoins
import Derived.ProofKit
import Derived.OpenShut
import Derived.ShutString
import Derived.ChangeOld
import Derived.Below
namespace Go.Proofs.Ytofdbnkeddcdjab.ExAdd
open Go.ChangeShapes Go.WideShapes Go.ChangeAt Go.RowKit Go.Joins
open Go.ChangeMaps (open_string shut_string)
set_option linter.unusedVariables false

set_option maxRecDepth 100000 in
set_option maxHeartbeats 12800000 in
theorem walk (K N : Int) (S : ByteArray) (K' N' : Int) (S' : ByteArray) (w : World) (hs : S.size ≤ maxLen) (hs' : S'.size ≤ maxLen) :
    Calls Try.prog 3 #[.agg #[.int .i64 K, .int .i64 N, .string S], .agg #[.int .i64 K', .int .i64 N', .string S']] w fun e w' => e = .returned (.bool true) ∧ Below w.heap.size w w' := by
  go_enter Try.func3, Try.ntmps3
  go_wp2_with fail
  refine (szVal_any K N S 1048576 _ hs (by omega) (by omega)).mono ?_
  rintro e w1 ⟨rfl, hb1⟩
  have HA := hide (box_below (box_old (box_new w (.int .i64 K) (.int .i64 N) (.string S) 23) (by simp) (.cells #[.int .i64 K', .int .i64 N', .string S'] 23)) hb1 (by simp; omega))
  have HB := hide (box_below (box_new (w.alloc (.cells #[.int .i64 K, .int .i64 N, .string S] 23)) (.int .i64 K') (.int .i64 N') (.string S') 23) hb1 (by simp))
  have hB1 : Below w.heap.size w w1 := (((Below.refl w.heap.size w).alloc (Nat.le_refl _) _).alloc (by simp) _).trans (hb1.mono (by simp; omega))
  have hz1 : w.heap.size + 2 ≤ w1.heap.size := by have := hb1.size; simp at this; omega
  simp only [World.size_alloc] at HA HB
  clear hb1
  by_cases h1 : (1048576 : Int) - (S.size : Int) < 0
  · rw [if_pos h1]
    go_wp2
    go_ret
    exact ⟨rfl, hB1⟩
  · rw [if_neg h1]
    obtain ⟨b0, b1, b2, -, -, -⟩ := box_cell HB.out
    go_wp2_with fail
    refine (szVal_any K' N' S' _ _ hs' (by omega) (by omega)).mono ?_
    rintro e w2 ⟨rfl, hb2⟩
    have HA2 := hide (box_below HA.out hb2 (by omega))
    have HB2 := hide (box_below HB.out hb2 (by omega))
    have hB2 : Below w.heap.size w w2 := hB1.trans (hb2.mono (by omega))
    have hz2 : w.heap.size + 2 ≤ w2.heap.size := by have := hb2.size; omega
    clear hb2 HA HB hB1 hz1 b0 b1 b2
    by_cases h2 : (1048576 : Int) - (S.size : Int) - (S'.size : Int) < 0
    · rw [if_pos h2]
      go_wp2
      go_ret
      exact ⟨rfl, hB2⟩
    · rw [if_neg h2]
      obtain ⟨a0, a1, a2, -, -, -⟩ := box_cell HA2.out
      obtain ⟨b0, b1, b2, -, -, -⟩ := box_cell HB2.out
      obtain ⟨r1, r2, rb, hT⟩ := tupV_open (isNum K N S && isNum K' N' S' && inB (numN K N S + numN K' N' S') (-1000000000) 1000000000) (numN K N S + numN K' N' S')
      have HT : Hid (sumV K N S K' N' S' (numN K N S + numN K' N' S') = .tuple #[.agg #[.int .i64 r1, .int .i64 r2, .string ⟨#[]⟩], .bool rb]) := hT
      clear hT
      have hS8 : w2.cell? ⟨w.heap.size, 0, none⟩ = some (.int .i64 K) ∧ w2.cell? ⟨w.heap.size, 1, none⟩ = some (.int .i64 N) ∧ w2.cell? ⟨w.heap.size, 2, none⟩ = some (.string S) ∧ w2.cell? ⟨w.heap.size + 1, 0, none⟩ = some (.int .i64 K') ∧ w2.cell? ⟨w.heap.size + 1, 1, none⟩ = some (.int .i64 N') ∧ w2.cell? ⟨w.heap.size + 1, 2, none⟩ = some (.string S') ∧ Below w2.heap.size w2 w2 ∧ w2.heap.size ≤ w2.heap.size := ⟨a0, a1, a2, b0, b1, b2, Below.refl _ _, Nat.le_refl _⟩
      go_upto_region 8 with fail
      go_cut [6, 7] (fun p b wx => ∃ q, p = .pointer (some ⟨q, 0, none⟩) ∧ b = .bool rb ∧ wx.heap[q]? = some (.cells #[.int .i64 r1, .int .i64 r2, .string ⟨#[]⟩] 25 (0, 0)) ∧ wx.cell? ⟨w.heap.size, 0, none⟩ = some (.int .i64 K) ∧ wx.cell? ⟨w.heap.size, 1, none⟩ = some (.int .i64 N) ∧ wx.cell? ⟨w.heap.size, 2, none⟩ = some (.string S) ∧ wx.cell? ⟨w.heap.size + 1, 0, none⟩ = some (.int .i64 K') ∧ wx.cell? ⟨w.heap.size + 1, 1, none⟩ = some (.int .i64 N') ∧ wx.cell? ⟨w.heap.size + 1, 2, none⟩ = some (.string S') ∧ Below w2.heap.size w2 wx ∧ w2.heap.size ≤ wx.heap.size)
      case first =>
        go_region_held3 (fun w' => w'.cell? ⟨w.heap.size, 0, none⟩ = some (.int .i64 K) ∧ w'.cell? ⟨w.heap.size, 1, none⟩ = some (.int .i64 N) ∧ w'.cell? ⟨w.heap.size, 2, none⟩ = some (.string S) ∧ w'.cell? ⟨w.heap.size + 1, 0, none⟩ = some (.int .i64 K') ∧ w'.cell? ⟨w.heap.size + 1, 1, none⟩ = some (.int .i64 N') ∧ w'.cell? ⟨w.heap.size + 1, 2, none⟩ = some (.string S') ∧ Below w2.heap.size w2 w' ∧ w2.heap.size ≤ w'.heap.size) (first | (with_reducible exact keep7s hS8 (by assumption) ⟨_, _, _, _, hq⟩) | (with_reducible exact keep7s (W1 := u1) (keep7 (below_dr k1) hS8) (by assumption) ⟨_, _, _, _, hq⟩) | (with_reducible exact keep7s (W1 := u2) (keep7 (below_step (below_dr k1) k2) hS8) (by assumption) ⟨_, _, _, _, hq⟩) | (with_reducible exact keep7 (below_end (below_step (below_step (below_dr k1) k2) k3) _) hS8) | (with_reducible exact keep7 (below_al _ _) (by assumption)) | (with_reducible exact keep7 (below_ald _ _) (by assumption)) | (with_reducible exact keep7 k3 (by assumption)) | (with_reducible exact keep7 k2 (by assumption)) | (with_reducible exact keep7 k1 (by assumption)) | exact ⟨a0, a1, a2, b0, b1, b2, (Below.refl _ _).drew, Nat.le_refl _⟩)
          (first | (go_at_call_of 9 S; refine (toVal_any K N S _).mono ?_; rintro e u1 ⟨rfl, k1⟩) | (go_at_call_of 9 S'; refine (toVal_any K' N' S' _).mono ?_; rintro e u2 ⟨rfl, k2⟩) | (go_at_call 8; refine (specAddVals_any _ _ _ _ _ _ _ hs hs').mono ?_; rw [HT.out]; rintro e u3 ⟨rfl, k3⟩; (first | ((with_reducible have hq := box_step (box_step (box_step (box_newd w2 (.int .i64 0) (.int .i64 0) (.string ⟨#[]⟩) 25) k1) k2) k3); obtain ⟨p0, p1, p2, f0, f1, f2⟩ := box_cell hq) | ((with_reducible have hq := box_step (box_step (box_new u1 (.int .i64 0) (.int .i64 0) (.string ⟨#[]⟩) 25) k2) k3); obtain ⟨p0, p1, p2, f0, f1, f2⟩ := box_cell hq) | ((with_reducible have hq := box_step (box_new u2 (.int .i64 0) (.int .i64 0) (.string ⟨#[]⟩) 25) k3); obtain ⟨p0, p1, p2, f0, f1, f2⟩ := box_cell hq) | skip)))
        all_goals go_wp2_with fail
        all_goals go_meet
        all_goals refine ⟨_, rfl, rfl, ?_, by assumption⟩
        all_goals first | exact box_new _ _ _ _ _ | exact (box_set3 hq _ _ _).1
      case rest =>
      clear a0 a1 a2 b0 b1 b2 hS8
      obtain ⟨q6, rfl, rfl, hX, a0, a1, a2, b0, b1, b2, hB3, hz3⟩ := hcut
      have hBc : Below w.heap.size w wc := hB2.trans (hB3.mono hB2.size)
      have HX := hide hX
      have hq6 := (Array.getElem?_eq_some_iff.1 hX).1
      clear hX hB3 hz3 hB2 HA2 HB2 hz2
      have hS9 : wc.cell? ⟨w.heap.size, 0, none⟩ = some (.int .i64 K) ∧ wc.cell? ⟨w.heap.size, 1, none⟩ = some (.int .i64 N) ∧ wc.cell? ⟨w.heap.size, 2, none⟩ = some (.string S) ∧ wc.cell? ⟨w.heap.size + 1, 0, none⟩ = some (.int .i64 K') ∧ wc.cell? ⟨w.heap.size + 1, 1, none⟩ = some (.int .i64 N') ∧ wc.cell? ⟨w.heap.size + 1, 2, none⟩ = some (.string S') ∧ Below wc.heap.size wc wc ∧ wc.heap.size ≤ wc.heap.size := ⟨a0, a1, a2, b0, b1, b2, Below.refl _ _, Nat.le_refl _⟩
      go_upto_region 9 with fail
      go_cut [8, 9] (fun p b wy => ∃ q, p = .pointer (some ⟨q, 0, none⟩) ∧ b = .bool rb ∧ wy.heap[q]? = some (.cells #[.int .i64 r1, .int .i64 r2, .string ⟨#[]⟩] 25 (0, 0)) ∧ wy.cell? ⟨w.heap.size, 0, none⟩ = some (.int .i64 K) ∧ wy.cell? ⟨w.heap.size, 1, none⟩ = some (.int .i64 N) ∧ wy.cell? ⟨w.heap.size, 2, none⟩ = some (.string S) ∧ wy.cell? ⟨w.heap.size + 1, 0, none⟩ = some (.int .i64 K') ∧ wy.cell? ⟨w.heap.size + 1, 1, none⟩ = some (.int .i64 N') ∧ wy.cell? ⟨w.heap.size + 1, 2, none⟩ = some (.string S') ∧ Below wc.heap.size wc wy ∧ wc.heap.size ≤ wy.heap.size)
      case first =>
        go_region_held3 (fun w' => w'.cell? ⟨w.heap.size, 0, none⟩ = some (.int .i64 K) ∧ w'.cell? ⟨w.heap.size, 1, none⟩ = some (.int .i64 N) ∧ w'.cell? ⟨w.heap.size, 2, none⟩ = some (.string S) ∧ w'.cell? ⟨w.heap.size + 1, 0, none⟩ = some (.int .i64 K') ∧ w'.cell? ⟨w.heap.size + 1, 1, none⟩ = some (.int .i64 N') ∧ w'.cell? ⟨w.heap.size + 1, 2, none⟩ = some (.string S') ∧ Below wc.heap.size wc w' ∧ wc.heap.size ≤ w'.heap.size) (first | (with_reducible exact keep7s hS9 (by assumption) ⟨_, _, _, _, hq⟩) | (with_reducible exact keep7s (W1 := u1) (keep7 (below_dr k1) hS9) (by assumption) ⟨_, _, _, _, hq⟩) | (with_reducible exact keep7s (W1 := u2) (keep7 (below_step (below_dr k1) k2) hS9) (by assumption) ⟨_, _, _, _, hq⟩) | (with_reducible exact keep7 (below_end (below_step (below_step (below_dr k1) k2) k3) _) hS9) | (with_reducible exact keep7 (below_al _ _) (by assumption)) | (with_reducible exact keep7 (below_ald _ _) (by assumption)) | (with_reducible exact keep7 k3 (by assumption)) | (with_reducible exact keep7 k2 (by assumption)) | (with_reducible exact keep7 k1 (by assumption)) | exact ⟨a0, a1, a2, b0, b1, b2, (Below.refl _ _).drew, Nat.le_refl _⟩)
          (first | (go_at_call_of 9 S; refine (toVal_any K N S _).mono ?_; rintro e u1 ⟨rfl, k1⟩) | (go_at_call_of 9 S'; refine (toVal_any K' N' S' _).mono ?_; rintro e u2 ⟨rfl, k2⟩) | (go_at_call 10; refine (implAddVals_any _ _ _ _ _ _ _ hs hs').mono ?_; rw [HT.out]; rintro e u3 ⟨rfl, k3⟩; (first | ((with_reducible have hq := box_step (box_step (box_step (box_newd wc (.int .i64 0) (.int .i64 0) (.string ⟨#[]⟩) 25) k1) k2) k3); obtain ⟨p0, p1, p2, f0, f1, f2⟩ := box_cell hq) | ((with_reducible have hq := box_step (box_step (box_new u1 (.int .i64 0) (.int .i64 0) (.string ⟨#[]⟩) 25) k2) k3); obtain ⟨p0, p1, p2, f0, f1, f2⟩ := box_cell hq) | ((with_reducible have hq := box_step (box_new u2 (.int .i64 0) (.int .i64 0) (.string ⟨#[]⟩) 25) k3); obtain ⟨p0, p1, p2, f0, f1, f2⟩ := box_cell hq) | skip)))
        all_goals go_wp2_with fail
        all_goals go_meet
        all_goals refine ⟨_, rfl, rfl, ?_, by assumption⟩
        all_goals first | exact box_new _ _ _ _ _ | exact (box_set3 hq _ _ _).1
      case rest =>
      clear a0 a1 a2 b0 b1 b2 hS9
      obtain ⟨q8, rfl, rfl, hY, -, -, -, -, -, -, hB4, -⟩ := hcut
      have hX2 := box_below HX.out hB4 hq6
      obtain ⟨y0, y1, y2, -, -, -⟩ := box_cell hY
      obtain ⟨x0, x1, x2, -, -, -⟩ := box_cell hX2
      have hend := hBc.trans (hB4.mono hBc.size)
      clear hX2 hY HX hB4 hBc
      have e1 : (rb != rb) = false := by simp
      go_wp2_with fail
      refine (eqVal_same r1 r2 ⟨#[]⟩ _).mono ?_
      rintro e w5 ⟨rfl, hb5⟩
      have hB5 := hend.trans (hb5.mono hend.size)
      go_wp2
      go_ret
      exact ⟨rfl, hB5⟩

theorem own : ownKnob Try.prog.godebug = none := by kernel_rfl
theorem laidOut : laidOutB Try.prog = true := by kernel_rfl

set_option maxRecDepth 100000 in
theorem lifted (os : Os) (started : os.Started) (H : Type) (enc : TypeId × Value → H) :
    ReturnsInHanded {} Try.checked os 3 .any (Rows.fnExactAddValsSpec.pre6 enc Try.prog Try.f3 Rows.fnExactAddValsRow.domain false) (Rows.fnExactAddValsSpec.post enc Try.prog Try.f3 false true false false) := by
  refine returnsInHanded_of_change (C := Try.checked) own started (by kernel_rfl) Try.func3
    (ChangeSpec.witness6 (enc := enc) (C := Try.checked) false ⟨#[], #[.agg #[.int .i64 0, .int .i64 0, .string ByteArray.empty], .agg #[.int .i64 0, .int .i64 0, .string ByteArray.empty]], []⟩ 8 (by kernel_rfl) (by kernel_rfl) (by kernel_rfl) (by kernel_rfl)) ?_
  intro W base args ds gs before hval0 hW hcnd _
  have hval : ∀ (j : Nat) t v, Try.f3.params[j]? = some t → args[j]? = some v → Value.okWide Try.prog W .any base t v := hval0
  have hW' := hW
  obtain ⟨p, q, hA0, hV, rfl, hfz, hnd⟩ := hW
  have hA : DataW.TrodAll enc Try.prog W 0 (fun _ => true) true Try.f3.params.toList args.toList ds p := hA0
  rw [Try.params3] at hA hval
  obtain ⟨v0, vs0, d0, ds0, p0, q0, hargs, rfl, rfl, h0, r0⟩ := trodAll_cons hA
  obtain ⟨v1, vs1, d1, ds1, p1, q1, rfl, rfl, rfl, h1, r1⟩ := trodAll_cons r0
  obtain ⟨rfl, rfl, rfl⟩ := trodAll_nil r1
  obtain rfl : args = #[v0, v1] := by cases args; simp_all
  obtain ⟨rfl, rfl⟩ := trodVars_none hV
  have k0 := h0
  have lt0 : ∀ x ∈ p0, x.block < W.heap.size := by obtain ⟨m, hm⟩ := k0; exact DataW.trod_lt m _ _ _ hm
  obtain ⟨c0a, c0b, c0c, y0a, y0b, y0c, m0, rfl, _, _, hy0a, hy0b, hy0c⟩ := open_agg3 Try.underlying23 (by kernel_rfl) (by kernel_rfl) (hval 0 23 v0 rfl rfl) h0
  obtain ⟨K0, eK0, _, _⟩ := DataW.trod_int Try.underlying3 hy0a
  obtain ⟨N0, eN0, _, _⟩ := DataW.trod_int Try.underlying3 hy0b
  obtain ⟨S0, eS0, _, w0⟩ := DataW.trod_string Try.underlying9 hy0c
  simp only [List.cons.injEq, and_true] at eK0 eN0 eS0
  subst eK0 eN0 eS0
  have k1 := h1
  have lt1 : ∀ x ∈ p1, x.block < W.heap.size := by obtain ⟨m, hm⟩ := k1; exact DataW.trod_lt m _ _ _ hm
  obtain ⟨c1a, c1b, c1c, y1a, y1b, y1c, m1, rfl, _, _, hy1a, hy1b, hy1c⟩ := open_agg3 Try.underlying23 (by kernel_rfl) (by kernel_rfl) (hval 1 23 v1 rfl rfl) h1
  obtain ⟨K1, eK1, _, _⟩ := DataW.trod_int Try.underlying3 hy1a
  obtain ⟨N1, eN1, _, _⟩ := DataW.trod_int Try.underlying3 hy1b
  obtain ⟨S1, eS1, _, w1⟩ := DataW.trod_string Try.underlying9 hy1c
  simp only [List.cons.injEq, and_true] at eK1 eN1 eS1
  subst eK1 eN1 eS1
  clear hA0 hval0
  refine (walk K0 N0 S0 K1 N1 S1 W w0 w1).mono fun e W' ⟨he, bel⟩ => ?_
  subst he
  exact ⟨_, rfl, _, _, _, [], _, [], hW', trodAll_mk1 (shut_bool Try.underlying4 _), (trodAll_cons_mk (Below.trod laidOut (by kernel_rfl) (of_decide_eq_true (by kernel_rfl)) k0 bel lt0) (trodAll_cons_mk (Below.trod laidOut (by kernel_rfl) (of_decide_eq_true (by kernel_rfl)) k1 bel lt1) trodAll_mk0)), rfl, bel.frame _, fun h => by cases h⟩

theorem over : Rows.fnExactAddValsRow.holds Try.pinned (OpenSpec.ofChange Rows.fnExactAddValsSpec) :=
  OpenClaim.holds_of_wide 3 Try.f3 rfl rfl rfl rfl rfl rfl rfl ⟨rfl, rfl, rfl, rfl, rfl⟩ rfl rfl rfl rfl rfl (by kernel_rfl) Try.func3 (by kernel_rfl)
    (of_decide_eq_true (by kernel_rfl)) (by unfold Func.isWrapper; first | (rw [if_pos (by decide +kernel)]; kernel_rfl) | (rw [if_neg (by decide +kernel)]; exact ⟨rfl, rfl⟩))
    (fun os started H enc _ => lifted os started H enc)
end Go.Proofs.Ytofdbnkeddcdjab.ExAdd
namespace Go.Proofs.Ytofdbnkeddcdjab
theorem fnExactAddVals_holds : Rows.FnExactAddValsSaid := ExAdd.over
#print axioms fnExactAddVals_holds
end Go.Proofs.Ytofdbnkeddcdjab
