/-
  Proved: for every two values, the law on LessVal answers true (the tested function answers as its model), and the values read as they did. No condition.
-/
import Derived.Test.YtoppajcjpbdgjacLess
import Derived.Test.YtoppajcjpbdgjacLawVal
import Derived.Test.YtoppajcjpbdgjacKeep6
import Derived.Deep.RegionHeld3
import Derived.Lib.SmallJoins
import Derived.ProofKit
import Derived.OpenShut
import Derived.ShutString
import Derived.ChangeOld
import Derived.Below
namespace Go.Proofs.Ytoppajcjpbdgjac.ExLess
open Go.ChangeShapes Go.WideShapes Go.ChangeAt Go.RowKit Go.Joins
open Go.ChangeMaps (open_string shut_string)
set_option linter.unusedVariables false

set_option maxRecDepth 100000 in
set_option maxHeartbeats 3200000 in
theorem walk (K N : Int) (S : ByteArray) (K' N' : Int) (S' : ByteArray) (w : World) (hs : S.size ≤ maxLen) (hs' : S'.size ≤ maxLen) :
    Calls Try.prog 4 #[.agg #[.int .i64 K, .int .i64 N, .string S], .agg #[.int .i64 K', .int .i64 N', .string S']] w fun e w' => e = .returned (.bool true) ∧ Below w.heap.size w w' := by
  go_enter Try.func4, Try.ntmps4
  go_wp2_with fail
  refine (szVal_any K N S 1048576 _ hs (by omega) (by omega)).mono ?_
  rintro e w1 ⟨rfl, hb1⟩
  have HA := hide (box_below (box_old (box_new w (.int .i64 K) (.int .i64 N) (.string S) 23) (by simp) (.cells #[.int .i64 K', .int .i64 N', .string S'] 23)) hb1 (by simp; omega))
  have HB := hide (box_below (box_new (w.alloc (.cells #[.int .i64 K, .int .i64 N, .string S] 23)) (.int .i64 K') (.int .i64 N') (.string S') 23) hb1 (by simp))
  have hB1 : Below w.heap.size w w1 := (((Below.refl w.heap.size w).alloc (Nat.le_refl _) _).alloc (by simp) _).trans (hb1.mono (by simp; omega))
  have hz1 : w.heap.size + 2 ≤ w1.heap.size := by have := hb1.size; simp at this; omega
  simp only [World.size_alloc] at HA HB
  clear hb1
  by_cases h1 : (1048576 : Int) - (S.size : Int) < 0
  · rw [if_pos h1]
    go_wp2
    go_ret
    exact ⟨rfl, hB1⟩
  · rw [if_neg h1]
    obtain ⟨b0, b1, b2, -, -, -⟩ := box_cell HB.out
    go_wp2_with fail
    refine (szVal_any K' N' S' _ _ hs' (by omega) (by omega)).mono ?_
    rintro e w2 ⟨rfl, hb2⟩
    have HA2 := hide (box_below HA.out hb2 (by omega))
    have HB2 := hide (box_below HB.out hb2 (by omega))
    have hB2 : Below w.heap.size w w2 := hB1.trans (hb2.mono (by omega))
    clear hb2 HA HB hB1 hz1 b0 b1 b2
    by_cases h2 : (1048576 : Int) - (S.size : Int) - (S'.size : Int) < 0
    · rw [if_pos h2]
      go_wp2
      go_ret
      exact ⟨rfl, hB2⟩
    · rw [if_neg h2]
      obtain ⟨a0, a1, a2, -, -, -⟩ := box_cell HA2.out
      obtain ⟨b0, b1, b2, -, -, -⟩ := box_cell HB2.out
      clear HA2 HB2
      have hz := hB2.size
      go_wp2_with fail
      go_region_held3 (fun w' => w'.cell? ⟨w.heap.size, 0, none⟩ = some (.int .i64 K) ∧ w'.cell? ⟨w.heap.size, 1, none⟩ = some (.int .i64 N) ∧ w'.cell? ⟨w.heap.size, 2, none⟩ = some (.string S) ∧ w'.cell? ⟨w.heap.size + 1, 0, none⟩ = some (.int .i64 K') ∧ w'.cell? ⟨w.heap.size + 1, 1, none⟩ = some (.int .i64 N') ∧ w'.cell? ⟨w.heap.size + 1, 2, none⟩ = some (.string S') ∧ Below w.heap.size w w' ∧ w.heap.size ≤ w'.heap.size) (first | exact ⟨a0, a1, a2, b0, b1, b2, hB2.drew, hz⟩ | exact keep7 (by assumption) (by assumption))
        (first | (go_at_call 9; refine (toVal_any _ _ _ _).mono ?_; rintro e w' ⟨rfl, hb⟩) | (go_at_call 11; refine (specLessVal_any _ _ _ _ _ _ _).mono ?_; rintro e w' ⟨rfl, hb⟩))
      obtain ⟨c0, c1, c2, d0, d1, d2, hB3, hz3⟩ : w'.cell? ⟨w.heap.size, 0, none⟩ = some (.int .i64 K) ∧ w'.cell? ⟨w.heap.size, 1, none⟩ = some (.int .i64 N) ∧ w'.cell? ⟨w.heap.size, 2, none⟩ = some (.string S) ∧ w'.cell? ⟨w.heap.size + 1, 0, none⟩ = some (.int .i64 K') ∧ w'.cell? ⟨w.heap.size + 1, 1, none⟩ = some (.int .i64 N') ∧ w'.cell? ⟨w.heap.size + 1, 2, none⟩ = some (.string S') ∧ Below w.heap.size w w' ∧ w.heap.size ≤ w'.heap.size := by assumption
      clear a0 a1 a2 b0 b1 b2 hb hz hB2
      go_wp2_with fail
      go_region_held3 (fun w' => w'.cell? ⟨w.heap.size, 0, none⟩ = some (.int .i64 K) ∧ w'.cell? ⟨w.heap.size, 1, none⟩ = some (.int .i64 N) ∧ w'.cell? ⟨w.heap.size, 2, none⟩ = some (.string S) ∧ w'.cell? ⟨w.heap.size + 1, 0, none⟩ = some (.int .i64 K') ∧ w'.cell? ⟨w.heap.size + 1, 1, none⟩ = some (.int .i64 N') ∧ w'.cell? ⟨w.heap.size + 1, 2, none⟩ = some (.string S') ∧ Below w.heap.size w w' ∧ w.heap.size ≤ w'.heap.size) (first | exact ⟨c0, c1, c2, d0, d1, d2, hB3.drew, hz3⟩ | exact keep7 (by assumption) (by assumption))
        (first | (go_at_call 9; refine (toVal_any _ _ _ _).mono ?_; rintro e w6 ⟨rfl, hb⟩) | (go_at_call 12; refine (implLessVal_any _ _ _ _ _ _ _).mono ?_; rintro e w6 ⟨rfl, hb⟩))
      obtain ⟨-, -, -, -, -, -, hB4, -⟩ : w6.cell? ⟨w.heap.size, 0, none⟩ = some (.int .i64 K) ∧ w6.cell? ⟨w.heap.size, 1, none⟩ = some (.int .i64 N) ∧ w6.cell? ⟨w.heap.size, 2, none⟩ = some (.string S) ∧ w6.cell? ⟨w.heap.size + 1, 0, none⟩ = some (.int .i64 K') ∧ w6.cell? ⟨w.heap.size + 1, 1, none⟩ = some (.int .i64 N') ∧ w6.cell? ⟨w.heap.size + 1, 2, none⟩ = some (.string S') ∧ Below w.heap.size w w6 ∧ w.heap.size ≤ w6.heap.size := by assumption
      clear c0 c1 c2 d0 d1 d2 hb hz3 hB3
      generalize lessB K N S K' N' S' = b
      have hbb : (b != b) = false := by simp
      go_wp2
      go_ret
      exact ⟨rfl, hB4⟩

theorem own : ownKnob Try.prog.godebug = none := by kernel_rfl
theorem laidOut : laidOutB Try.prog = true := by kernel_rfl

set_option maxRecDepth 100000 in
theorem lifted (os : Os) (started : os.Started) (H : Type) (enc : TypeId × Value → H) :
    ReturnsInHanded {} Try.checked os 4 .any (Rows.fnExactLessValSpec.pre6 enc Try.prog Try.f4 Rows.fnExactLessValRow.domain false) (Rows.fnExactLessValSpec.post enc Try.prog Try.f4 false true false false) := by
  refine returnsInHanded_of_change (C := Try.checked) own started (by kernel_rfl) Try.func4
    (ChangeSpec.witness6 (enc := enc) (C := Try.checked) false ⟨#[], #[.agg #[.int .i64 0, .int .i64 0, .string ByteArray.empty], .agg #[.int .i64 0, .int .i64 0, .string ByteArray.empty]], []⟩ 8 (by kernel_rfl) (by kernel_rfl) (by kernel_rfl) (by kernel_rfl)) ?_
  intro W base args ds gs before hval0 hW hcnd _
  have hval : ∀ (j : Nat) t v, Try.f4.params[j]? = some t → args[j]? = some v → Value.okWide Try.prog W .any base t v := hval0
  have hW' := hW
  obtain ⟨p, q, hA0, hV, rfl, hfz, hnd⟩ := hW
  have hA : DataW.TrodAll enc Try.prog W 0 (fun _ => true) true Try.f4.params.toList args.toList ds p := hA0
  rw [Try.params4] at hA hval
  obtain ⟨v0, vs0, d0, ds0, p0, q0, hargs, rfl, rfl, h0, r0⟩ := trodAll_cons hA
  obtain ⟨v1, vs1, d1, ds1, p1, q1, rfl, rfl, rfl, h1, r1⟩ := trodAll_cons r0
  obtain ⟨rfl, rfl, rfl⟩ := trodAll_nil r1
  obtain rfl : args = #[v0, v1] := by cases args; simp_all
  obtain ⟨rfl, rfl⟩ := trodVars_none hV
  have k0 := h0
  have lt0 : ∀ x ∈ p0, x.block < W.heap.size := by obtain ⟨m, hm⟩ := k0; exact DataW.trod_lt m _ _ _ hm
  obtain ⟨c0a, c0b, c0c, y0a, y0b, y0c, m0, rfl, _, _, hy0a, hy0b, hy0c⟩ := open_agg3 Try.underlying23 (by kernel_rfl) (by kernel_rfl) (hval 0 23 v0 rfl rfl) h0
  obtain ⟨K0, eK0, _, _⟩ := DataW.trod_int Try.underlying3 hy0a
  obtain ⟨N0, eN0, _, _⟩ := DataW.trod_int Try.underlying3 hy0b
  obtain ⟨S0, eS0, _, w0⟩ := DataW.trod_string Try.underlying9 hy0c
  simp only [List.cons.injEq, and_true] at eK0 eN0 eS0
  subst eK0 eN0 eS0
  have k1 := h1
  have lt1 : ∀ x ∈ p1, x.block < W.heap.size := by obtain ⟨m, hm⟩ := k1; exact DataW.trod_lt m _ _ _ hm
  obtain ⟨c1a, c1b, c1c, y1a, y1b, y1c, m1, rfl, _, _, hy1a, hy1b, hy1c⟩ := open_agg3 Try.underlying23 (by kernel_rfl) (by kernel_rfl) (hval 1 23 v1 rfl rfl) h1
  obtain ⟨K1, eK1, _, _⟩ := DataW.trod_int Try.underlying3 hy1a
  obtain ⟨N1, eN1, _, _⟩ := DataW.trod_int Try.underlying3 hy1b
  obtain ⟨S1, eS1, _, w1⟩ := DataW.trod_string Try.underlying9 hy1c
  simp only [List.cons.injEq, and_true] at eK1 eN1 eS1
  subst eK1 eN1 eS1
  clear hA0 hval0
  refine (walk K0 N0 S0 K1 N1 S1 W w0 w1).mono fun e W' ⟨he, bel⟩ => ?_
  subst he
  exact ⟨_, rfl, _, _, _, [], _, [], hW', trodAll_mk1 (shut_bool Try.underlying4 _), (trodAll_cons_mk (Below.trod laidOut (by kernel_rfl) (of_decide_eq_true (by kernel_rfl)) k0 bel lt0) (trodAll_cons_mk (Below.trod laidOut (by kernel_rfl) (of_decide_eq_true (by kernel_rfl)) k1 bel lt1) trodAll_mk0)), rfl, bel.frame _, fun h => by cases h⟩

theorem over : Rows.fnExactLessValRow.holds Try.pinned (OpenSpec.ofChange Rows.fnExactLessValSpec) :=
  OpenClaim.holds_of_wide 4 Try.f4 rfl rfl rfl rfl rfl rfl rfl ⟨rfl, rfl, rfl, rfl, rfl⟩ rfl rfl rfl rfl rfl (by kernel_rfl) Try.func4 (by kernel_rfl)
    (of_decide_eq_true (by kernel_rfl)) (by unfold Func.isWrapper; first | (rw [if_pos (by decide +kernel)]; kernel_rfl) | (rw [if_neg (by decide +kernel)]; exact ⟨rfl, rfl⟩))
    (fun os started H enc _ => lifted os started H enc)
end Go.Proofs.Ytoppajcjpbdgjac.ExLess
namespace Go.Proofs.Ytoppajcjpbdgjac
theorem fnExactLessVal_holds : Rows.FnExactLessValSaid := ExLess.over
#print axioms fnExactLessVal_holds
end Go.Proofs.Ytoppajcjpbdgjac
