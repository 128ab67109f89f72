/-
  Proved: for every row of bytes, the law on the order of values answers true (of two unlike drawn values one is less, none is less than itself, and the order is the model's), and the row reads as it did. No condition.
-/
import Derived.Test.YtoppajcjpbdgjaaOrder
import Derived.Test.YtoppajcjpbdgjaaDrawLess
import Derived.Laws.StructEq
import Derived.ProofKit
import Derived.OpenShut
import Derived.ShutString
import Derived.ChangeOld
import Derived.Below
namespace Go.Proofs.Ytoppajcjpbdgjaa.LawOrder
open Go.ChangeShapes Go.WideShapes Go.ChangeAt Go.RowKit
open Go.ChangeMaps (open_string shut_string)
set_option linter.unusedVariables false

set_option maxHeartbeats 400000 in
theorem big_any (a : Option Addr) (len cap : Nat) (w : World) (h : len ≤ 9223372036854775807) :
    Calls Try.prog 7 #[.slice a len cap] w fun e w' => e = .returned (.bool (decide ((1048576 : Int) < (len : Int)))) ∧ w' = w := by
  go_enter Try.func7, Try.ntmps7
  go_wp2
  go_ret
  exact ⟨rfl, rfl⟩

set_option maxRecDepth 100000 in
set_option maxHeartbeats 3200000 in
theorem law (a : Option Addr) (cap : Nat) (code : List UInt8) (w : World) (hr : Rd w a code) (hm : code.length ≤ maxLen) :
    Calls Try.prog 6 #[.slice a code.length cap] w fun e w' => e = .returned (.bool true) ∧ Below w.heap.size w w' := by
  unfold maxLen at hm
  by_cases hb : 1048576 < code.length
  · have hd : decide ((1048576 : Int) < (code.length : Int)) = true := by simp; omega
    go_enter Try.func6, Try.ntmps6
    go_wp2_with (go_at_call 7; refine (big_any _ _ _ _ (by omega)).mono ?_; rintro e w' ⟨rfl, rfl⟩)
    go_ret
    exact ⟨rfl, Below.refl _ _⟩
  · have hd : decide ((1048576 : Int) < (code.length : Int)) = false := by simp; omega
    go_enter Try.func6, Try.ntmps6
    go_wp2_with fail
    refine (big_any _ _ _ _ (by omega)).mono ?_
    rintro e w' ⟨rfl, rfl⟩
    go_wp2_with fail
    refine (drawLessVal_any a cap code w' hr (by omega)).mono ?_
    rintro e w1 ⟨K, N, S, K', N', S', rfl, hS, hS', B1⟩
    clear hd
    go_wp2_with fail
    refine (implLessVal_any K N S K' N' S' _).mono ?_
    rintro e w2 ⟨rfl, hb2⟩
    have HA := hide (box_below (box_old (box_new w1 (.int .i64 K) (.int .i64 N) (.string S) 39) (by simp) (.cells #[.int .i64 K', .int .i64 N', .string S'] 39)) hb2 (by simp; omega))
    have HB := hide (box_below (box_new (w1.alloc (.cells #[.int .i64 K, .int .i64 N, .string S] 39)) (.int .i64 K') (.int .i64 N') (.string S') 39) hb2 (by simp))
    have B2 : Below w'.heap.size w' w2 := ((B1.alloc B1.size _).alloc (by have := B1.size; simp; omega) _).trans (hb2.mono (by have := B1.size; simp; omega))
    have z2 : w1.heap.size + 2 ≤ w2.heap.size := by have := hb2.size; simp at this; omega
    simp only [World.size_alloc] at HA HB
    clear hb2
    obtain ⟨a0, a1, a2, -, -, -⟩ := box_cell HA.out
    obtain ⟨b0, b1, b2, -, -, -⟩ := box_cell HB.out
    go_wp2_with fail
    refine (implLessVal_any K' N' S' K N S _).mono ?_
    rintro e w3 ⟨rfl, hb3⟩
    have HA3 := hide (box_below HA.out hb3 (by omega))
    have HB3 := hide (box_below HB.out hb3 (by omega))
    have B3 : Below w'.heap.size w' w3 := B2.trans (hb3.mono (by have := B1.size; omega))
    have z3 : w'.heap.size ≤ w3.heap.size := B3.size
    clear hb3 a0 a1 a2 b0 b1 b2 HA HB B2
    obtain ⟨a0, a1, a2, -, -, -⟩ := box_cell HA3.out
    obtain ⟨b0, b1, b2, -, -, -⟩ := box_cell HB3.out
    clear HA3 HB3
    have HS := hide (specLessVal_any K N S K' N' S' w3)
    rcases order_cases K N S K' N' S' with ⟨rfl, rfl, rfl, h1⟩ | ⟨hd, ⟨h1, h2⟩ | ⟨h1, h2⟩⟩
    · rw [h1] at HS ⊢
      clear h1
      have k1 : (K == K) = true := by simp
      have k2 : (N == N) = true := by simp
      have k3 : (S.toList == S.toList) = true := by simp
      go_wp2_with fail
      refine HS.out.mono ?_
      rintro e w4 ⟨rfl, hb4⟩
      have B4 : Below w'.heap.size w' w4 := B3.trans (hb4.mono z3)
      clear hb4 HS
      go_wp2
      go_ret
      exact ⟨rfl, B4⟩
    · rw [h1] at HS ⊢
      rw [h2]
      clear h1 h2
      rcases hd with k1 | ⟨k1, k2⟩ | ⟨k1, k2, k3⟩
      all_goals
        go_wp2_with fail
        refine HS.out.mono ?_
        rintro e w4 ⟨rfl, hb4⟩
        have B4 : Below w'.heap.size w' w4 := B3.trans (hb4.mono z3)
        clear hb4 HS
        go_wp2
        go_ret
        exact ⟨rfl, B4⟩
    · rw [h1] at HS ⊢
      rw [h2]
      clear h1 h2
      rcases hd with k1 | ⟨k1, k2⟩ | ⟨k1, k2, k3⟩
      all_goals
        go_wp2_with fail
        refine HS.out.mono ?_
        rintro e w4 ⟨rfl, hb4⟩
        have B4 : Below w'.heap.size w' w4 := B3.trans (hb4.mono z3)
        clear hb4 HS
        go_wp2
        go_ret
        exact ⟨rfl, B4⟩

theorem walk (a0 : Option Addr) (len0 cap0 : Nat) (z0 : List Int) (w : World) (w0 : IsRow .u8 w a0 len0 cap0 z0) :
    Calls Try.prog 6 #[.slice a0 len0 cap0] w fun e w' => e = .returned (.bool true) ∧ Below w.heap.size w w' := by
  obtain ⟨bs, hl, hr⟩ := rd_row w0
  have hm : len0 ≤ maxLen := isRow_len w0
  subst hl
  exact law a0 cap0 bs w hr hm

theorem own : ownKnob Try.prog.godebug = none := by kernel_rfl
theorem laidOut : laidOutB Try.prog = true := by kernel_rfl

set_option maxRecDepth 100000 in
theorem lifted (os : Os) (started : os.Started) (H : Type) (enc : TypeId × Value → H) :
    ReturnsInHanded {} Try.checked os 6 .any (Rows.fnValOrderSpec.pre6 enc Try.prog Try.f6 Rows.fnValOrderRow.domain false) (Rows.fnValOrderSpec.post enc Try.prog Try.f6 false true false false) := by
  refine returnsInHanded_of_change (C := Try.checked) own started (by kernel_rfl) Try.func6
    (ChangeSpec.witness6 (enc := enc) (C := Try.checked) false ⟨#[], #[.slice none 0 0], []⟩ 8 (by kernel_rfl) (by kernel_rfl) (by kernel_rfl) (by kernel_rfl)) ?_
  intro W base args ds gs before hval0 hW hcnd _
  have hval : ∀ (j : Nat) t v, Try.f6.params[j]? = some t → args[j]? = some v → Value.okWide Try.prog W .any base t v := hval0
  have hW' := hW
  obtain ⟨p, q, hA0, hV, rfl, hfz, hnd⟩ := hW
  have hA : DataW.TrodAll enc Try.prog W 0 (fun _ => true) true Try.f6.params.toList args.toList ds p := hA0
  rw [Try.params6] at hA hval
  obtain ⟨v0, vs0, d0, ds0, p0, q0, hargs, rfl, rfl, h0, r0⟩ := trodAll_cons hA
  obtain ⟨rfl, rfl, rfl⟩ := trodAll_nil r0
  obtain rfl : args = #[v0] := by cases args; simp_all
  obtain ⟨rfl, rfl⟩ := trodVars_none hV
  obtain ⟨a0, len0, cap0, rfl⟩ := okWide_slice Try.underlying22 (hval 0 22 v0 rfl rfl)
  have k0 := h0
  have lt0 : ∀ x ∈ p0, x.block < W.heap.size := by obtain ⟨m, hm⟩ := k0; exact DataW.trod_lt m _ _ _ hm
  obtain ⟨z0, w0⟩ : ∃ zs, IsRow .u8 W a0 len0 cap0 zs := by
    obtain ⟨fuel, hf⟩ := h0
    rcases open_ints Try.underlying22 Try.underlying5 (by kernel_rfl) hf with ⟨hcs, _⟩ | ⟨x, l, c, zs, hcs, _, hl, hm, hz, _, hcell, hwz⟩
    · simp [Value.cells] at hcs
      obtain ⟨rfl, rfl, rfl⟩ := hcs
      exact ⟨[], .inl ⟨rfl, rfl, rfl, rfl⟩⟩
    · simp [Value.cells] at hcs
      obtain ⟨rfl, rfl, rfl⟩ := hcs
      exact ⟨zs, .inr ⟨_, rfl, hl, hm, by simpa using hz, hcell, hwz⟩⟩
  clear hA0 hval0
  refine (walk a0 len0 cap0 z0 W w0).mono fun e W' ⟨he, bel⟩ => ?_
  subst he
  exact ⟨_, rfl, _, _, _, [], _, [], hW', trodAll_mk1 (shut_bool Try.underlying4 _), (trodAll_cons_mk (Below.trod laidOut (by kernel_rfl) (of_decide_eq_true (by kernel_rfl)) k0 bel lt0) trodAll_mk0), rfl, bel.frame _, fun h => by cases h⟩

theorem over : Rows.fnValOrderRow.holds Try.pinned (OpenSpec.ofChange Rows.fnValOrderSpec) :=
  OpenClaim.holds_of_wide 6 Try.f6 rfl rfl rfl rfl rfl rfl rfl ⟨rfl, rfl, rfl, rfl, rfl⟩ rfl rfl rfl rfl rfl (by kernel_rfl) Try.func6 (by kernel_rfl)
    (of_decide_eq_true (by kernel_rfl)) (by unfold Func.isWrapper; first | (rw [if_pos (by decide +kernel)]; kernel_rfl) | (rw [if_neg (by decide +kernel)]; exact ⟨rfl, rfl⟩))
    (fun os started H enc _ => lifted os started H enc)
end Go.Proofs.Ytoppajcjpbdgjaa.LawOrder
namespace Go.Proofs.Ytoppajcjpbdgjaa
theorem fnValOrder_holds : Rows.FnValOrderSaid := LawOrder.over
#print axioms fnValOrder_holds
end Go.Proofs.Ytoppajcjpbdgjaa
