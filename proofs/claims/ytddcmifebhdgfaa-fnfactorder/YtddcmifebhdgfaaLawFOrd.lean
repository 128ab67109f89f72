/-
  Proved: for every row of bytes, the law on the order of facts answers true (of two unlike drawn facts one is less, the order is the model's; of three, what is less than what is less is less), and the row reads as it did. No condition.
-/
import Derived.Test.YtddcmifebhdgfaaDrawT
import Derived.Test.YtddcmifebhdgfaaFactOrd
import Derived.Test.YtddcmifebhdgfaaFactLessS
import Derived.Test.YtddcmifebhdgfaaFactSameI
import Derived.ProofKit
import Derived.OpenShut
import Derived.ShutString
import Derived.ChangeOld
import Derived.Below
namespace Go.Proofs.Ytddcmifebhdgfaa.LawFOrd
open Go.ChangeShapes Go.WideShapes Go.ChangeAt Go.RowKit
open Go.ChangeMaps (open_string shut_string)
set_option linter.unusedVariables false

set_option maxHeartbeats 400000 in
theorem big_any (a : Option Addr) (len cap : Nat) (w : World) (h : len ≤ 9223372036854775807) :
    Calls Try.prog 6 #[.slice a len cap] w fun e w' => e = .returned (.bool (decide ((1048576 : Int) < (len : Int)))) ∧ w' = w := by
  go_enter Try.func6, Try.ntmps6
  go_wp2
  go_ret
  exact ⟨rfl, rfl⟩

/-- three facts in memory, and all that was there at the head -/
structure Tri (w0 : World) (X Y Z : Nat) (k1 k2 k3 : ByteArray) (a1 a2 a3 : Option Addr) (n1 n2 n3 : Nat) (L1 L2 L3 : List V3) (W : World) : Prop where
  x : W.heap[X]? = some (.cells #[.string k1, .slice a1 L1.length n1] 26 (0, 0))
  y : W.heap[Y]? = some (.cells #[.string k2, .slice a2 L2.length n2] 26 (0, 0))
  z : W.heap[Z]? = some (.cells #[.string k3, .slice a3 L3.length n3] 26 (0, 0))
  r1 : RdV W a1 L1
  r2 : RdV W a2 L2
  r3 : RdV W a3 L3
  bel : Below w0.heap.size w0 W
theorem Tri.keep {w0 W W' : World} {X Y Z : Nat} {k1 k2 k3 : ByteArray} {a1 a2 a3 : Option Addr} {n1 n2 n3 : Nat} {L1 L2 L3 : List V3} (h : Tri w0 X Y Z k1 k2 k3 a1 a2 a3 n1 n2 n3 L1 L2 L3 W) (hb : Below W.heap.size W W') : Tri w0 X Y Z k1 k2 k3 a1 a2 a3 n1 n2 n3 L1 L2 L3 W' :=
  ⟨box_step h.x hb, box_step h.y hb, box_step h.z hb, h.r1.below hb, h.r2.below hb, h.r3.below hb, h.bel.trans (hb.mono h.bel.size)⟩

set_option maxRecDepth 100000 in
set_option maxHeartbeats 3200000 in
theorem law (a : Option Addr) (cap : Nat) (code : List UInt8) (w : World) (hr : Rd w a code) (hm : code.length ≤ maxLen) :
    Calls Try.prog 3 #[.slice a code.length cap] w fun e w' => e = .returned (.bool true) ∧ Below w.heap.size w w' := by
  unfold maxLen at hm
  by_cases hb : 1048576 < code.length
  · have hd : decide ((1048576 : Int) < (code.length : Int)) = true := by simp; omega
    go_enter Try.func3, Try.ntmps3
    go_wp2_with (go_at_call 6; refine (big_any _ _ _ _ (by omega)).mono ?_; rintro e w' ⟨rfl, rfl⟩)
    go_ret
    exact ⟨rfl, Below.refl _ _⟩
  · have hd : decide ((1048576 : Int) < (code.length : Int)) = false := by simp; omega
    go_enter Try.func3, Try.ntmps3
    go_wp2_with fail
    refine (big_any _ _ _ _ (by omega)).mono ?_
    rintro e w' ⟨rfl, rfl⟩
    go_wp2_with fail
    refine (drawThree_any a cap code w' hr (by omega)).mono ?_
    rintro e w1 ⟨k1, k2, k3, v1, v2, v3, L1, L2, L3, rfl, ⟨l1, l2, l3⟩, o1, o2, o3, B1⟩
    clear hd
    obtain ⟨a1, n1, e1, y1, r1⟩ := rowV o1
    obtain ⟨a2, n2, e2, y2, r2⟩ := rowV o2
    obtain ⟨a3, n3, e3, y3, r3⟩ := rowV o3
    subst e1 e2 e3
    clear o1 o2 o3
    have b1 := (Below.refl w1.heap.size w1).alloc (Nat.le_refl _) (.cells #[.string k1, .slice a1 L1.length n1] 26)
    have b2 := b1.alloc b1.size (.cells #[.string k2, .slice a2 L2.length n2] 26)
    have b3 := b2.alloc b2.size (.cells #[.string k3, .slice a3 L3.length n3] 26)
    have p1 := box_old (box_old (box2_new w1 (.string k1) (.slice a1 L1.length n1) 26) (by simp) (.cells #[.string k2, .slice a2 L2.length n2] 26)) (by simp; omega) (.cells #[.string k3, .slice a3 L3.length n3] 26)
    have p2 := box_old (box2_new (w1.alloc (.cells #[.string k1, .slice a1 L1.length n1] 26)) (.string k2) (.slice a2 L2.length n2) 26) (by simp) (.cells #[.string k3, .slice a3 L3.length n3] 26)
    have p3 := box2_new ((w1.alloc (.cells #[.string k1, .slice a1 L1.length n1] 26)).alloc (.cells #[.string k2, .slice a2 L2.length n2] 26)) (.string k3) (.slice a3 L3.length n3) 26
    simp only [World.size_alloc] at p2 p3
    have T2 : Tri w' w1.heap.size (w1.heap.size + 1) (w1.heap.size + 1 + 1) k1 k2 k3 a1 a2 a3 n1 n2 n3 L1 L2 L3 (((w1.alloc (.cells #[.string k1, .slice a1 L1.length n1] 26)).alloc (.cells #[.string k2, .slice a2 L2.length n2] 26)).alloc (.cells #[.string k3, .slice a3 L3.length n3] 26)) := ⟨p1, p2, p3, r1.below b3, r2.below b3, r3.below b3, B1.trans (b3.mono B1.size)⟩
    clear p1 p2 p3 b1 b2 b3 r1 r2 r3 B1
    obtain ⟨x0, x1, -, -⟩ := box2_cell T2.x
    obtain ⟨t0, t1, -, -⟩ := box2_cell T2.y
    go_wp2_with fail
    generalize ((w1.alloc (.cells #[.string k1, .slice a1 L1.length n1] 26)).alloc (.cells #[.string k2, .slice a2 L2.length n2] 26)).alloc (.cells #[.string k3, .slice a3 L3.length n3] 26) = w2 at T2 x0 x1 t0 t1 ⊢
    refine (implLessFact_any k1 k2 a1 a2 n1 n2 L1 L2 _ T2.r1 T2.r2 (by omega) (by omega)).mono ?_
    rintro e w3 ⟨rfl, hb3⟩
    have T3 := T2.keep hb3
    clear hb3 T2 x0 x1 t0 t1
    obtain ⟨x0, x1, -, -⟩ := box2_cell T3.x
    obtain ⟨t0, t1, -, -⟩ := box2_cell T3.y
    go_wp2_with fail
    refine (implLessFact_any k2 k1 a2 a1 n2 n1 L2 L1 _ T3.r2 T3.r1 (by omega) (by omega)).mono ?_
    rintro e w4 ⟨rfl, hb4⟩
    have T4 := T3.keep hb4
    clear hb4 T3 x0 x1 t0 t1
    obtain ⟨x0, x1, -, -⟩ := box2_cell T4.x
    obtain ⟨t0, t1, -, -⟩ := box2_cell T4.y
    have HS := hide (implSameFact_any k1 k2 a1 a2 n1 n2 L1 L2 w4 T4.r1 T4.r2 (by omega) (by omega) y1 y2)
    have HL := hide (fun W h1 h2 => specLessFact_any k1 k2 a1 a2 n1 n2 L1 L2 W h1 h2 (by omega) (by omega))
    have HX := hide (lessF_tri k1 k2 L1 L2)
    have HT := hide (fun h1 h2 => lessF_trans (k1 := k1) (k2 := k2) (k3 := k3) (L := L1) (M := L2) (N := L3) h1 h2)
    rcases HX.out with ⟨h1, h2, h3⟩ | ⟨h1, ⟨h2, h3⟩ | ⟨h2, h3⟩⟩
    all_goals
      rw [h1] at HS
      rw [h2] at HL HT
      rw [h2, h3]
      clear h1 h2 h3 HX
      go_wp2_with fail
      refine HS.out.mono ?_
      rintro e w5 ⟨rfl, hb5⟩
      have T5 := T4.keep hb5
      clear hb5 T4 x0 x1 t0 t1 HS
      obtain ⟨x0, x1, -, -⟩ := box2_cell T5.x
      obtain ⟨t0, t1, -, -⟩ := box2_cell T5.y
      go_wp2_with fail
      refine (HL.out _ T5.r1 T5.r2).mono ?_
      rintro e w6 ⟨rfl, hb6⟩
      have T6 := T5.keep hb6
      clear hb6 T5 x0 x1 t0 t1 HL
    · go_wp2
      go_ret
      exact ⟨rfl, T6.bel⟩
    · obtain ⟨x0, x1, -, -⟩ := box2_cell T6.x
      obtain ⟨t0, t1, -, -⟩ := box2_cell T6.y
      obtain ⟨u0, u1, -, -⟩ := box2_cell T6.z
      go_wp2_with fail
      refine (implLessFact_any k2 k3 a2 a3 n2 n3 L2 L3 _ T6.r2 T6.r3 (by omega) (by omega)).mono ?_
      rintro e w7 ⟨rfl, hb7⟩
      have T7 := T6.keep hb7
      clear hb7 T6 x0 x1 t0 t1 u0 u1
      cases h4 : lessF k2 L2 k3 L3
      · clear h4
        go_wp2
        go_ret
        exact ⟨rfl, T7.bel⟩
      · have H5 := hide (HT.out (by simp) h4)
        clear h4
        obtain ⟨x0, x1, -, -⟩ := box2_cell T7.x
        obtain ⟨u0, u1, -, -⟩ := box2_cell T7.z
        go_wp2_with fail
        refine (implLessFact_any k1 k3 a1 a3 n1 n3 L1 L3 _ T7.r1 T7.r3 (by omega) (by omega)).mono ?_
        rintro e w8 ⟨rfl, hb8⟩
        have T8 := T7.keep hb8
        rw [H5.out]
        clear hb8 T7 x0 x1 u0 u1
        go_wp2
        go_ret
        exact ⟨rfl, T8.bel⟩
    · go_wp2
      go_ret
      exact ⟨rfl, T6.bel⟩

theorem walk (a0 : Option Addr) (len0 cap0 : Nat) (z0 : List Int) (w : World) (w0 : IsRow .u8 w a0 len0 cap0 z0) :
    Calls Try.prog 3 #[.slice a0 len0 cap0] w fun e w' => e = .returned (.bool true) ∧ Below w.heap.size w w' := by
  obtain ⟨bs, hl, hr⟩ := rd_row w0
  have hm : len0 ≤ maxLen := isRow_len w0
  subst hl
  exact law a0 cap0 bs w hr hm

theorem own : ownKnob Try.prog.godebug = none := by kernel_rfl
theorem laidOut : laidOutB Try.prog = true := by kernel_rfl

set_option maxRecDepth 100000 in
theorem lifted (os : Os) (started : os.Started) (H : Type) (enc : TypeId × Value → H) :
    ReturnsInHanded {} Try.checked os 3 .any (Rows.fnFactOrderSpec.pre6 enc Try.prog Try.f3 Rows.fnFactOrderRow.domain false) (Rows.fnFactOrderSpec.post enc Try.prog Try.f3 false true false false) := by
  refine returnsInHanded_of_change (C := Try.checked) own started (by kernel_rfl) Try.func3
    (ChangeSpec.witness6 (enc := enc) (C := Try.checked) false ⟨#[], #[.slice none 0 0], []⟩ 8 (by kernel_rfl) (by kernel_rfl) (by kernel_rfl) (by kernel_rfl)) ?_
  intro W base args ds gs before hval0 hW hcnd _
  have hval : ∀ (j : Nat) t v, Try.f3.params[j]? = some t → args[j]? = some v → Value.okWide Try.prog W .any base t v := hval0
  have hW' := hW
  obtain ⟨p, q, hA0, hV, rfl, hfz, hnd⟩ := hW
  have hA : DataW.TrodAll enc Try.prog W 0 (fun _ => true) true Try.f3.params.toList args.toList ds p := hA0
  rw [Try.params3] at hA hval
  obtain ⟨v0, vs0, d0, ds0, p0, q0, hargs, rfl, rfl, h0, r0⟩ := trodAll_cons hA
  obtain ⟨rfl, rfl, rfl⟩ := trodAll_nil r0
  obtain rfl : args = #[v0] := by cases args; simp_all
  obtain ⟨rfl, rfl⟩ := trodVars_none hV
  obtain ⟨a0, len0, cap0, rfl⟩ := okWide_slice Try.underlying22 (hval 0 22 v0 rfl rfl)
  have k0 := h0
  have lt0 : ∀ x ∈ p0, x.block < W.heap.size := by obtain ⟨m, hm⟩ := k0; exact DataW.trod_lt m _ _ _ hm
  obtain ⟨z0, w0⟩ : ∃ zs, IsRow .u8 W a0 len0 cap0 zs := by
    obtain ⟨fuel, hf⟩ := h0
    rcases open_ints Try.underlying22 Try.underlying5 (by kernel_rfl) hf with ⟨hcs, _⟩ | ⟨x, l, c, zs, hcs, _, hl, hm, hz, _, hcell, hwz⟩
    · simp [Value.cells] at hcs
      obtain ⟨rfl, rfl, rfl⟩ := hcs
      exact ⟨[], .inl ⟨rfl, rfl, rfl, rfl⟩⟩
    · simp [Value.cells] at hcs
      obtain ⟨rfl, rfl, rfl⟩ := hcs
      exact ⟨zs, .inr ⟨_, rfl, hl, hm, by simpa using hz, hcell, hwz⟩⟩
  clear hA0 hval0
  refine (walk a0 len0 cap0 z0 W w0).mono fun e W' ⟨he, bel⟩ => ?_
  subst he
  exact ⟨_, rfl, _, _, _, [], _, [], hW', trodAll_mk1 (shut_bool Try.underlying4 _), (trodAll_cons_mk (Below.trod laidOut (by kernel_rfl) (of_decide_eq_true (by kernel_rfl)) k0 bel lt0) trodAll_mk0), rfl, bel.frame _, fun h => by cases h⟩

theorem over : Rows.fnFactOrderRow.holds Try.pinned (OpenSpec.ofChange Rows.fnFactOrderSpec) :=
  OpenClaim.holds_of_wide 3 Try.f3 rfl rfl rfl rfl rfl rfl rfl ⟨rfl, rfl, rfl, rfl, rfl⟩ rfl rfl rfl rfl rfl (by kernel_rfl) Try.func3 (by kernel_rfl)
    (of_decide_eq_true (by kernel_rfl)) (by unfold Func.isWrapper; first | (rw [if_pos (by decide +kernel)]; kernel_rfl) | (rw [if_neg (by decide +kernel)]; exact ⟨rfl, rfl⟩))
    (fun os started H enc _ => lifted os started H enc)
end Go.Proofs.Ytddcmifebhdgfaa.LawFOrd
namespace Go.Proofs.Ytddcmifebhdgfaa
theorem fnFactOrder_holds : Rows.FnFactOrderSaid := LawFOrd.over
#print axioms fnFactOrder_holds
end Go.Proofs.Ytddcmifebhdgfaa
