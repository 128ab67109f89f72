/-
  Proved: for every list of conditions and every list of binds, the law on HoldAll answers true (the tested function answers as its model and writes into no argument), and all that was there reads as it did. No condition.
-/
import Derived.Test.YtlaoiagpoomldaaHoldAll
import Derived.Test.YtlaoiagpoomldaaLawCondS
import Derived.Test.YtlaoiagpoomldaaLawBind
import Derived.Test.YtlaoiagpoomldaaRows
import Derived.ProofKit
import Derived.OpenShut
import Derived.ShutString
import Derived.ChangeOld
import Derived.Below
import Derived.Lib.SmallJoins
import Derived.Deep.RegionHeld3
namespace Go.Proofs.Ytlaoiagpoomldaa.ExHoldAll
open Go.ChangeShapes Go.WideShapes Go.ChangeAt Go.RowKit Go.Joins
open Go.ChangeMaps (open_string shut_string)
set_option linter.unusedVariables false

set_option maxRecDepth 100000 in
set_option maxHeartbeats 3200000 in
theorem walk (a0 : Option Addr) (len0 cap0 : Nat) (L : List C11) (a : Option Addr) (len cap : Nat) (M : List B4) (w : World) (hu : IsConds w a0 len0 cap0 L) (hv : IsBinds w a len cap M) :
    Calls Try.prog 6 #[.slice a0 len0 cap0, .slice a len cap] w fun e w' => e = .returned (.bool true) ∧ Below w.heap.size w w' := by
  obtain ⟨rfl, hm0, hr0, hs0⟩ := hu
  obtain ⟨rfl, hm, hr, hs⟩ := hv
  have HS0 := hide hs0
  have HS := hide hs
  clear hs hs0
  go_enter Try.func6, Try.ntmps6
  go_wp2_with fail
  refine (szCondS_any a0 cap0 L 1048576 _ hr0 HS0.out hm0 (by omega) (by omega)).mono ?_
  rintro e w1 ⟨⟨r, rfl, hr1⟩, hB1⟩
  rcases hr1 with rfl | ⟨h0, h1, hsm0⟩
  · go_wp2
    go_ret
    exact ⟨rfl, hB1⟩
  · have HSm0 := hide hsm0
    have hn0 : L.length ≤ 1048576 := by omega
    have h2 : r ≤ 1048576 := by omega
    clear h1 hsm0
    go_wp2_with fail
    refine (szBindS_any a cap M r _ (hr.below hB1) HS.out hm h0 h2).mono ?_
    rintro e w2 ⟨⟨r2, rfl, hr2⟩, hb2⟩
    have hB2 : Below w.heap.size w w2 := hB1.trans (hb2.mono hB1.size)
    clear hb2 hB1
    rcases hr2 with rfl | ⟨h3, h4, hsm⟩
    · go_wp2
      go_ret
      exact ⟨rfl, hB2⟩
    · have hn : M.length ≤ 1048576 := by omega
      have HSm := hide hsm
      clear h4 hsm h2
      go_wp2_with fail
      refine (toCondS_ex a0 cap0 L _ (hr0.below hB2) hn0).mono ?_
      rintro e w3 ⟨g3, rfl, hg3, o3, hb3⟩
      have hB3 : Below w.heap.size w w3 := hB2.trans (hb3.mono hB2.size)
      have s3 := rdOwnCond o3
      clear hb3 hB2 o3
      go_wp2_with fail
      refine (toBindS_ex a cap M _ (hr.below hB3) hn).mono ?_
      rintro e w4 ⟨g4, rfl, hg4, o4, hb4⟩
      have hB4 : Below w.heap.size w w4 := hB3.trans (hb4.mono hB3.size)
      have r4 := rdOwnBind o4
      have s4 := s3.below hb4
      clear hb4 hB3 o4 s3
      go_wp2_with fail
      refine (specHoldAll_any _ _ L _ _ M _ s4 r4 (by omega) (by omega)).mono ?_
      rintro e w5 ⟨rfl, hb5⟩
      have hB5 : Below w.heap.size w w5 := hB4.trans (hb5.mono hB4.size)
      clear hb5 hB4 r4 s4
      obtain ⟨bb, hbb0⟩ : ∃ bb, bb = L.all (C11.holds M) := ⟨_, rfl⟩
      rw [← hbb0]
      have HBB := hide hbb0
      clear hbb0
      go_wp2_with fail
      refine (toCondS_ex a0 cap0 L _ (hr0.below hB5) hn0).mono ?_
      rintro e w6 ⟨g6, rfl, hg6, o6, hb6⟩
      have hB6 : Below w.heap.size w w6 := hB5.trans (hb6.mono hB5.size)
      have s6 := rdOwnCond o6
      clear hb6 hB5 o6
      go_wp2_with fail
      refine (toBindS_ex a cap M _ (hr.below hB6) hn).mono ?_
      rintro e w7 ⟨g7, rfl, hg7, o7, hb7⟩
      have hB7 : Below w.heap.size w w7 := hB6.trans (hb7.mono hB6.size)
      have r7 := rdOwnBind o7
      have s7 := s6.below hb7
      clear hb7 hB6 o7 s6
      go_wp2_with fail
      refine (implHoldAll_any _ _ L _ _ M _ s7 HSm0.out r7 HSm.out (by omega) (by omega)).mono ?_
      rintro e w8 ⟨rfl, hb8⟩
      have hB8 : Below w.heap.size w w8 := hB7.trans (hb8.mono hB7.size)
      have r8 := r7.below hb8
      have s8 := s7.below hb8
      clear hb8 hB7 r7 s7
      rw [← HBB.out]
      have hbb : (bb != bb) = false := by simp
      go_wp2_with fail
      refine (toCondS_ex a0 cap0 L _ (hr0.below hB8) hn0).mono ?_
      rintro e w9 ⟨g9, rfl, hg9, o9, hb9⟩
      have hB9 : Below w.heap.size w w9 := hB8.trans (hb9.mono hB8.size)
      have r9 := r8.below hb9
      have s9 := s8.below hb9
      clear hb9 hB8 r8 s8
      go_wp2_with fail
      refine (eqCondS_same _ _ _ _ L _ s9 (rdOwnCond o9) (by omega)).mono ?_
      rintro e w10 ⟨rfl, hb10⟩
      have hB10 : Below w.heap.size w w10 := hB9.trans (hb10.mono hB9.size)
      have r10 := r9.below hb10
      clear hb10 hB9 r9 s9 o9
      go_wp2_with fail
      refine (toBindS_ex a cap M _ (hr.below hB10) hn).mono ?_
      rintro e w11 ⟨g11, rfl, hg11, o11, hb11⟩
      have hB11 : Below w.heap.size w w11 := hB10.trans (hb11.mono hB10.size)
      have r11 := r10.below hb11
      clear hb11 hB10 r10
      go_wp2_with fail
      refine (eqBindS_same _ _ _ _ M _ r11 (rdOwnBind o11) (by omega)).mono ?_
      rintro e w12 ⟨rfl, hb12⟩
      have hB12 : Below w.heap.size w w12 := hB11.trans (hb12.mono hB11.size)
      go_wp2
      go_ret
      exact ⟨rfl, hB12⟩

theorem own : ownKnob Try.prog.godebug = none := by kernel_rfl
theorem laidOut : laidOutB Try.prog = true := by kernel_rfl

set_option maxRecDepth 100000 in
theorem lifted (os : Os) (started : os.Started) (H : Type) (enc : TypeId × Value → H) :
    ReturnsInHanded {} Try.checked os 6 .any (Rows.fnExactHoldAllSpec.pre6 enc Try.prog Try.f6 Rows.fnExactHoldAllRow.domain false) (Rows.fnExactHoldAllSpec.post enc Try.prog Try.f6 false true false false) := by
  refine returnsInHanded_of_change (C := Try.checked) own started (by kernel_rfl) Try.func6
    (ChangeSpec.witness6 (enc := enc) (C := Try.checked) false ⟨#[], #[.slice none 0 0, .slice none 0 0], []⟩ 8 (by kernel_rfl) (by kernel_rfl) (by kernel_rfl) (by kernel_rfl)) ?_
  intro W base args ds gs before hval0 hW hcnd _
  have hval : ∀ (j : Nat) t v, Try.f6.params[j]? = some t → args[j]? = some v → Value.okWide Try.prog W .any base t v := hval0
  have hW' := hW
  obtain ⟨p, q, hA0, hV, rfl, hfz, hnd⟩ := hW
  have hA : DataW.TrodAll enc Try.prog W 0 (fun _ => true) true Try.f6.params.toList args.toList ds p := hA0
  rw [Try.params6] at hA hval
  obtain ⟨v0, vs0, d0, ds0, p0, q0, hargs, rfl, rfl, h0, r0⟩ := trodAll_cons hA
  obtain ⟨v1, vs1, d1, ds1, p1, q1, rfl, rfl, rfl, h1, r1⟩ := trodAll_cons r0
  obtain ⟨rfl, rfl, rfl⟩ := trodAll_nil r1
  obtain rfl : args = #[v0, v1] := by cases args; simp_all
  obtain ⟨rfl, rfl⟩ := trodVars_none hV
  obtain ⟨a0, len0, cap0, rfl⟩ := okWide_slice Try.underlying50 (hval 0 50 v0 rfl rfl)
  have k0 := h0
  have lt0 : ∀ x ∈ p0, x.block < W.heap.size := by obtain ⟨m, hm⟩ := k0; exact DataW.trod_lt m _ _ _ hm
  obtain ⟨b0, m0, c0, L0, e0, w0⟩ : ∃ a len cap L, Value.slice a0 len0 cap0 = .slice a len cap ∧ IsConds W a len cap L := by
    obtain ⟨fuel, hf⟩ := h0
    exact conds_in hf
  rw [e0] at hW' ⊢
  obtain ⟨a1, len1, cap1, rfl⟩ := okWide_slice Try.underlying37 (hval 1 37 v1 rfl rfl)
  have k1 := h1
  have lt1 : ∀ x ∈ p1, x.block < W.heap.size := by obtain ⟨m, hm⟩ := k1; exact DataW.trod_lt m _ _ _ hm
  obtain ⟨b1, m1, c1, L1, e1, w1⟩ : ∃ a len cap L, Value.slice a1 len1 cap1 = .slice a len cap ∧ IsBinds W a len cap L := by
    obtain ⟨fuel, hf⟩ := h1
    exact binds_in hf
  rw [e1] at hW' ⊢
  clear hA0 hval0
  refine (walk b0 m0 c0 L0 b1 m1 c1 L1 W w0 w1).mono fun e W' ⟨he, bel⟩ => ?_
  subst he
  exact ⟨_, rfl, _, _, _, [], _, [], hW', trodAll_mk1 (shut_bool Try.underlying4 _), (trodAll_cons_mk (by rw [← e0]; exact Below.trod laidOut (by kernel_rfl) (of_decide_eq_true (by kernel_rfl)) k0 bel lt0) (trodAll_cons_mk (by rw [← e1]; exact Below.trod laidOut (by kernel_rfl) (of_decide_eq_true (by kernel_rfl)) k1 bel lt1) trodAll_mk0)), rfl, bel.frame _, fun h => by cases h⟩

theorem over : Rows.fnExactHoldAllRow.holds Try.pinned (OpenSpec.ofChange Rows.fnExactHoldAllSpec) :=
  OpenClaim.holds_of_wide 6 Try.f6 rfl rfl rfl rfl rfl rfl rfl ⟨rfl, rfl, rfl, rfl, rfl⟩ rfl rfl rfl rfl rfl (by kernel_rfl) Try.func6 (by kernel_rfl)
    (of_decide_eq_true (by kernel_rfl)) (by unfold Func.isWrapper; first | (rw [if_pos (by decide +kernel)]; kernel_rfl) | (rw [if_neg (by decide +kernel)]; exact ⟨rfl, rfl⟩))
    (fun os started H enc _ => lifted os started H enc)
end Go.Proofs.Ytlaoiagpoomldaa.ExHoldAll
namespace Go.Proofs.Ytlaoiagpoomldaa
theorem fnExactHoldAll_holds : Rows.FnExactHoldAllSaid := ExHoldAll.over
#print axioms fnExactHoldAll_holds
end Go.Proofs.Ytlaoiagpoomldaa
