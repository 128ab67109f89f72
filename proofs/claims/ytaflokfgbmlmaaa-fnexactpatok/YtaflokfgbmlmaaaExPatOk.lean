/-
  Proved: for every pattern, the law on PatOk answers true (the tested function answers as its model and writes into no argument), and the pattern reads as it did. No condition.
-/
import Derived.Test.YtaflokfgbmlmaaaPatOk
import Derived.Test.YtaflokfgbmlmaaaKeepP
import Derived.Test.YtaflokfgbmlmaaaRows
import Derived.ProofKit
import Derived.OpenShut
import Derived.ShutString
import Derived.ChangeOld
import Derived.Below
import Derived.Lib.SmallJoins
import Derived.Deep.RegionHeld3
namespace Go.Proofs.Ytaflokfgbmlmaaa.ExPatOk
open Go.ChangeShapes Go.WideShapes Go.ChangeAt Go.RowKit Go.Joins
open Go.ChangeMaps (open_string shut_string)
set_option linter.unusedVariables false

set_option maxRecDepth 100000 in
set_option maxHeartbeats 3200000 in
theorem walk (kd : ByteArray) (a : Option Addr) (len cap : Nat) (L : List A5) (nt : Bool) (w : World) (hkd : kd.size ≤ maxLen) (hv : IsArgs w a len cap L) :
    Calls Try.prog 7 #[.agg #[.string kd, .slice a len cap, .bool nt]] w fun e w' => e = .returned (.bool true) ∧ Below w.heap.size w w' := by
  obtain ⟨rfl, hm, hr, hs⟩ := hv
  go_enter Try.func7, Try.ntmps7
  go_wp2_with fail
  have b0 := below_al w (.cells #[.string kd, .slice a L.length cap, .bool nt] 44)
  have hA := boxk_new w #[.string kd, .slice a L.length cap, .bool nt] 44
  refine (szPat_any kd a cap L nt 1048576 _ hkd (hr.below b0) hs hm (by omega) (by omega)).mono ?_
  rintro e w1 ⟨⟨r, rfl, hr1⟩, hb1⟩
  have HA := hide (box_below hA hb1 (by simp))
  have hB1 : Below w.heap.size w w1 := b0.trans (hb1.mono b0.size)
  clear hb1 b0 hA
  rcases hr1 with rfl | ⟨hr2, hr3, hsm⟩
  · go_wp2
    go_ret
    exact ⟨rfl, hB1⟩
  · have hn : L.length ≤ 1048576 := by omega
    clear hr3 hsm
    obtain ⟨a0, a1, a2, -, -, -⟩ := box_cell HA.out
    go_wp2_with fail
    refine (toPat_any kd a cap L nt _ (hr.below hB1) hn).mono ?_
    rintro e w2 ⟨g2, rfl, hg2, o2, hb2⟩
    have HA2 := hide (box_step HA.out hb2)
    have hB2 : Below w.heap.size w w2 := hB1.trans (hb2.mono hB1.size)
    clear hb2 HA hB1 a0 a1 a2
    go_wp2_with fail
    refine (specPatOk_any kd _ _ L nt _ hkd (rdOwnArg o2) hs (by omega)).mono ?_
    rintro e w3 ⟨rfl, hb3⟩
    have HA3 := hide (box_step HA2.out hb3)
    have hB3 : Below w.heap.size w w3 := hB2.trans (hb3.mono hB2.size)
    clear hb3 HA2 hB2 o2
    obtain ⟨a0, a1, a2, -, -, -⟩ := box_cell HA3.out
    go_wp2_with fail
    refine (toPat_any kd a cap L nt _ (hr.below hB3) hn).mono ?_
    rintro e w4 ⟨g4, rfl, hg4, o4, hb4⟩
    have HA4 := hide (box_step HA3.out hb4)
    have hB4 : Below w.heap.size w w4 := hB3.trans (hb4.mono hB3.size)
    clear hb4 HA3 hB3 a0 a1 a2
    go_wp2_with fail
    have b5 := below_al w4 (.cells #[.string kd, .slice (some ⟨g4, 0, none⟩) L.length L.length, .bool nt] 49)
    have o5 := o4.later b5
    have HA5 := hide (box_step HA4.out b5)
    have HX5 := hide (boxk_new w4 #[.string kd, .slice (some ⟨g4, 0, none⟩) L.length L.length, .bool nt] 49)
    have hB5 := hB4.trans (b5.mono hB4.size)
    refine (implPatOk_any kd _ _ L nt _ hkd (rdOwnArg o5) hs (by omega)).mono ?_
    rintro e w6 ⟨rfl, hb6⟩
    have HA6 := hide (box_step HA5.out hb6)
    have HX6 := hide (box_step HX5.out hb6)
    have o6 := o5.later hb6
    have hB6 : Below w.heap.size w w6 := hB5.trans (hb6.mono hB5.size)
    clear hb6 HA5 HX5 hB5 HA4 hB4 b5 o5 o4
    obtain ⟨a0, a1, a2, -, -, -⟩ := box_cell HA6.out
    obtain ⟨x0, x1, x2, -, -, -⟩ := box_cell HX6.out
    generalize patB kd L = bb
    have hbb : (bb != bb) = false := by simp
    have T6 : TwoA w w.heap.size a (some ⟨g4, 0, none⟩) L w6 := ⟨hr.below hB6, rdOwnArg o6, hB6, hB6.size⟩
    clear HA6 HX6 o6 hB6
    go_wp2_with fail
    go_region_held3 (fun W => W.cell? ⟨w.heap.size, 0, none⟩ = some (.string kd) ∧ W.cell? ⟨w.heap.size, 1, none⟩ = some (.slice a L.length cap) ∧ W.cell? ⟨w.heap.size, 2, none⟩ = some (.bool nt) ∧ W.cell? ⟨w4.heap.size, 0, none⟩ = some (.string kd) ∧ W.cell? ⟨w4.heap.size, 1, none⟩ = some (.slice (some ⟨g4, 0, none⟩) L.length L.length) ∧ W.cell? ⟨w4.heap.size, 2, none⟩ = some (.bool nt) ∧ TwoA w w.heap.size a (some ⟨g4, 0, none⟩) L W) (first | exact ⟨a0, a1, a2, x0, x1, x2, T6.drew⟩ | exact keepP (by assumption) (by assumption))
      (first | (go_at_call 23; refine (toPat_any _ _ _ _ _ _ (rdPA (by assumption)) hn).mono ?_; rintro e w7 ⟨g7, rfl, hg7, o7, hb7⟩) | (go_at_call 25; refine (eqPat_same _ _ _ _ _ _ _ _ (rdPB (by assumption)) (rdOwnArg o7) (by omega)).mono ?_; rintro e w8 ⟨rfl, hb8⟩))
    obtain ⟨-, -, -, -, -, -, T8⟩ : w8.cell? ⟨w.heap.size, 0, none⟩ = some (.string kd) ∧ w8.cell? ⟨w.heap.size, 1, none⟩ = some (.slice a L.length cap) ∧ w8.cell? ⟨w.heap.size, 2, none⟩ = some (.bool nt) ∧ w8.cell? ⟨w4.heap.size, 0, none⟩ = some (.string kd) ∧ w8.cell? ⟨w4.heap.size, 1, none⟩ = some (.slice (some ⟨g4, 0, none⟩) L.length L.length) ∧ w8.cell? ⟨w4.heap.size, 2, none⟩ = some (.bool nt) ∧ TwoA w w.heap.size a (some ⟨g4, 0, none⟩) L w8 := by assumption
    go_wp2
    go_ret
    exact ⟨rfl, T8.2.2.1⟩

theorem own : ownKnob Try.prog.godebug = none := by kernel_rfl
theorem laidOut : laidOutB Try.prog = true := by kernel_rfl

set_option maxRecDepth 100000 in
theorem lifted (os : Os) (started : os.Started) (H : Type) (enc : TypeId × Value → H) :
    ReturnsInHanded {} Try.checked os 7 .any (Rows.fnExactPatOkSpec.pre6 enc Try.prog Try.f7 Rows.fnExactPatOkRow.domain false) (Rows.fnExactPatOkSpec.post enc Try.prog Try.f7 false true false false) := by
  refine returnsInHanded_of_change (C := Try.checked) own started (by kernel_rfl) Try.func7
    (ChangeSpec.witness6 (enc := enc) (C := Try.checked) false ⟨#[], #[.agg #[.string ByteArray.empty, .slice none 0 0, .bool false]], []⟩ 8 (by kernel_rfl) (by kernel_rfl) (by kernel_rfl) (by kernel_rfl)) ?_
  intro W base args ds gs before hval0 hW hcnd _
  have hval : ∀ (j : Nat) t v, Try.f7.params[j]? = some t → args[j]? = some v → Value.okWide Try.prog W .any base t v := hval0
  have hW' := hW
  obtain ⟨p, q, hA0, hV, rfl, hfz, hnd⟩ := hW
  have hA : DataW.TrodAll enc Try.prog W 0 (fun _ => true) true Try.f7.params.toList args.toList ds p := hA0
  rw [Try.params7] at hA hval
  obtain ⟨v0, vs0, d0, ds0, p0, q0, hargs, rfl, rfl, h0, r0⟩ := trodAll_cons hA
  obtain ⟨rfl, rfl, rfl⟩ := trodAll_nil r0
  obtain rfl : args = #[v0] := by cases args; simp_all
  obtain ⟨rfl, rfl⟩ := trodVars_none hV
  have k0 := h0
  have lt0 : ∀ x ∈ p0, x.block < W.heap.size := by obtain ⟨m, hm⟩ := k0; exact DataW.trod_lt m _ _ _ hm
  obtain ⟨c0a, c0b, c0c, y0a, y0b, y0c, m0, rfl, _, _, hy0a, hy0b, hy0c⟩ := open_agg3 Try.underlying44 (by kernel_rfl) (by kernel_rfl) (hval 0 44 v0 rfl rfl) h0
  obtain ⟨S0, eS0, _, wS0⟩ := DataW.trod_string Try.underlying9 hy0a
  obtain ⟨B0, eB0, _⟩ := DataW.trod_bool Try.underlying4 hy0c
  simp only [List.cons.injEq, and_true] at eS0 eB0
  subst eS0 eB0
  obtain ⟨a0, len0, cap0, L0, rfl, w0⟩ := args_in hy0b
  clear hA0 hval0
  refine (walk S0 a0 len0 cap0 L0 B0 W wS0 w0).mono fun e W' ⟨he, bel⟩ => ?_
  subst he
  exact ⟨_, rfl, _, _, _, [], _, [], hW', trodAll_mk1 (shut_bool Try.underlying4 _), (trodAll_cons_mk (Below.trod laidOut (by kernel_rfl) (of_decide_eq_true (by kernel_rfl)) k0 bel lt0) trodAll_mk0), rfl, bel.frame _, fun h => by cases h⟩

theorem over : Rows.fnExactPatOkRow.holds Try.pinned (OpenSpec.ofChange Rows.fnExactPatOkSpec) :=
  OpenClaim.holds_of_wide 7 Try.f7 rfl rfl rfl rfl rfl rfl rfl ⟨rfl, rfl, rfl, rfl, rfl⟩ rfl rfl rfl rfl rfl (by kernel_rfl) Try.func7 (by kernel_rfl)
    (of_decide_eq_true (by kernel_rfl)) (by unfold Func.isWrapper; first | (rw [if_pos (by decide +kernel)]; kernel_rfl) | (rw [if_neg (by decide +kernel)]; exact ⟨rfl, rfl⟩))
    (fun os started H enc _ => lifted os started H enc)
end Go.Proofs.Ytaflokfgbmlmaaa.ExPatOk
namespace Go.Proofs.Ytaflokfgbmlmaaa
theorem fnExactPatOk_holds : Rows.FnExactPatOkSaid := ExPatOk.over
#print axioms fnExactPatOk_holds
end Go.Proofs.Ytaflokfgbmlmaaa
