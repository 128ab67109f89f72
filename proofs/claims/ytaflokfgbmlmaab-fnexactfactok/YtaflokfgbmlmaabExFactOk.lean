/-
  Proved: for every fact, the law on FactOk answers true (the tested function answers as its model and writes into no argument), and the fact reads as it did. No condition.
-/
import Derived.Test.YtaflokfgbmlmaabFactOk
import Derived.Test.YtaflokfgbmlmaabToFact
import Derived.Test.YtaflokfgbmlmaabFactArg
import Derived.Test.YtaflokfgbmlmaabKeepF
import Derived.Deep.RegionHeld3
namespace Go.Proofs.Ytaflokfgbmlmaab.ExFactOk
open Go.ChangeShapes Go.WideShapes Go.ChangeAt Go.RowKit Go.Joins
open Go.ChangeMaps (open_string shut_string)
set_option linter.unusedVariables false

set_option maxRecDepth 100000 in
set_option maxHeartbeats 3200000 in
theorem walk (kd : ByteArray) (a : Option Addr) (len cap : Nat) (L : List V3) (w : World) (hkd : kd.size ≤ maxLen) (hv : IsVals w a len cap L) :
    Calls Try.prog 3 #[.agg #[.string kd, .slice a len cap]] w fun e w' => e = .returned (.bool true) ∧ Below w.heap.size w w' := by
  obtain ⟨rfl, hm, hr, hs⟩ := hv
  go_enter Try.func3, Try.ntmps3
  go_wp2_with fail
  have b0 := below_al w (.cells #[.string kd, .slice a L.length cap] 24)
  have hA := box2_new w (.string kd) (.slice a L.length cap) 24
  refine (szFact_any kd a cap L 1048576 _ hkd (hr.below b0) hs hm (by omega) (by omega)).mono ?_
  rintro e w1 ⟨⟨r, rfl, hr1⟩, hb1⟩
  have HA := hide (box_below hA hb1 (by simp))
  have hB1 : Below w.heap.size w w1 := b0.trans (hb1.mono b0.size)
  clear hb1 b0 hA
  rcases hr1 with rfl | ⟨hr2, hr3⟩
  · go_wp2
    go_ret
    exact ⟨rfl, hB1⟩
  · have hn : L.length ≤ 1048576 := by unfold szL at hr3; omega
    clear hr3
    obtain ⟨a0, a1, -, -⟩ := box2_cell HA.out
    go_wp2_with fail
    refine (toFact_any kd a cap L _ (hr.below hB1) hn).mono ?_
    rintro e w2 ⟨g2, rfl, hg2, o2, hb2⟩
    have HA2 := hide (box_step HA.out hb2)
    have hB2 : Below w.heap.size w w2 := hB1.trans (hb2.mono hB1.size)
    clear hb2 HA hB1 a0 a1
    obtain ⟨a0, a1, -, -⟩ := box2_cell HA2.out
    go_wp2_with fail
    refine (specFactOk_any kd _ _ L _ hkd o2.rd hs (by omega)).mono ?_
    rintro e w3 ⟨rfl, hb3⟩
    have HA3 := hide (box_step HA2.out hb3)
    have hB3 : Below w.heap.size w w3 := hB2.trans (hb3.mono hB2.size)
    clear hb3 HA2 hB2 a0 a1 o2
    obtain ⟨a0, a1, -, -⟩ := box2_cell HA3.out
    go_wp2_with fail
    refine (toFact_any kd a cap L _ (hr.below hB3) hn).mono ?_
    rintro e w4 ⟨g4, rfl, hg4, o4, hb4⟩
    have HA4 := hide (box_step HA3.out hb4)
    have hB4 : Below w.heap.size w w4 := hB3.trans (hb4.mono hB3.size)
    clear hb4 HA3 hB3 a0 a1
    go_wp2_with fail
    have b5 := below_al w4 (.cells #[.string kd, .slice (some ⟨g4, 0, none⟩) L.length L.length] 29)
    have o5 := o4.later b5
    have HA5 := hide (box_step HA4.out b5)
    have HX5 := hide (box2_new w4 (.string kd) (.slice (some ⟨g4, 0, none⟩) L.length L.length) 29)
    have hB5 := hB4.trans (b5.mono hB4.size)
    refine (implFactOk_any kd _ _ L _ hkd o5.rd hs (by omega)).mono ?_
    rintro e w6 ⟨rfl, hb6⟩
    have HA6 := hide (box_step HA5.out hb6)
    have HX6 := hide (box_step HX5.out hb6)
    have o6 := o5.later hb6
    have hB6 : Below w.heap.size w w6 := hB5.trans (hb6.mono hB5.size)
    clear hb6 HA5 HX5 hB5 HA4 hB4 b5 o5 o4
    obtain ⟨a0, a1, -, -⟩ := box2_cell HA6.out
    obtain ⟨x0, x1, -, -⟩ := box2_cell HX6.out
    generalize factB kd L = bb
    have hbb : (bb != bb) = false := by simp
    have T6 : Two w w.heap.size a (some ⟨g4, 0, none⟩) L L w6 := ⟨hr.below hB6, o6.rd, hB6, hB6.size⟩
    clear HA6 HX6 o6 hB6
    go_wp2_with fail
    go_region_held3 (fun W => W.cell? ⟨w.heap.size, 0, none⟩ = some (.string kd) ∧ W.cell? ⟨w.heap.size, 1, none⟩ = some (.slice a L.length cap) ∧ W.cell? ⟨w4.heap.size, 0, none⟩ = some (.string kd) ∧ W.cell? ⟨w4.heap.size, 1, none⟩ = some (.slice (some ⟨g4, 0, none⟩) L.length L.length) ∧ Two w w.heap.size a (some ⟨g4, 0, none⟩) L L W) (first | exact ⟨a0, a1, x0, x1, T6.drew⟩ | exact keepF (by assumption) (by assumption))
      (first | (go_at_call 10; refine (toFact_any _ _ _ _ _ (rdA (by assumption)) hn).mono ?_; rintro e w7 ⟨g7, rfl, hg7, o7, hb7⟩) | (go_at_call 12; refine (eqFact_same _ _ _ _ _ _ _ (rdB (by assumption)) o7.rd (by omega)).mono ?_; rintro e w8 ⟨rfl, hb8⟩))
    obtain ⟨-, -, -, -, T8⟩ : w8.cell? ⟨w.heap.size, 0, none⟩ = some (.string kd) ∧ w8.cell? ⟨w.heap.size, 1, none⟩ = some (.slice a L.length cap) ∧ w8.cell? ⟨w4.heap.size, 0, none⟩ = some (.string kd) ∧ w8.cell? ⟨w4.heap.size, 1, none⟩ = some (.slice (some ⟨g4, 0, none⟩) L.length L.length) ∧ Two w w.heap.size a (some ⟨g4, 0, none⟩) L L w8 := by assumption
    go_wp2
    go_ret
    exact ⟨rfl, T8.2.2.1⟩

theorem own : ownKnob Try.prog.godebug = none := by kernel_rfl
theorem laidOut : laidOutB Try.prog = true := by kernel_rfl

set_option maxRecDepth 100000 in
theorem lifted (os : Os) (started : os.Started) (H : Type) (enc : TypeId × Value → H) :
    ReturnsInHanded {} Try.checked os 3 .any (Rows.fnExactFactOkSpec.pre6 enc Try.prog Try.f3 Rows.fnExactFactOkRow.domain false) (Rows.fnExactFactOkSpec.post enc Try.prog Try.f3 false true false false) := by
  refine returnsInHanded_of_change (C := Try.checked) own started (by kernel_rfl) Try.func3
    (ChangeSpec.witness6 (enc := enc) (C := Try.checked) false ⟨#[], #[.agg #[.string ByteArray.empty, .slice none 0 0]], []⟩ 8 (by kernel_rfl) (by kernel_rfl) (by kernel_rfl) (by kernel_rfl)) ?_
  intro W base args ds gs before hval0 hW hcnd _
  have hval : ∀ (j : Nat) t v, Try.f3.params[j]? = some t → args[j]? = some v → Value.okWide Try.prog W .any base t v := hval0
  have hW' := hW
  obtain ⟨p, q, hA0, hV, rfl, hfz, hnd⟩ := hW
  have hA : DataW.TrodAll enc Try.prog W 0 (fun _ => true) true Try.f3.params.toList args.toList ds p := hA0
  rw [Try.params3] at hA hval
  obtain ⟨v0, vs0, d0, ds0, p0, q0, hargs, rfl, rfl, h0, r0⟩ := trodAll_cons hA
  obtain ⟨rfl, rfl, rfl⟩ := trodAll_nil r0
  obtain rfl : args = #[v0] := by cases args; simp_all
  obtain ⟨rfl, rfl⟩ := trodVars_none hV
  have k0 := h0
  have lt0 : ∀ x ∈ p0, x.block < W.heap.size := by obtain ⟨m, hm⟩ := k0; exact DataW.trod_lt m _ _ _ hm
  obtain ⟨c0a, c0b, y0a, y0b, m0, rfl, _, _, hy0a, hy0b⟩ := open_agg2 Try.underlying24 (by kernel_rfl) (by kernel_rfl) (hval 0 24 v0 rfl rfl) h0
  obtain ⟨S0, eS0, _, wS0⟩ := DataW.trod_string Try.underlying9 hy0a
  simp only [List.cons.injEq, and_true] at eS0
  subst eS0
  obtain ⟨a0, len0, cap0, L0, rfl, w0⟩ := vals_in hy0b
  clear hA0 hval0
  refine (walk S0 a0 len0 cap0 L0 W wS0 w0).mono fun e W' ⟨he, bel⟩ => ?_
  subst he
  exact ⟨_, rfl, _, _, _, [], _, [], hW', trodAll_mk1 (shut_bool Try.underlying4 _), (trodAll_cons_mk (Below.trod laidOut (by kernel_rfl) (of_decide_eq_true (by kernel_rfl)) k0 bel lt0) trodAll_mk0), rfl, bel.frame _, fun h => by cases h⟩

theorem over : Rows.fnExactFactOkRow.holds Try.pinned (OpenSpec.ofChange Rows.fnExactFactOkSpec) :=
  OpenClaim.holds_of_wide 3 Try.f3 rfl rfl rfl rfl rfl rfl rfl ⟨rfl, rfl, rfl, rfl, rfl⟩ rfl rfl rfl rfl rfl (by kernel_rfl) Try.func3 (by kernel_rfl)
    (of_decide_eq_true (by kernel_rfl)) (by unfold Func.isWrapper; first | (rw [if_pos (by decide +kernel)]; kernel_rfl) | (rw [if_neg (by decide +kernel)]; exact ⟨rfl, rfl⟩))
    (fun os started H enc _ => lifted os started H enc)
end Go.Proofs.Ytaflokfgbmlmaab.ExFactOk
namespace Go.Proofs.Ytaflokfgbmlmaab
theorem fnExactFactOk_holds : Rows.FnExactFactOkSaid := ExFactOk.over
#print axioms fnExactFactOk_holds
end Go.Proofs.Ytaflokfgbmlmaab
