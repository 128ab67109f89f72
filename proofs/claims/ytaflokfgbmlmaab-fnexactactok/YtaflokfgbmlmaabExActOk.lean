/-
  Proved: for every act, the law on ActOk answers true (the tested function answers as its model and writes into no argument), and the act reads as it did. No condition.
-/
import Derived.Test.YtaflokfgbmlmaabActOkS
import Derived.Test.YtaflokfgbmlmaabLawAct
import Derived.Test.YtaflokfgbmlmaabRows
import Derived.ProofKit
import Derived.OpenShut
import Derived.ShutString
import Derived.ChangeOld
import Derived.Below
import Derived.Lib.SmallJoins
import Derived.Deep.RegionHeld3
namespace Go.Proofs.Ytaflokfgbmlmaab.ExActOk
open Go.ChangeShapes Go.WideShapes Go.ChangeAt Go.RowKit Go.Joins
open Go.ChangeMaps (open_string shut_string)
set_option linter.unusedVariables false

set_option maxRecDepth 100000 in
set_option maxHeartbeats 3200000 in
theorem walk (K : Int) (nm : ByteArray) (a : Option Addr) (len cap : Nat) (L : List X11) (N : Int) (un : ByteArray) (w : World) (hkd : nm.size ≤ maxLen) (hun : un.size ≤ maxLen) (hv : IsExprs w a len cap L) :
    Calls Try.prog 4 #[.agg #[.int .i64 K, .string nm, .slice a len cap, .int .i64 N, .string un]] w fun e w' => e = .returned (.bool true) ∧ Below w.heap.size w w' := by
  obtain ⟨rfl, hm, hr, hs⟩ := hv
  go_enter Try.func4, Try.ntmps4
  go_wp2_with fail
  have b0 := below_al w (.cells #[.int .i64 K, .string nm, .slice a L.length cap, .int .i64 N, .string un] 35)
  have hA := boxk_new w #[.int .i64 K, .string nm, .slice a L.length cap, .int .i64 N, .string un] 35
  refine (szAct_any K nm a cap L N un 1048576 _ hkd hun (hr.below b0) hs hm (by omega) (by omega)).mono ?_
  rintro e w1 ⟨⟨r, rfl, hr1⟩, hb1⟩
  have HA := hide (box_below hA hb1 (by simp))
  have hB1 : Below w.heap.size w w1 := b0.trans (hb1.mono b0.size)
  clear hb1 b0 hA
  rcases hr1 with rfl | ⟨hr2, hr3, hsm⟩
  · go_wp2
    go_ret
    exact ⟨rfl, hB1⟩
  · have hn : L.length ≤ 1048576 := by omega
    clear hr3 hsm
    have a0 := boxk_cell HA.out 0 _ rfl
    have a1 := boxk_cell HA.out 1 _ rfl
    have a2 := boxk_cell HA.out 2 _ rfl
    have a3 := boxk_cell HA.out 3 _ rfl
    have a4 := boxk_cell HA.out 4 _ rfl
    go_wp2_with fail
    refine (toAct_any K nm a cap L N un _ (hr.below hB1) hn).mono ?_
    rintro e w2 ⟨g2, rfl, hg2, o2, hb2⟩
    have HA2 := hide (box_step HA.out hb2)
    have hB2 : Below w.heap.size w w2 := hB1.trans (hb2.mono hB1.size)
    clear hb2 HA hB1 a0 a1 a2 a3 a4
    go_wp2_with fail
    refine (specActOk_any K nm _ _ L N un _ hkd (rdOwnExpr o2) hs (by omega) hun).mono ?_
    rintro e w3 ⟨rfl, hb3⟩
    have HA3 := hide (box_step HA2.out hb3)
    have hB3 : Below w.heap.size w w3 := hB2.trans (hb3.mono hB2.size)
    clear hb3 HA2 hB2 o2
    have a0 := boxk_cell HA3.out 0 _ rfl
    have a1 := boxk_cell HA3.out 1 _ rfl
    have a2 := boxk_cell HA3.out 2 _ rfl
    have a3 := boxk_cell HA3.out 3 _ rfl
    have a4 := boxk_cell HA3.out 4 _ rfl
    go_wp2_with fail
    refine (toAct_any K nm a cap L N un _ (hr.below hB3) hn).mono ?_
    rintro e w4 ⟨g4, rfl, hg4, o4, hb4⟩
    have HA4 := hide (box_step HA3.out hb4)
    have hB4 : Below w.heap.size w w4 := hB3.trans (hb4.mono hB3.size)
    clear hb4 HA3 hB3 a0 a1 a2 a3 a4
    go_wp2_with fail
    have b5 := below_al w4 (.cells #[.int .i64 K, .string nm, .slice (some ⟨g4, 0, none⟩) L.length L.length, .int .i64 N, .string un] 40)
    have o5 := o4.later b5
    have HA5 := hide (box_step HA4.out b5)
    have HX5 := hide (boxk_new w4 #[.int .i64 K, .string nm, .slice (some ⟨g4, 0, none⟩) L.length L.length, .int .i64 N, .string un] 40)
    have hB5 := hB4.trans (b5.mono hB4.size)
    refine (implActOk_any K nm _ _ L N un _ hkd (rdOwnExpr o5) hs (by omega) hun).mono ?_
    rintro e w6 ⟨rfl, hb6⟩
    have HA6 := hide (box_step HA5.out hb6)
    have HX6 := hide (box_step HX5.out hb6)
    have o6 := o5.later hb6
    have hB6 : Below w.heap.size w w6 := hB5.trans (hb6.mono hB5.size)
    clear hb6 HA5 HX5 hB5 HA4 hB4 b5 o5 o4
    have a0 := boxk_cell HA6.out 0 _ rfl
    have a1 := boxk_cell HA6.out 1 _ rfl
    have a2 := boxk_cell HA6.out 2 _ rfl
    have a3 := boxk_cell HA6.out 3 _ rfl
    have a4 := boxk_cell HA6.out 4 _ rfl
    have x0 := boxk_cell HX6.out 0 _ rfl
    have x1 := boxk_cell HX6.out 1 _ rfl
    have x2 := boxk_cell HX6.out 2 _ rfl
    have x3 := boxk_cell HX6.out 3 _ rfl
    have x4 := boxk_cell HX6.out 4 _ rfl
    generalize actB K nm L N un = bb
    have hbb : (bb != bb) = false := by simp
    have T6 : TwoX w w.heap.size a (some ⟨g4, 0, none⟩) L w6 := ⟨hr.below hB6, rdOwnExpr o6, hB6, hB6.size⟩
    clear HA6 HX6 o6 hB6
    go_wp2_with fail
    go_region_held3 (fun W => W.cell? ⟨w.heap.size, 0, none⟩ = some (.int .i64 K) ∧ W.cell? ⟨w.heap.size, 1, none⟩ = some (.string nm) ∧ W.cell? ⟨w.heap.size, 2, none⟩ = some (.slice a L.length cap) ∧ W.cell? ⟨w.heap.size, 3, none⟩ = some (.int .i64 N) ∧ W.cell? ⟨w.heap.size, 4, none⟩ = some (.string un) ∧ W.cell? ⟨w4.heap.size, 0, none⟩ = some (.int .i64 K) ∧ W.cell? ⟨w4.heap.size, 1, none⟩ = some (.string nm) ∧ W.cell? ⟨w4.heap.size, 2, none⟩ = some (.slice (some ⟨g4, 0, none⟩) L.length L.length) ∧ W.cell? ⟨w4.heap.size, 3, none⟩ = some (.int .i64 N) ∧ W.cell? ⟨w4.heap.size, 4, none⟩ = some (.string un) ∧ TwoX w w.heap.size a (some ⟨g4, 0, none⟩) L W) (first | exact ⟨a0, a1, a2, a3, a4, x0, x1, x2, x3, x4, T6.drew⟩ | exact keepX (by assumption) (by assumption))
      (first | (go_at_call 15; refine (toAct_any _ _ _ _ _ _ _ _ (rdXA (by assumption)) hn).mono ?_; rintro e w7 ⟨g7, rfl, hg7, o7, hb7⟩) | (go_at_call 17; refine (eqAct_same _ _ _ _ _ _ _ _ _ _ (rdXB (by assumption)) (rdOwnExpr o7) (by omega)).mono ?_; rintro e w8 ⟨rfl, hb8⟩))
    all_goals
      obtain ⟨-, -, -, -, -, -, -, -, -, -, T8⟩ : w8.cell? ⟨w.heap.size, 0, none⟩ = some (.int .i64 K) ∧ w8.cell? ⟨w.heap.size, 1, none⟩ = some (.string nm) ∧ w8.cell? ⟨w.heap.size, 2, none⟩ = some (.slice a L.length cap) ∧ w8.cell? ⟨w.heap.size, 3, none⟩ = some (.int .i64 N) ∧ w8.cell? ⟨w.heap.size, 4, none⟩ = some (.string un) ∧ w8.cell? ⟨w4.heap.size, 0, none⟩ = some (.int .i64 K) ∧ w8.cell? ⟨w4.heap.size, 1, none⟩ = some (.string nm) ∧ w8.cell? ⟨w4.heap.size, 2, none⟩ = some (.slice (some ⟨g4, 0, none⟩) L.length L.length) ∧ w8.cell? ⟨w4.heap.size, 3, none⟩ = some (.int .i64 N) ∧ w8.cell? ⟨w4.heap.size, 4, none⟩ = some (.string un) ∧ TwoX w w.heap.size a (some ⟨g4, 0, none⟩) L w8 := by assumption
      go_wp2
      go_ret
      exact ⟨rfl, T8.2.2.1⟩

theorem own : ownKnob Try.prog.godebug = none := by kernel_rfl
theorem laidOut : laidOutB Try.prog = true := by kernel_rfl

set_option maxRecDepth 100000 in
theorem lifted (os : Os) (started : os.Started) (H : Type) (enc : TypeId × Value → H) :
    ReturnsInHanded {} Try.checked os 4 .any (Rows.fnExactActOkSpec.pre6 enc Try.prog Try.f4 Rows.fnExactActOkRow.domain false) (Rows.fnExactActOkSpec.post enc Try.prog Try.f4 false true false false) := by
  refine returnsInHanded_of_change (C := Try.checked) own started (by kernel_rfl) Try.func4
    (ChangeSpec.witness6 (enc := enc) (C := Try.checked) false ⟨#[], #[.agg #[.int .i64 0, .string ByteArray.empty, .slice none 0 0, .int .i64 0, .string ByteArray.empty]], []⟩ 8 (by kernel_rfl) (by kernel_rfl) (by kernel_rfl) (by kernel_rfl)) ?_
  intro W base args ds gs before hval0 hW hcnd _
  have hval : ∀ (j : Nat) t v, Try.f4.params[j]? = some t → args[j]? = some v → Value.okWide Try.prog W .any base t v := hval0
  have hW' := hW
  obtain ⟨p, q, hA0, hV, rfl, hfz, hnd⟩ := hW
  have hA : DataW.TrodAll enc Try.prog W 0 (fun _ => true) true Try.f4.params.toList args.toList ds p := hA0
  rw [Try.params4] at hA hval
  obtain ⟨v0, vs0, d0, ds0, p0, q0, hargs, rfl, rfl, h0, r0⟩ := trodAll_cons hA
  obtain ⟨rfl, rfl, rfl⟩ := trodAll_nil r0
  obtain rfl : args = #[v0] := by cases args; simp_all
  obtain ⟨rfl, rfl⟩ := trodVars_none hV
  have k0 := h0
  have lt0 : ∀ x ∈ p0, x.block < W.heap.size := by obtain ⟨m, hm⟩ := k0; exact DataW.trod_lt m _ _ _ hm
  obtain ⟨K0, S0, a0, len0, cap0, L0, N0, U0, rfl, wS0, wU0, w0⟩ := act_in (hval 0 35 v0 rfl rfl) h0
  clear hA0 hval0
  refine (walk K0 S0 a0 len0 cap0 L0 N0 U0 W wS0 wU0 w0).mono fun e W' ⟨he, bel⟩ => ?_
  subst he
  exact ⟨_, rfl, _, _, _, [], _, [], hW', trodAll_mk1 (shut_bool Try.underlying4 _), (trodAll_cons_mk (Below.trod laidOut (by kernel_rfl) (of_decide_eq_true (by kernel_rfl)) k0 bel lt0) trodAll_mk0), rfl, bel.frame _, fun h => by cases h⟩

theorem over : Rows.fnExactActOkRow.holds Try.pinned (OpenSpec.ofChange Rows.fnExactActOkSpec) :=
  OpenClaim.holds_of_wide 4 Try.f4 rfl rfl rfl rfl rfl rfl rfl ⟨rfl, rfl, rfl, rfl, rfl⟩ rfl rfl rfl rfl rfl (by kernel_rfl) Try.func4 (by kernel_rfl)
    (of_decide_eq_true (by kernel_rfl)) (by unfold Func.isWrapper; first | (rw [if_pos (by decide +kernel)]; kernel_rfl) | (rw [if_neg (by decide +kernel)]; exact ⟨rfl, rfl⟩))
    (fun os started H enc _ => lifted os started H enc)
end Go.Proofs.Ytaflokfgbmlmaab.ExActOk
namespace Go.Proofs.Ytaflokfgbmlmaab
theorem fnExactActOk_holds : Rows.FnExactActOkSaid := ExActOk.over
#print axioms fnExactActOk_holds
end Go.Proofs.Ytaflokfgbmlmaab
