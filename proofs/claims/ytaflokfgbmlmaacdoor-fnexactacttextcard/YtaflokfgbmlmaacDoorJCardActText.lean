/-
  Proved: the row on ActText (for every act the law answers true, and the act reads as it did, where the library's tables read as listed), and its tied card (what is listed is what the program's own text lays).
-/
import Derived.Test.YtaflokfgbmlmaacDoorJActTS
import Derived.Test.YtaflokfgbmlmaacDoorJLawAct
import Derived.Test.YtaflokfgbmlmaacDoorRows
import Derived.Test.YtaflokfgbmlmaacDoorCards
import Derived.Test.YtaflokfgbmlmaacDoorTie
import Derived.ProofKit
import Derived.LaidMore
import Derived.OpenShut
import Derived.ShutString
import Derived.ChangeOld
import Derived.Below
import Derived.Stop.Joined
import Derived.Stop.LaidErr
import Derived.Lib.LaidTab
import Derived.SevenTiedAt
import Derived.Lib.SmallJoins
import Derived.Deep.RegionHeld3
import Derived.ChangeVars
import Derived.OpenVars
namespace Go.Proofs.YtaflokfgbmlmaacDoor.CardActText
open Go.ChangeShapes Go.WideShapes Go.ChangeAt Go.RowKit Go.Joins
open Go.ChangeMaps (open_string shut_string)
set_option linter.unusedVariables false
set_option maxRecDepth 100000

theorem gT : Tryd.prog.globalNamed "internal/strconv.uint64pow10" = some 1 := by kernel_rfl
theorem gTType : (Tryd.prog.globals[1]?).map (·.type) = some 175 := by kernel_rfl
theorem tab_of {r : List (String × DataW Unit)} {a b : String × DataW Unit} {W : World} (h : laidMet Tryd.prog (a :: b :: ("internal/strconv.uint64pow10", Rows.laid_internal_strconv_uint64pow10) :: ("loop.example/g00282/impl.actWords", Rows.laid_loop_example_g00282_impl_actWords) :: r) W) : Tab W ∧ Wrd W :=
  ⟨Lib.tabIs_of_head (zs := Lib.pow10Tab) (rest := _) gT gTType Tryd.underlying175 Tryd.underlying158 (by kernel_rfl) (by kernel_rfl) h.tail.tail, wrd_of_head h.tail.tail.tail⟩

set_option maxRecDepth 100000 in
set_option maxHeartbeats 3200000 in
theorem walk (K : Int) (nm : ByteArray) (a : Option Addr) (len cap : Nat) (L : List X11) (N : Int) (un : ByteArray) (w : World) (hkd : nm.size ≤ maxLen) (hun : un.size ≤ maxLen) (hv : IsExprs w a len cap L) (htw : Tab w ∧ Wrd w) :
    Calls Tryd.prog 3 #[.agg #[.int .i64 K, .string nm, .slice a len cap, .int .i64 N, .string un]] w fun e w' => e = .returned (.bool true) ∧ Below w.heap.size w w' := by
  obtain ⟨rfl, hm, hr, hs⟩ := hv
  have HTab := hide htw.1
  have HW := hide htw.2
  clear htw
  go_enter Tryd.func3, Tryd.ntmps3
  go_wp2_with fail
  have b0 := below_al w (.cells #[.int .i64 K, .string nm, .slice a L.length cap, .int .i64 N, .string un] 24)
  have hA := boxk_new w #[.int .i64 K, .string nm, .slice a L.length cap, .int .i64 N, .string un] 24
  refine (szAct_any K nm a cap L N un 1048576 _ hkd hun (hr.below b0) hs hm (by omega) (by omega)).mono ?_
  rintro e w1 ⟨⟨r, rfl, hr1⟩, hb1⟩
  have HA := hide (box_below hA hb1 (by simp))
  have hB1 : Below w.heap.size w w1 := b0.trans (hb1.mono b0.size)
  clear hb1 b0 hA
  rcases hr1 with rfl | ⟨hr2, hr3, hsm⟩
  · go_wp2
    go_ret
    exact ⟨rfl, hB1⟩
  · have hn : L.length ≤ 1048576 := by omega
    clear hr3 hsm
    have a0 := boxk_cell HA.out 0 _ rfl
    have a1 := boxk_cell HA.out 1 _ rfl
    have a2 := boxk_cell HA.out 2 _ rfl
    have a3 := boxk_cell HA.out 3 _ rfl
    have a4 := boxk_cell HA.out 4 _ rfl
    go_wp2_with fail
    refine (toAct_any K nm a cap L N un _ (hr.below hB1) hn).mono ?_
    rintro e w2 ⟨g2, rfl, hg2, o2, hb2⟩
    have HA2 := hide (box_step HA.out hb2)
    have hB2 : Below w.heap.size w w2 := hB1.trans (hb2.mono hB1.size)
    clear hb2 HA hB1 a0 a1 a2 a3 a4
    go_wp2_with fail
    refine (specActText_any K nm _ _ L N un _ hkd (rdOwnExpr o2) hs (by omega) hun).mono ?_
    rintro e w3 ⟨rfl, hb3⟩
    have HA3 := hide (box_step HA2.out hb3)
    have hB3 : Below w.heap.size w w3 := hB2.trans (hb3.mono hB2.size)
    clear hb3 HA2 hB2 o2
    have a0 := boxk_cell HA3.out 0 _ rfl
    have a1 := boxk_cell HA3.out 1 _ rfl
    have a2 := boxk_cell HA3.out 2 _ rfl
    have a3 := boxk_cell HA3.out 3 _ rfl
    have a4 := boxk_cell HA3.out 4 _ rfl
    go_wp2_with fail
    refine (toAct_any K nm a cap L N un _ (hr.below hB3) hn).mono ?_
    rintro e w4 ⟨g4, rfl, hg4, o4, hb4⟩
    have HA4 := hide (box_step HA3.out hb4)
    have hB4 : Below w.heap.size w w4 := hB3.trans (hb4.mono hB3.size)
    clear hb4 HA3 hB3 a0 a1 a2 a3 a4
    go_wp2_with fail
    have b5 := below_al w4 (.cells #[.int .i64 K, .string nm, .slice (some ⟨g4, 0, none⟩) L.length L.length, .int .i64 N, .string un] 29)
    have o5 := o4.later b5
    have HA5 := hide (box_step HA4.out b5)
    have HX5 := hide (boxk_new w4 #[.int .i64 K, .string nm, .slice (some ⟨g4, 0, none⟩) L.length L.length, .int .i64 N, .string un] 29)
    have hB5 := hB4.trans (b5.mono hB4.size)
    refine (implActText_any K nm _ _ L N un _ hkd (rdOwnExpr o5) hs (by omega) hun (HTab.out.later hB5 (Nat.le_refl _)) (HW.out.later hB5)).mono ?_
    rintro e w6 ⟨rfl, hb6⟩
    have HA6 := hide (box_step HA5.out hb6)
    have HX6 := hide (box_step HX5.out hb6)
    have o6 := o5.later hb6
    have hB6 : Below w.heap.size w w6 := hB5.trans (hb6.mono hB5.size)
    clear hb6 HA5 HX5 hB5 HA4 hB4 b5 o5 o4
    have a0 := boxk_cell HA6.out 0 _ rfl
    have a1 := boxk_cell HA6.out 1 _ rfl
    have a2 := boxk_cell HA6.out 2 _ rfl
    have a3 := boxk_cell HA6.out 3 _ rfl
    have a4 := boxk_cell HA6.out 4 _ rfl
    have x0 := boxk_cell HX6.out 0 _ rfl
    have x1 := boxk_cell HX6.out 1 _ rfl
    have x2 := boxk_cell HX6.out 2 _ rfl
    have x3 := boxk_cell HX6.out 3 _ rfl
    have x4 := boxk_cell HX6.out 4 _ rfl
    generalize actT K nm L N un = tx
    have e1 : (tx.toList == tx.toList) = true := by simp
    have T6 : TwoX w w.heap.size a (some ⟨g4, 0, none⟩) L w6 := ⟨hr.below hB6, rdOwnExpr o6, hB6, hB6.size⟩
    clear HA6 HX6 o6 hB6
    go_wp2_with fail
    go_region_held3 (fun W => W.cell? ⟨w.heap.size, 0, none⟩ = some (.int .i64 K) ∧ W.cell? ⟨w.heap.size, 1, none⟩ = some (.string nm) ∧ W.cell? ⟨w.heap.size, 2, none⟩ = some (.slice a L.length cap) ∧ W.cell? ⟨w.heap.size, 3, none⟩ = some (.int .i64 N) ∧ W.cell? ⟨w.heap.size, 4, none⟩ = some (.string un) ∧ W.cell? ⟨w4.heap.size, 0, none⟩ = some (.int .i64 K) ∧ W.cell? ⟨w4.heap.size, 1, none⟩ = some (.string nm) ∧ W.cell? ⟨w4.heap.size, 2, none⟩ = some (.slice (some ⟨g4, 0, none⟩) L.length L.length) ∧ W.cell? ⟨w4.heap.size, 3, none⟩ = some (.int .i64 N) ∧ W.cell? ⟨w4.heap.size, 4, none⟩ = some (.string un) ∧ TwoX w w.heap.size a (some ⟨g4, 0, none⟩) L W) (first | exact ⟨a0, a1, a2, a3, a4, x0, x1, x2, x3, x4, T6.drew⟩ | exact keepX (by assumption) (by assumption))
      (first | (go_at_call 10; refine (toAct_any _ _ _ _ _ _ _ _ (rdXA (by assumption)) hn).mono ?_; rintro e w7 ⟨g7, rfl, hg7, o7, hb7⟩) | (go_at_call 12; refine (eqAct_same _ _ _ _ _ _ _ _ _ _ (rdXB (by assumption)) (rdOwnExpr o7) (by omega)).mono ?_; rintro e w8 ⟨rfl, hb8⟩))
    all_goals
      obtain ⟨-, -, -, -, -, -, -, -, -, -, T8⟩ : w8.cell? ⟨w.heap.size, 0, none⟩ = some (.int .i64 K) ∧ w8.cell? ⟨w.heap.size, 1, none⟩ = some (.string nm) ∧ w8.cell? ⟨w.heap.size, 2, none⟩ = some (.slice a L.length cap) ∧ w8.cell? ⟨w.heap.size, 3, none⟩ = some (.int .i64 N) ∧ w8.cell? ⟨w.heap.size, 4, none⟩ = some (.string un) ∧ w8.cell? ⟨w4.heap.size, 0, none⟩ = some (.int .i64 K) ∧ w8.cell? ⟨w4.heap.size, 1, none⟩ = some (.string nm) ∧ w8.cell? ⟨w4.heap.size, 2, none⟩ = some (.slice (some ⟨g4, 0, none⟩) L.length L.length) ∧ w8.cell? ⟨w4.heap.size, 3, none⟩ = some (.int .i64 N) ∧ w8.cell? ⟨w4.heap.size, 4, none⟩ = some (.string un) ∧ TwoX w w.heap.size a (some ⟨g4, 0, none⟩) L w8 := by assumption
      go_wp2
      go_ret
      exact ⟨rfl, T8.2.2.1⟩

theorem own : ownKnob Tryd.prog.godebug = none := by kernel_rfl
theorem laidOut : laidOutB Tryd.prog = true := by kernel_rfl

theorem door_met (os : Os) (args : Array Value) : laidMetH Tryd.prog Rows.fnExactActTextRow.laid ((World.doorLaid Tryd.prog 400 os).forCall (fun _ _ => 0) ⟨#[], args, []⟩).memory :=
  laidMetH_of_parts3 (fuel := 8) (laidMet_of_run' 8 (by kernel_rfl) (by kernel_rfl)) (by kernel_rfl) (by kernel_rfl)
theorem laid_plain {W : World} (h : laidMetH Tryd.prog Rows.fnExactActTextRow.laid W) : laidMet Tryd.prog Rows.fnExactActTextRow.laid W := by
  rw [MakeChecks.laidMetH_plain _ _ _ (by kernel_rfl)] at h
  exact h

set_option maxRecDepth 100000 in
theorem lifted (os : Os) (started : os.Started) (H : Type) (enc : TypeId × Value → H) :
    ReturnsInHanded {} Tryd.checked os 3 .any (fun w args => (Rows.fnExactActTextSpec.pre enc Tryd.prog Tryd.f3 [] false w args ∧ laidMetH Tryd.prog Rows.fnExactActTextRow.laid w) ∧ sizedMet enc Tryd.prog Tryd.f3 (OpenSpec.ofChange Rows.fnExactActTextSpec) false w args)
      (Rows.fnExactActTextSpec.post enc Tryd.prog Tryd.f3 false true false false) := by
  refine returnsInHanded_of_change_and (C := Tryd.checked) (X := fun w _ => laidMetH Tryd.prog Rows.fnExactActTextRow.laid w) (fun _ _ _ hh h => h.of_heap hh) own started (by kernel_rfl) Tryd.func3
    (ChangeSpec.witness_shaped (enc := enc) (C := Tryd.checked) (os := os) (X := fun w _ => laidMetH Tryd.prog Rows.fnExactActTextRow.laid w) false (World.doorLaid Tryd.prog 400 os) #[.agg #[.int .i64 0, .string ByteArray.empty, .slice none 0 0, .int .i64 0, .string ByteArray.empty]] 8 rfl (World.shaped_of_RefB (by kernel_rfl) (by kernel_rfl)) (by kernel_rfl) (by kernel_rfl) (by kernel_rfl) (door_met os _)) ?_
  intro W base args ds gs before hval0 hW _ _ hL _
  have hval : ∀ (j : Nat) t v, Tryd.f3.params[j]? = some t → args[j]? = some v → Value.okWide Tryd.prog W .any base t v := hval0
  have hW' := hW
  obtain ⟨p, q, hA0, hV, rfl, hfz, hnd⟩ := hW
  have hA : DataW.TrodAll enc Tryd.prog W 0 (fun _ => true) true Tryd.f3.params.toList args.toList ds p := hA0
  rw [Tryd.params3] at hA hval
  obtain ⟨v0, vs0, d0, ds0, p0, q0, hargs, rfl, rfl, h0, r0⟩ := trodAll_cons hA
  obtain ⟨rfl, rfl, rfl⟩ := trodAll_nil r0
  obtain rfl : args = #[v0] := by cases args; simp_all
  have hV2 := hV
  obtain ⟨gg, tt, cs0, ff, gd, pp, rfl, -⟩ := trodVars_one hV
  have k0 := h0
  have lt0 : ∀ x ∈ p0, x.block < W.heap.size := by obtain ⟨m, hm⟩ := k0; exact DataW.trod_lt m _ _ _ hm
  obtain ⟨K0, S0, a0, len0, cap0, L0, N0, U0, rfl, wS0, wU0, w0⟩ := act_in (hval 0 24 v0 rfl rfl) h0
  clear hA0 hval0
  refine (walk K0 S0 a0 len0 cap0 L0 N0 U0 W wS0 wU0 w0 (tab_of (laid_plain hL))).mono fun e W' ⟨he, bel⟩ => ?_
  subst he
  exact ⟨_, rfl, _, _, _, [], _, q, hW', trodAll_mk1 (shut_bool Tryd.underlying4 _), (trodAll_cons_mk (Below.trod laidOut (by kernel_rfl) (of_decide_eq_true (by kernel_rfl)) k0 bel lt0) trodAll_mk0), bel.trodVars laidOut (by kernel_rfl) hV2, bel.frame _, fun h => by cases h⟩

set_option maxRecDepth 100000 in
theorem over : Rows.fnExactActTextRow.holds Tryd.pinned (OpenSpec.ofChange Rows.fnExactActTextSpec) :=
  OpenClaim.holds_of_wide 3 Tryd.f3 rfl rfl rfl rfl rfl rfl rfl ⟨rfl, rfl, rfl, rfl, rfl⟩ rfl rfl rfl rfl rfl (by kernel_rfl) Tryd.func3 (by kernel_rfl)
    (of_decide_eq_true (by kernel_rfl)) (by unfold Func.isWrapper; first | (rw [if_pos (by decide +kernel)]; kernel_rfl) | (rw [if_neg (by decide +kernel)]; exact ⟨rfl, rfl⟩))
    (fun os started H enc _ => lifted os started H enc)

set_option maxRecDepth 100000 in
theorem card_over : Rows.FnExactActTextCardSaid :=
  Claim7.holds_tied_plain_at .later [] [.data, .data, .data, .data] true Rows.fnExactActTextCard.stood.harness true
    over (fun _ h => by cases h) (by kernel_rfl) (fun _ h => by cases h) fnExactActText_row_tie rfl ⟨rfl, rfl⟩ (by kernel_rfl) rfl
    (fun f fn hf hfn => by
      obtain rfl : f = 3 := Option.some.inj ((show Tryd.prog.funcNamed "loop.example/g00282/laws.FnExactActText" = some 3 by kernel_rfl).symm.trans hf) |>.symm
      obtain rfl : fn = Tryd.f3 := (Option.some.inj (Tryd.func3.symm.trans hfn)).symm
      exact ⟨by kernel_rfl, fun j t ht => by
        rw [Tryd.params3] at ht
        have hm : t ∈ [24] := by simpa using Array.mem_of_getElem? ht
        have hall : ([24].all fun u => !Tryd.prog.wantsStandIn u) = true := by kernel_rfl
        exact (show Tryd.prog.wantsStandIn t = false by simpa using List.all_eq_true.1 hall t hm)⟩)
    (by kernel_rfl)
end Go.Proofs.YtaflokfgbmlmaacDoor.CardActText
namespace Go.Proofs.YtaflokfgbmlmaacDoor
theorem fnExactActTextCard_holds : Rows.FnExactActTextCardSaid := CardActText.card_over
#print axioms fnExactActTextCard_holds
end Go.Proofs.YtaflokfgbmlmaacDoor
