/-
  Proved: the row on DefText (for every definition the law answers true, and the definition reads as it did, where the library's tables and the acts' words read as listed), and its tied card (what is listed is what the program's own text lays).
-/
import Derived.Test.YtcfhpcbkdpgboaaGreatDoorJDefTI
import Derived.Test.YtcfhpcbkdpgboaaGreatDoorJDefTS
import Derived.Test.YtcfhpcbkdpgboaaGreatDoorJKeepDf
import Derived.Test.YtcfhpcbkdpgboaaGreatDoorRows
import Derived.Test.YtcfhpcbkdpgboaaGreatDoorCards
import Derived.Test.YtcfhpcbkdpgboaaGreatDoorTie
import Derived.ProofKit
import Derived.LaidMore
import Derived.OpenShut
import Derived.ShutString
import Derived.ChangeOld
import Derived.Below
import Derived.Stop.Joined
import Derived.Stop.LaidErr
import Derived.Lib.LaidTab
import Derived.SevenTiedAt
import Derived.Lib.SmallJoins
import Derived.Deep.RegionHeld3
import Derived.ChangeVars
import Derived.OpenVars
namespace Go.Proofs.YtcfhpcbkdpgboaaGreatDoor.CardDefText
open Go.ChangeShapes Go.WideShapes Go.ChangeAt Go.RowKit Go.Joins
open Go.ChangeMaps (open_string shut_string)
set_option linter.unusedVariables false
set_option maxRecDepth 100000

theorem gT : Tryz.prog.globalNamed "internal/strconv.uint64pow10" = some 2 := by kernel_rfl
theorem gTType : (Tryz.prog.globals[2]?).map (·.type) = some 203 := by kernel_rfl
theorem tab_of {r : List (String × DataW Unit)} {a b : String × DataW Unit} {W : World} (h : laidMet Tryz.prog (a :: b :: ("internal/strconv.uint64pow10", Rows.laid_internal_strconv_uint64pow10) :: ("loop.example/g00282/impl.actWords", Rows.laid_loop_example_g00282_impl_actWords) :: r) W) : Tab W ∧ Wrd W :=
  ⟨Lib.tabIs_of_head (zs := Lib.pow10Tab) (rest := _) gT gTType Tryz.underlying203 Tryz.underlying178 (by kernel_rfl) (by kernel_rfl) h.tail.tail, wrd_of_head h.tail.tail.tail⟩

set_option maxRecDepth 100000 in
set_option maxHeartbeats 6400000 in
theorem walk (x : DE) (w : World) (hr : RdDef w x) (hs : x.ok) (htw : Tab w ∧ Wrd w) :
    Calls Tryz.prog 3 #[.agg #[.string x.nm, .slice x.aR x.nR x.cR]] w fun e w' => e = .returned (.bool true) ∧ Below w.heap.size w w' := by
  have HTab := hide htw.1
  have HWd := hide htw.2
  clear htw
  go_enter Tryz.func3, Tryz.ntmps3
  go_wp2_with fail
  have b0 := below_al w (.cells #[.string x.nm, .slice x.aR x.nR x.cR] 24)
  have hA := boxk_new w #[.string x.nm, .slice x.aR x.nR x.cR] 24
  refine (szDef_any x 1048576 _ (hr.below b0) hs (by omega) (by omega)).mono ?_
  rintro e w1 ⟨⟨r, rfl, hr1⟩, hb1⟩
  have HA := hide (box_below hA hb1 (by simp))
  have hB1 : Below w.heap.size w w1 := b0.trans (hb1.mono b0.size)
  have hz1 : w.heap.size < w1.heap.size := Nat.lt_of_lt_of_le (by simp) hb1.size
  clear hb1 b0 hA
  rcases hr1 with rfl | ⟨hr2, hr3, hsm⟩
  · go_wp2
    go_ret
    exact ⟨rfl, hB1⟩
  · have HSm := hide hsm
    have HI : Hid (∀ (W : World) (y : DE), RdDef W y → y.pl = x.pl → (∀ r ∈ y.R, r.nP ≤ r.cP) → Tab W → Wrd W → Calls Tryz.prog 7 #[.agg #[.string y.nm, .slice y.aR y.nR y.cR]] W fun e w' => e = .returned (.string (defT x)) ∧ Below W.heap.size W w') := fun W y h e hc ht hw => by
      rw [← defT_pl e hr.nr h.nr]; exact implDefText_any y W h (DE.small_of HSm.out e) hc ht hw
    have HSp : Hid (∀ (W : World) (y : DE), RdDef W y → y.pl = x.pl → Calls Tryz.prog 5 #[.agg #[.string y.nm, .slice y.aR y.nR y.cR]] W fun e w' => e = .returned (.string (defT x)) ∧ Below W.heap.size W w') := fun W y h e => by
      rw [← defT_pl e hr.nr h.nr]; exact specDefText_any y W h (DE.small_of HSm.out e)
    generalize defT x = tx at HI HSp
    have hnn : (tx.toList == tx.toList) = true := by simp
    clear hr3 hsm
    have a0 := boxk_cell HA.out 0 _ rfl
    have a1 := boxk_cell HA.out 1 _ rfl
    go_wp2_with fail
    refine (toDef_any x _ (hr.below hB1) HSm.out).mono ?_
    rintro e w2 ⟨y2, rfl, o2, e2, hb2⟩
    have HA2 := hide (box_step HA.out hb2)
    have hB2 : Below w.heap.size w w2 := hB1.trans (hb2.mono hB1.size)
    have hz2 := hb2.size
    have E2 := hide e2
    clear hb2 HA hB1 a0 a1 e2
    go_wp2_with fail
    refine (HSp.out _ y2 o2.rd E2.out).mono ?_
    rintro e w3 ⟨rfl, hb3⟩
    have HA3 := hide (box_step HA2.out hb3)
    have hB3 : Below w.heap.size w w3 := hB2.trans (hb3.mono hB2.size)
    have hz3 := hb3.size
    clear hb3 HA2 hB2 o2 E2
    have a0 := boxk_cell HA3.out 0 _ rfl
    have a1 := boxk_cell HA3.out 1 _ rfl
    go_wp2_with fail
    refine (toDef_any x _ (hr.below hB3) HSm.out).mono ?_
    rintro e w4 ⟨y4, rfl, o4, e4, hb4⟩
    have HA4 := hide (box_step HA3.out hb4)
    have hB4 : Below w.heap.size w w4 := hB3.trans (hb4.mono hB3.size)
    have hz4 := hb4.size
    have E4 := hide e4
    have HSm4 := hide (DE.small_of HSm.out e4)
    clear hb4 HA3 hB3 a0 a1 e4
    go_wp2_with fail
    have b5 := below_al w4 (.cells #[.string y4.nm, .slice y4.aR y4.nR y4.cR] 29)
    have o5 := o4.later b5
    have HA5 := hide (box_step HA4.out b5)
    have HX5 := hide (boxk_new w4 #[.string y4.nm, .slice y4.aR y4.nR y4.cR] 29)
    have hB5 := hB4.trans (b5.mono hB4.size)
    have hz5 : w4.heap.size < (w4.alloc (.cells #[.string y4.nm, .slice y4.aR y4.nR y4.cR] 29)).heap.size := by simp
    clear o4 HA4 hB4 b5
    refine (HI.out _ y4 o5.rd E4.out o5.caps (HTab.out.later hB5 (Nat.le_refl _)) (HWd.out.later hB5)).mono ?_
    generalize w4.alloc (.cells #[.string y4.nm, .slice y4.aR y4.nR y4.cR] 29) = w5 at o5 HA5 HX5 hB5 hz5
    rintro e w6 ⟨rfl, hb6⟩
    have HA6 := hide (box_step HA5.out hb6)
    have HX6 := hide (box_step HX5.out hb6)
    have o6 := o5.later hb6
    have hB6 : Below w.heap.size w w6 := hB5.trans (hb6.mono hB5.size)
    have hz6 := hb6.size
    clear hb6 HA5 HX5 hB5 o5
    have a0 := boxk_cell HA6.out 0 _ rfl
    have a1 := boxk_cell HA6.out 1 _ rfl
    have x0 := boxk_cell HX6.out 0 _ rfl
    have x1 := boxk_cell HX6.out 1 _ rfl
    have T6 : TwoDf w w.heap.size x y4 w6 := ⟨hr.below hB6, o6.rd, hB6, hB6.size⟩
    clear HA6 HX6 o6 hB6
    go_wp2_with fail
    go_region_held3 (fun W => W.cell? ⟨w.heap.size, 0, none⟩ = some (.string x.nm) ∧ W.cell? ⟨w.heap.size, 1, none⟩ = some (.slice x.aR x.nR x.cR) ∧ W.cell? ⟨w4.heap.size, 0, none⟩ = some (.string y4.nm) ∧ W.cell? ⟨w4.heap.size, 1, none⟩ = some (.slice y4.aR y4.nR y4.cR) ∧ TwoDf w w.heap.size x y4 W) (first | exact ⟨a0, a1, x0, x1, T6.drew⟩ | exact keepDf (by assumption) (by assumption))
      (first | (go_at_call 6; refine (toDef_any x _ (rdDA (by assumption)) HSm.out).mono ?_; rintro e w8 ⟨y8, rfl, o8, e8, hb8⟩) | (go_at_call 8; refine (eqDef_same y4 y8 _ (rdDB (by assumption)) o8.rd (E4.out.trans e8.symm) HSm4.out).mono ?_; rintro e w9 ⟨rfl, hb9⟩))
    all_goals
      obtain ⟨-, -, -, -, T8⟩ : w9.cell? ⟨w.heap.size, 0, none⟩ = some (.string x.nm) ∧ w9.cell? ⟨w.heap.size, 1, none⟩ = some (.slice x.aR x.nR x.cR) ∧ w9.cell? ⟨w4.heap.size, 0, none⟩ = some (.string y4.nm) ∧ w9.cell? ⟨w4.heap.size, 1, none⟩ = some (.slice y4.aR y4.nR y4.cR) ∧ TwoDf w w.heap.size x y4 w9 := by assumption
      go_wp2
      go_ret
      exact ⟨rfl, T8.2.2.1⟩

theorem own : ownKnob Tryz.prog.godebug = none := by kernel_rfl
theorem laidOut : laidOutB Tryz.prog = true := by kernel_rfl

theorem door_met (os : Os) (args : Array Value) : laidMetH Tryz.prog Rows.fnExactDefTextRow.laid ((World.doorLaid Tryz.prog 400 os).forCall (fun _ _ => 0) ⟨#[], args, []⟩).memory :=
  laidMetH_of_parts3 (fuel := 8) (laidMet_of_run' 8 (by kernel_rfl) (by kernel_rfl)) (by kernel_rfl) (by kernel_rfl)
theorem laid_plain {W : World} (h : laidMetH Tryz.prog Rows.fnExactDefTextRow.laid W) : laidMet Tryz.prog Rows.fnExactDefTextRow.laid W := by
  rw [MakeChecks.laidMetH_plain _ _ _ (by kernel_rfl)] at h
  exact h

set_option maxRecDepth 100000 in
theorem lifted (os : Os) (started : os.Started) (H : Type) (enc : TypeId × Value → H) :
    ReturnsInHanded {} Tryz.checked os 3 .any (fun w args => (Rows.fnExactDefTextSpec.pre enc Tryz.prog Tryz.f3 [] false w args ∧ laidMetH Tryz.prog Rows.fnExactDefTextRow.laid w) ∧ sizedMet enc Tryz.prog Tryz.f3 (OpenSpec.ofChange Rows.fnExactDefTextSpec) false w args)
      (Rows.fnExactDefTextSpec.post enc Tryz.prog Tryz.f3 false true false false) := by
  refine returnsInHanded_of_change_and (C := Tryz.checked) (X := fun w _ => laidMetH Tryz.prog Rows.fnExactDefTextRow.laid w) (fun _ _ _ hh h => h.of_heap hh) own started (by kernel_rfl) Tryz.func3
    (ChangeSpec.witness_shaped (enc := enc) (C := Tryz.checked) (os := os) (X := fun w _ => laidMetH Tryz.prog Rows.fnExactDefTextRow.laid w) false (World.doorLaid Tryz.prog 400 os) #[.agg #[.string ByteArray.empty, .slice none 0 0]] 8 rfl (World.shaped_of_RefB (by kernel_rfl) (by kernel_rfl)) (by kernel_rfl) (by kernel_rfl) (by kernel_rfl) (door_met os _)) ?_
  intro W base args ds gs before hval0 hW _ _ hL _
  have hval : ∀ (j : Nat) t v, Tryz.f3.params[j]? = some t → args[j]? = some v → Value.okWide Tryz.prog W .any base t v := hval0
  have hW' := hW
  obtain ⟨p, q, hA0, hV, rfl, hfz, hnd⟩ := hW
  have hA : DataW.TrodAll enc Tryz.prog W 0 (fun _ => true) true Tryz.f3.params.toList args.toList ds p := hA0
  rw [Tryz.params3] at hA hval
  obtain ⟨v0, vs0, d0, ds0, p0, q0, hargs, rfl, rfl, h0, r0⟩ := trodAll_cons hA
  obtain ⟨rfl, rfl, rfl⟩ := trodAll_nil r0
  obtain rfl : args = #[v0] := by cases args; simp_all
  have hV2 := hV
  obtain ⟨gg, tt, cs0, ff, gd, pp, rfl, -⟩ := trodVars_one hV
  have k0 := h0
  have lt0 : ∀ x ∈ p0, x.block < W.heap.size := by obtain ⟨m, hm⟩ := k0; exact DataW.trod_lt m _ _ _ hm
  obtain ⟨X0, rfl, hR0, w0⟩ := def_in (hval 0 24 v0 rfl rfl) h0
  clear hA0 hval0
  refine (walk X0 W hR0 w0 (tab_of (laid_plain hL))).mono fun e W' ⟨he, bel⟩ => ?_
  subst he
  exact ⟨_, rfl, _, _, _, [], _, q, hW', trodAll_mk1 (shut_bool Tryz.underlying4 _), (trodAll_cons_mk (Below.trod laidOut (by kernel_rfl) (of_decide_eq_true (by kernel_rfl)) k0 bel lt0) trodAll_mk0), bel.trodVars laidOut (by kernel_rfl) hV2, bel.frame _, fun h => by cases h⟩

set_option maxRecDepth 100000 in
theorem over : Rows.fnExactDefTextRow.holds Tryz.pinned (OpenSpec.ofChange Rows.fnExactDefTextSpec) :=
  OpenClaim.holds_of_wide 3 Tryz.f3 rfl rfl rfl rfl rfl rfl rfl ⟨rfl, rfl, rfl, rfl, rfl⟩ rfl rfl rfl rfl rfl (by kernel_rfl) Tryz.func3 (by kernel_rfl)
    (of_decide_eq_true (by kernel_rfl)) (by unfold Func.isWrapper; first | (rw [if_pos (by decide +kernel)]; kernel_rfl) | (rw [if_neg (by decide +kernel)]; exact ⟨rfl, rfl⟩))
    (fun os started H enc _ => lifted os started H enc)

set_option maxRecDepth 100000 in
theorem card_over : Rows.FnExactDefTextCardSaid :=
  Claim7.holds_tied_plain_at .later [] [.data, .data, .data, .data] true Rows.fnExactDefTextCard.stood.harness true
    over (fun _ h => by cases h) (by kernel_rfl) (fun _ h => by cases h) fnExactDefText_row_tie rfl ⟨rfl, rfl⟩ (by kernel_rfl) rfl
    (fun f fn hf hfn => by
      obtain rfl : f = 3 := Option.some.inj ((show Tryz.prog.funcNamed "loop.example/g00282/laws.FnExactDefText" = some 3 by kernel_rfl).symm.trans hf) |>.symm
      obtain rfl : fn = Tryz.f3 := (Option.some.inj (Tryz.func3.symm.trans hfn)).symm
      exact ⟨by kernel_rfl, fun j t ht => by
        rw [Tryz.params3] at ht
        have hm : t ∈ [24] := by simpa using Array.mem_of_getElem? ht
        have hall : ([24].all fun u => !Tryz.prog.wantsStandIn u) = true := by kernel_rfl
        exact (show Tryz.prog.wantsStandIn t = false by simpa using List.all_eq_true.1 hall t hm)⟩)
    (by kernel_rfl)
end Go.Proofs.YtcfhpcbkdpgboaaGreatDoor.CardDefText
namespace Go.Proofs.YtcfhpcbkdpgboaaGreatDoor
theorem fnExactDefTextCard_holds : Rows.FnExactDefTextCardSaid := CardDefText.card_over
#print axioms fnExactDefTextCard_holds
end Go.Proofs.YtcfhpcbkdpgboaaGreatDoor
