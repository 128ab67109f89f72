/-
  Proved: the row on PatText (for every pattern the law answers true, and the pattern reads as it did, where the library's tables read as listed), and its tied card (what is listed is what the program's own text lays).
-/
import Derived.Test.YtaflokfgbmlmaacDoorPatTI
import Derived.Test.YtaflokfgbmlmaacDoorKeepP
import Derived.Test.YtaflokfgbmlmaacDoorRows
import Derived.Test.YtaflokfgbmlmaacDoorCards
import Derived.Test.YtaflokfgbmlmaacDoorTie
import Derived.ProofKit
import Derived.LaidMore
import Derived.OpenShut
import Derived.ShutString
import Derived.ChangeOld
import Derived.Below
import Derived.Stop.Joined
import Derived.Stop.LaidErr
import Derived.Lib.LaidTab
import Derived.SevenTiedAt
import Derived.Lib.SmallJoins
import Derived.Deep.RegionHeld3
namespace Go.Proofs.YtaflokfgbmlmaacDoor.CardPatText
open Go.ChangeShapes Go.WideShapes Go.ChangeAt Go.RowKit Go.Joins
open Go.ChangeMaps (open_string shut_string)
set_option linter.unusedVariables false
set_option maxRecDepth 100000

theorem gT : Tryd.prog.globalNamed "internal/strconv.uint64pow10" = some 1 := by kernel_rfl
theorem gTType : (Tryd.prog.globals[1]?).map (·.type) = some 175 := by kernel_rfl
theorem tab_of {r : List (String × DataW Unit)} {a b : String × DataW Unit} {W : World} (h : laidMet Tryd.prog (a :: b :: ("internal/strconv.uint64pow10", Rows.laid_internal_strconv_uint64pow10) :: r) W) : Tab W :=
  Lib.tabIs_of_head (zs := Lib.pow10Tab) (rest := r) gT gTType Tryd.underlying175 Tryd.underlying158 (by kernel_rfl) (by kernel_rfl) h.tail.tail

set_option maxRecDepth 100000 in
set_option maxHeartbeats 3200000 in
theorem walk (kd : ByteArray) (a : Option Addr) (len cap : Nat) (L : List A5) (nt : Bool) (w : World) (hkd : kd.size ≤ maxLen) (hv : IsArgs w a len cap L) (ht : Tab w) :
    Calls Tryd.prog 5 #[.agg #[.string kd, .slice a len cap, .bool nt]] w fun e w' => e = .returned (.bool true) ∧ Below w.heap.size w w' := by
  obtain ⟨rfl, hm, hr, hs⟩ := hv
  have HTab := hide ht
  clear ht
  go_enter Tryd.func5, Tryd.ntmps5
  go_wp2_with fail
  have b0 := below_al w (.cells #[.string kd, .slice a L.length cap, .bool nt] 48)
  have hA := boxk_new w #[.string kd, .slice a L.length cap, .bool nt] 48
  refine (szPat_any kd a cap L nt 1048576 _ hkd (hr.below b0) hs hm (by omega) (by omega)).mono ?_
  rintro e w1 ⟨⟨r, rfl, hr1⟩, hb1⟩
  have HA := hide (box_below hA hb1 (by simp))
  have hB1 : Below w.heap.size w w1 := b0.trans (hb1.mono b0.size)
  clear hb1 b0 hA
  rcases hr1 with rfl | ⟨hr2, hr3, hsm⟩
  · go_wp2
    go_ret
    exact ⟨rfl, hB1⟩
  · have hn : L.length ≤ 1048576 := by omega
    clear hr3 hsm
    obtain ⟨a0, a1, a2, -, -, -⟩ := box_cell HA.out
    go_wp2_with fail
    refine (toPat_any kd a cap L nt _ (hr.below hB1) hn).mono ?_
    rintro e w2 ⟨g2, rfl, hg2, o2, hb2⟩
    have HA2 := hide (box_step HA.out hb2)
    have hB2 : Below w.heap.size w w2 := hB1.trans (hb2.mono hB1.size)
    clear hb2 HA hB1 a0 a1 a2
    go_wp2_with fail
    refine (specPatText_any kd _ _ L nt _ hkd (rdOwnArg o2) hs (by omega)).mono ?_
    rintro e w3 ⟨rfl, hb3⟩
    have HA3 := hide (box_step HA2.out hb3)
    have hB3 : Below w.heap.size w w3 := hB2.trans (hb3.mono hB2.size)
    clear hb3 HA2 hB2 o2
    obtain ⟨a0, a1, a2, -, -, -⟩ := box_cell HA3.out
    go_wp2_with fail
    refine (toPat_any kd a cap L nt _ (hr.below hB3) hn).mono ?_
    rintro e w4 ⟨g4, rfl, hg4, o4, hb4⟩
    have HA4 := hide (box_step HA3.out hb4)
    have hB4 : Below w.heap.size w w4 := hB3.trans (hb4.mono hB3.size)
    clear hb4 HA3 hB3 a0 a1 a2
    go_wp2_with fail
    have b5 := below_al w4 (.cells #[.string kd, .slice (some ⟨g4, 0, none⟩) L.length L.length, .bool nt] 53)
    have o5 := o4.later b5
    have HA5 := hide (box_step HA4.out b5)
    have HX5 := hide (boxk_new w4 #[.string kd, .slice (some ⟨g4, 0, none⟩) L.length L.length, .bool nt] 53)
    have hB5 := hB4.trans (b5.mono hB4.size)
    refine (implPatText_any kd _ _ L nt _ hkd (rdOwnArg o5) hs (by omega) (HTab.out.later hB5 (Nat.le_refl _))).mono ?_
    rintro e w6 ⟨rfl, hb6⟩
    have HA6 := hide (box_step HA5.out hb6)
    have HX6 := hide (box_step HX5.out hb6)
    have o6 := o5.later hb6
    have hB6 : Below w.heap.size w w6 := hB5.trans (hb6.mono hB5.size)
    clear hb6 HA5 HX5 hB5 HA4 hB4 b5 o5 o4
    obtain ⟨a0, a1, a2, -, -, -⟩ := box_cell HA6.out
    obtain ⟨x0, x1, x2, -, -, -⟩ := box_cell HX6.out
    generalize patT kd L nt = tx
    have e1 : (tx.toList == tx.toList) = true := by simp
    have T6 : TwoA w w.heap.size a (some ⟨g4, 0, none⟩) L w6 := ⟨hr.below hB6, rdOwnArg o6, hB6, hB6.size⟩
    clear HA6 HX6 o6 hB6
    go_wp2_with fail
    go_region_held3 (fun W => W.cell? ⟨w.heap.size, 0, none⟩ = some (.string kd) ∧ W.cell? ⟨w.heap.size, 1, none⟩ = some (.slice a L.length cap) ∧ W.cell? ⟨w.heap.size, 2, none⟩ = some (.bool nt) ∧ W.cell? ⟨w4.heap.size, 0, none⟩ = some (.string kd) ∧ W.cell? ⟨w4.heap.size, 1, none⟩ = some (.slice (some ⟨g4, 0, none⟩) L.length L.length) ∧ W.cell? ⟨w4.heap.size, 2, none⟩ = some (.bool nt) ∧ TwoA w w.heap.size a (some ⟨g4, 0, none⟩) L W) (first | exact ⟨a0, a1, a2, x0, x1, x2, T6.drew⟩ | exact keepP (by assumption) (by assumption))
      (first | (go_at_call 22; refine (toPat_any _ _ _ _ _ _ (rdPA (by assumption)) hn).mono ?_; rintro e w7 ⟨g7, rfl, hg7, o7, hb7⟩) | (go_at_call 24; refine (eqPat_same _ _ _ _ _ _ _ _ (rdPB (by assumption)) (rdOwnArg o7) (by omega)).mono ?_; rintro e w8 ⟨rfl, hb8⟩))
    obtain ⟨-, -, -, -, -, -, T8⟩ : w8.cell? ⟨w.heap.size, 0, none⟩ = some (.string kd) ∧ w8.cell? ⟨w.heap.size, 1, none⟩ = some (.slice a L.length cap) ∧ w8.cell? ⟨w.heap.size, 2, none⟩ = some (.bool nt) ∧ w8.cell? ⟨w4.heap.size, 0, none⟩ = some (.string kd) ∧ w8.cell? ⟨w4.heap.size, 1, none⟩ = some (.slice (some ⟨g4, 0, none⟩) L.length L.length) ∧ w8.cell? ⟨w4.heap.size, 2, none⟩ = some (.bool nt) ∧ TwoA w w.heap.size a (some ⟨g4, 0, none⟩) L w8 := by assumption
    go_wp2
    go_ret
    exact ⟨rfl, T8.2.2.1⟩

theorem own : ownKnob Tryd.prog.godebug = none := by kernel_rfl
theorem laidOut : laidOutB Tryd.prog = true := by kernel_rfl

theorem door_met (os : Os) (args : Array Value) : laidMetH Tryd.prog Rows.fnExactPatTextRow.laid ((World.doorLaid Tryd.prog 400 os).forCall (fun _ _ => 0) ⟨#[], args, []⟩).memory :=
  laidMetH_of_parts3 (fuel := 8) (laidMet_of_run' 8 (by kernel_rfl) (by kernel_rfl)) (by kernel_rfl) (by kernel_rfl)
theorem laid_plain {W : World} (h : laidMetH Tryd.prog Rows.fnExactPatTextRow.laid W) : laidMet Tryd.prog Rows.fnExactPatTextRow.laid W := by
  rw [MakeChecks.laidMetH_plain _ _ _ (by kernel_rfl)] at h
  exact h

set_option maxRecDepth 100000 in
theorem lifted (os : Os) (started : os.Started) (H : Type) (enc : TypeId × Value → H) :
    ReturnsInHanded {} Tryd.checked os 5 .any (fun w args => (Rows.fnExactPatTextSpec.pre enc Tryd.prog Tryd.f5 [] false w args ∧ laidMetH Tryd.prog Rows.fnExactPatTextRow.laid w) ∧ sizedMet enc Tryd.prog Tryd.f5 (OpenSpec.ofChange Rows.fnExactPatTextSpec) false w args)
      (Rows.fnExactPatTextSpec.post enc Tryd.prog Tryd.f5 false true false false) := by
  refine returnsInHanded_of_change_and (C := Tryd.checked) (X := fun w _ => laidMetH Tryd.prog Rows.fnExactPatTextRow.laid w) (fun _ _ _ hh h => h.of_heap hh) own started (by kernel_rfl) Tryd.func5
    (ChangeSpec.witness_shaped (enc := enc) (C := Tryd.checked) (os := os) (X := fun w _ => laidMetH Tryd.prog Rows.fnExactPatTextRow.laid w) false (World.doorLaid Tryd.prog 400 os) #[.agg #[.string ByteArray.empty, .slice none 0 0, .bool false]] 8 rfl (World.shaped_of_RefB (by kernel_rfl) (by kernel_rfl)) (by kernel_rfl) (by kernel_rfl) (by kernel_rfl) (door_met os _)) ?_
  intro W base args ds gs before hval0 hW _ _ hL _
  have hval : ∀ (j : Nat) t v, Tryd.f5.params[j]? = some t → args[j]? = some v → Value.okWide Tryd.prog W .any base t v := hval0
  have hW' := hW
  obtain ⟨p, q, hA0, hV, rfl, hfz, hnd⟩ := hW
  have hA : DataW.TrodAll enc Tryd.prog W 0 (fun _ => true) true Tryd.f5.params.toList args.toList ds p := hA0
  rw [Tryd.params5] at hA hval
  obtain ⟨v0, vs0, d0, ds0, p0, q0, hargs, rfl, rfl, h0, r0⟩ := trodAll_cons hA
  obtain ⟨rfl, rfl, rfl⟩ := trodAll_nil r0
  obtain rfl : args = #[v0] := by cases args; simp_all
  obtain ⟨rfl, rfl⟩ := trodVars_none hV
  have k0 := h0
  have lt0 : ∀ x ∈ p0, x.block < W.heap.size := by obtain ⟨m, hm⟩ := k0; exact DataW.trod_lt m _ _ _ hm
  obtain ⟨c0a, c0b, c0c, y0a, y0b, y0c, m0, rfl, _, _, hy0a, hy0b, hy0c⟩ := open_agg3 Tryd.underlying48 (by kernel_rfl) (by kernel_rfl) (hval 0 48 v0 rfl rfl) h0
  obtain ⟨S0, eS0, _, wS0⟩ := DataW.trod_string Tryd.underlying9 hy0a
  obtain ⟨B0, eB0, _⟩ := DataW.trod_bool Tryd.underlying4 hy0c
  simp only [List.cons.injEq, and_true] at eS0 eB0
  subst eS0 eB0
  obtain ⟨a0, len0, cap0, L0, rfl, w0⟩ := args_in hy0b
  clear hA0 hval0
  refine (walk S0 a0 len0 cap0 L0 B0 W wS0 w0 (tab_of (laid_plain hL))).mono fun e W' ⟨he, bel⟩ => ?_
  subst he
  exact ⟨_, rfl, _, _, _, [], _, [], hW', trodAll_mk1 (shut_bool Tryd.underlying4 _), (trodAll_cons_mk (Below.trod laidOut (by kernel_rfl) (of_decide_eq_true (by kernel_rfl)) k0 bel lt0) trodAll_mk0), rfl, bel.frame _, fun h => by cases h⟩

set_option maxRecDepth 100000 in
theorem over : Rows.fnExactPatTextRow.holds Tryd.pinned (OpenSpec.ofChange Rows.fnExactPatTextSpec) :=
  OpenClaim.holds_of_wide 5 Tryd.f5 rfl rfl rfl rfl rfl rfl rfl ⟨rfl, rfl, rfl, rfl, rfl⟩ rfl rfl rfl rfl rfl (by kernel_rfl) Tryd.func5 (by kernel_rfl)
    (of_decide_eq_true (by kernel_rfl)) (by unfold Func.isWrapper; first | (rw [if_pos (by decide +kernel)]; kernel_rfl) | (rw [if_neg (by decide +kernel)]; exact ⟨rfl, rfl⟩))
    (fun os started H enc _ => lifted os started H enc)

set_option maxRecDepth 100000 in
theorem card_over : Rows.FnExactPatTextCardSaid :=
  Claim7.holds_tied_plain_at .later [] [.data, .data, .data] true Rows.fnExactPatTextCard.stood.harness true
    over (fun _ h => by cases h) (by kernel_rfl) (fun _ h => by cases h) fnExactPatText_row_tie rfl ⟨rfl, rfl⟩ (by kernel_rfl) rfl
    (fun f fn hf hfn => by
      obtain rfl : f = 5 := Option.some.inj ((show Tryd.prog.funcNamed "loop.example/g00282/laws.FnExactPatText" = some 5 by kernel_rfl).symm.trans hf) |>.symm
      obtain rfl : fn = Tryd.f5 := (Option.some.inj (Tryd.func5.symm.trans hfn)).symm
      exact ⟨by kernel_rfl, fun j t ht => by
        rw [Tryd.params5] at ht
        have hm : t ∈ [48] := by simpa using Array.mem_of_getElem? ht
        have hall : ([48].all fun u => !Tryd.prog.wantsStandIn u) = true := by kernel_rfl
        exact (show Tryd.prog.wantsStandIn t = false by simpa using List.all_eq_true.1 hall t hm)⟩)
    (by kernel_rfl)
end Go.Proofs.YtaflokfgbmlmaacDoor.CardPatText
namespace Go.Proofs.YtaflokfgbmlmaacDoor
theorem fnExactPatTextCard_holds : Rows.FnExactPatTextCardSaid := CardPatText.card_over
#print axioms fnExactPatTextCard_holds
end Go.Proofs.YtaflokfgbmlmaacDoor
