/-
  Proved: the row on JoinTokens (for every list of tokens the law answers true, and the list reads as it did, where the library's tables read as listed), and its tied card (what is listed is what the program's own text lays).
-/
import Derived.Test.YtfgcflfnpeapaaaDoorJoinI
import Derived.Test.YtfgcflfnpeapaaaDoorJoinS
import Derived.Test.YtfgcflfnpeapaaaDoorTkLaw
import Derived.Test.YtfgcflfnpeapaaaDoorTkOwn
import Derived.Test.YtfgcflfnpeapaaaDoorTkArg
import Derived.Test.YtfgcflfnpeapaaaDoorCardTab
namespace Go.Proofs.YtfgcflfnpeapaaaDoor.CardJoin
open Go.ChangeShapes Go.WideShapes Go.ChangeAt Go.RowKit Go.Joins
open Go.ChangeMaps (open_string shut_string)
set_option linter.unusedVariables false
set_option maxRecDepth 100000

theorem tab_of {r : List (String × DataW Unit)} {a b : String × DataW Unit} {W : World} (h : laidMet Tryd.prog (a :: b :: ("internal/strconv.uint64pow10", Rows.laid_internal_strconv_uint64pow10) :: r) W) : Tab W := tabs_of h

set_option maxRecDepth 100000 in
set_option maxHeartbeats 3200000 in
theorem walk (a : Option Addr) (len cap : Nat) (L : List V3) (w : World) (hI : Tk.IsVals w a len cap L) (ht : Tab w) :
    Calls Tryd.prog 4 #[.slice a len cap] w fun e w' => e = .returned (.bool true) ∧ Below w.heap.size w w' := by
  obtain ⟨rfl, hm, hr, hs⟩ := hI
  have HT := hide ht
  clear ht
  go_enter Tryd.func4, Tryd.ntmps4
  go_wp2_with fail
  refine (Tk.szTokenS_any a cap L 1048576 _ hr hs hm (by omega) (by omega)).mono ?_
  rintro e w1 ⟨⟨r, rfl, hr1⟩, hb1⟩
  rcases hr1 with rfl | ⟨hr2, hr3⟩
  · go_wp2
    go_ret
    exact ⟨rfl, hb1⟩
  have hn : L.length ≤ 1048576 := by
    have : (L.length : Int) ≤ (Tk.szL L : Int) := by unfold Tk.szL; omega
    omega
  have h5 : ¬ (r < 0) := by omega
  clear hr3
  go_wp2_with fail
  refine (Tk.toTokenS_at a cap L _ (hr.below hb1) hn).mono ?_
  rintro e w2 ⟨rfl, ho2, hb2⟩
  have o2 := Tk.OwnV.of ho2
  have B2 : Below w.heap.size w w2 := hb1.trans (hb2.mono hb1.size)
  clear ho2 hb2 hb1
  go_wp2_with fail
  refine (specJoin_any _ _ L _ o2.rd hs (by omega)).mono ?_
  rintro e w3 ⟨rfl, hb3⟩
  have B3 : Below w.heap.size w w3 := B2.trans (hb3.mono B2.size)
  clear hb3 B2 o2
  go_wp2_with fail
  refine (Tk.toTokenS_at a cap L _ (hr.below B3) hn).mono ?_
  rintro e w4 ⟨rfl, ho4, hb4⟩
  have o4 := Tk.OwnV.of ho4
  have B4 : Below w.heap.size w w4 := B3.trans (hb4.mono B3.size)
  clear ho4 hb4 B3
  go_wp2_with fail
  refine (implJoin_any _ _ L _ o4.rd hs (by omega) (HT.out.later B4 (Nat.le_refl _))).mono ?_
  rintro e w5 ⟨rfl, hb5⟩
  have o5 := o4.later hb5
  have B5 : Below w.heap.size w w5 := B4.trans (hb5.mono B4.size)
  clear hb5 B4 o4
  generalize (⟨(joinT L L.length).toArray⟩ : ByteArray) = tx
  have e1 : (tx.toList == tx.toList) = true := by simp
  go_wp2_with fail
  refine (Tk.toTokenS_at a cap L _ (hr.below B5) hn).mono ?_
  rintro e w6 ⟨rfl, ho6, hb6⟩
  have o6 := Tk.OwnV.of ho6
  have o56 := o5.later hb6
  have B6 : Below w.heap.size w w6 := B5.trans (hb6.mono B5.size)
  clear ho6 hb6 B5 o5
  go_wp2_with fail
  refine (Tk.eqTokenS_same _ _ _ _ L _ o56.rd o6.rd (by omega)).mono ?_
  rintro e w7 ⟨rfl, hb7⟩
  have B7 : Below w.heap.size w w7 := B6.trans (hb7.mono B6.size)
  go_wp2
  go_ret
  exact ⟨rfl, B7⟩

theorem own : ownKnob Tryd.prog.godebug = none := by kernel_rfl
theorem laidOut : laidOutB Tryd.prog = true := by kernel_rfl

theorem door_met (os : Os) (args : Array Value) : laidMetH Tryd.prog Rows.fnExactJoinTokensRow.laid ((World.doorLaid Tryd.prog 400 os).forCall (fun _ _ => 0) ⟨#[], args, []⟩).memory :=
  laidMetH_of_parts3 (fuel := 8) (laidMet_of_run' 8 (by kernel_rfl) (by kernel_rfl)) (by kernel_rfl) (by kernel_rfl)
theorem laid_plain {W : World} (h : laidMetH Tryd.prog Rows.fnExactJoinTokensRow.laid W) : laidMet Tryd.prog Rows.fnExactJoinTokensRow.laid W := by
  rw [MakeChecks.laidMetH_plain _ _ _ (by kernel_rfl)] at h
  exact h

set_option maxRecDepth 100000 in
theorem lifted (os : Os) (started : os.Started) (H : Type) (enc : TypeId × Value → H) :
    ReturnsInHanded {} Tryd.checked os 4 .any (fun w args => (Rows.fnExactJoinTokensSpec.pre enc Tryd.prog Tryd.f4 [] false w args ∧ laidMetH Tryd.prog Rows.fnExactJoinTokensRow.laid w) ∧ sizedMet enc Tryd.prog Tryd.f4 (OpenSpec.ofChange Rows.fnExactJoinTokensSpec) false w args)
      (Rows.fnExactJoinTokensSpec.post enc Tryd.prog Tryd.f4 false true false false) := by
  refine returnsInHanded_of_change_and (C := Tryd.checked) (X := fun w _ => laidMetH Tryd.prog Rows.fnExactJoinTokensRow.laid w) (fun _ _ _ hh h => h.of_heap hh) own started (by kernel_rfl) Tryd.func4
    (ChangeSpec.witness_shaped (enc := enc) (C := Tryd.checked) (os := os) (X := fun w _ => laidMetH Tryd.prog Rows.fnExactJoinTokensRow.laid w) false (World.doorLaid Tryd.prog 400 os) #[.slice none 0 0] 8 rfl (World.shaped_of_RefB (by kernel_rfl) (by kernel_rfl)) (by kernel_rfl) (by kernel_rfl) (by kernel_rfl) (door_met os _)) ?_
  intro W base args ds gs before hval0 hW _ _ hL _
  have hval : ∀ (j : Nat) t v, Tryd.f4.params[j]? = some t → args[j]? = some v → Value.okWide Tryd.prog W .any base t v := hval0
  have hW' := hW
  obtain ⟨p, q, hA0, hV, rfl, hfz, hnd⟩ := hW
  have hA : DataW.TrodAll enc Tryd.prog W 0 (fun _ => true) true Tryd.f4.params.toList args.toList ds p := hA0
  rw [Tryd.params4] at hA hval
  obtain ⟨v0, vs0, d0, ds0, p0, q0, hargs, rfl, rfl, h0, r0⟩ := trodAll_cons hA
  obtain ⟨rfl, rfl, rfl⟩ := trodAll_nil r0
  obtain rfl : args = #[v0] := by cases args; simp_all
  obtain ⟨rfl, rfl⟩ := trodVars_none hV
  obtain ⟨a0, len0, cap0, rfl⟩ := okWide_slice Tryd.underlying29 (hval 0 29 v0 rfl rfl)
  have k0 := h0
  have lt0 : ∀ x ∈ p0, x.block < W.heap.size := by obtain ⟨m, hm⟩ := k0; exact DataW.trod_lt m _ _ _ hm
  obtain ⟨b0, m0, c0, L0, e0, w0⟩ : ∃ a len cap L, Value.slice a0 len0 cap0 = .slice a len cap ∧ Tk.IsVals W a len cap L := by
    obtain ⟨fuel, hf⟩ := h0
    exact Tk.vals_in hf
  rw [e0] at hW' ⊢
  clear hA0 hval0
  refine (walk b0 m0 c0 L0 W w0 (tab_of (laid_plain hL))).mono fun e W' ⟨he, bel⟩ => ?_
  subst he
  exact ⟨_, rfl, _, _, _, [], _, [], hW', trodAll_mk1 (shut_bool Tryd.underlying4 _), (trodAll_cons_mk (by rw [← e0]; exact Below.trod laidOut (by kernel_rfl) (of_decide_eq_true (by kernel_rfl)) k0 bel lt0) trodAll_mk0), rfl, bel.frame _, fun h => by cases h⟩

set_option maxRecDepth 100000 in
theorem over : Rows.fnExactJoinTokensRow.holds Tryd.pinned (OpenSpec.ofChange Rows.fnExactJoinTokensSpec) :=
  OpenClaim.holds_of_wide 4 Tryd.f4 rfl rfl rfl rfl rfl rfl rfl ⟨rfl, rfl, rfl, rfl, rfl⟩ rfl rfl rfl rfl rfl (by kernel_rfl) Tryd.func4 (by kernel_rfl)
    (of_decide_eq_true (by kernel_rfl)) (by unfold Func.isWrapper; first | (rw [if_pos (by decide +kernel)]; kernel_rfl) | (rw [if_neg (by decide +kernel)]; exact ⟨rfl, rfl⟩))
    (fun os started H enc _ => lifted os started H enc)

set_option maxRecDepth 100000 in
theorem card_over : Rows.FnExactJoinTokensCardSaid :=
  Claim7.holds_tied_plain_at .later [] [.data, .data, .data] true Rows.fnExactJoinTokensCard.stood.harness true
    over (fun _ h => by cases h) (by kernel_rfl) (fun _ h => by cases h) fnExactJoinTokens_row_tie rfl ⟨rfl, rfl⟩ (by kernel_rfl) rfl
    (fun f fn hf hfn => by
      obtain rfl : f = 4 := Option.some.inj ((show Tryd.prog.funcNamed "loop.example/g00282/laws.FnExactJoinTokens" = some 4 by kernel_rfl).symm.trans hf) |>.symm
      obtain rfl : fn = Tryd.f4 := (Option.some.inj (Tryd.func4.symm.trans hfn)).symm
      exact ⟨by kernel_rfl, fun j t ht => by
        rw [Tryd.params4] at ht
        have hm : t ∈ [29] := by simpa using Array.mem_of_getElem? ht
        have hall : ([29].all fun u => !Tryd.prog.wantsStandIn u) = true := by kernel_rfl
        exact (show Tryd.prog.wantsStandIn t = false by simpa using List.all_eq_true.1 hall t hm)⟩)
    (by kernel_rfl)
end Go.Proofs.YtfgcflfnpeapaaaDoor.CardJoin
namespace Go.Proofs.YtfgcflfnpeapaaaDoor
theorem fnExactJoinTokensCard_holds : Rows.FnExactJoinTokensCardSaid := CardJoin.card_over
#print axioms fnExactJoinTokensCard_holds
end Go.Proofs.YtfgcflfnpeapaaaDoor
