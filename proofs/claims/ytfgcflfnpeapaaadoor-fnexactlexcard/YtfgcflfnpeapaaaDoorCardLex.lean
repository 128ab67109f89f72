/-
  Proved: the row on Lex (for every text the law answers true, and the text reads as it did, where the library's tables and errors read as listed), and its tied card (what is listed is what the program's own text lays).
-/
import Derived.Test.YtfgcflfnpeapaaaDoorLexA
import Derived.Test.YtfgcflfnpeapaaaDoorLexB
import Derived.Test.YtfgcflfnpeapaaaDoorTkLaw
import Derived.Test.YtfgcflfnpeapaaaDoorTkMark
import Derived.Test.YtfgcflfnpeapaaaDoorTkHeld
import Derived.Test.YtfgcflfnpeapaaaDoorCardTab
import Derived.Lay
namespace Go.Proofs.YtfgcflfnpeapaaaDoor.CardLex
open Go.ChangeShapes Go.WideShapes Go.ChangeAt Go.RowKit Go.Joins
open Go.ChangeMaps (open_string shut_string)
set_option linter.unusedVariables false
set_option maxRecDepth 100000

theorem gES : Tryd.prog.globalNamed "strconv.ErrSyntax" = some 0 := by kernel_rfl
theorem gESType : (Tryd.prog.globals[0]?).map (·.type) = some 65 := by kernel_rfl
theorem gER : Tryd.prog.globalNamed "strconv.ErrRange" = some 1 := by kernel_rfl
theorem gERType : (Tryd.prog.globals[1]?).map (·.type) = some 65 := by kernel_rfl
theorem cellsES : Tryd.prog.cellsOf 122 = 1 := by kernel_rfl
theorem cellsStr : Tryd.prog.cellsOf 9 = 1 := by kernel_rfl
theorem star : "*" ++ "errors.errorString" = "*errors.errorString" := by decide
theorem rowES (u : TypeId) (h : Tryd.prog.typeName? 3 u = some "*errors.errorString") : u = 120 :=
  typeName_ptr_named (nm := "errors.errorString") (by rw [star]; kernel_rfl) (by kernel_rfl) (by decide) u (by rw [star]; exact h)
theorem tab_of {r : List (String × DataW Unit)} {a b : String × DataW Unit} {W : World} (h : laidMet Tryd.prog (a :: b :: ("internal/strconv.uint64pow10", Rows.laid_internal_strconv_uint64pow10) :: r) W) : Tab W := tabs_of h
theorem errs_of {r : List (String × DataW Unit)} {a b c d : String × DataW Unit} {W : World} (h : laidMet Tryd.prog (a :: b :: c :: d :: ("strconv.ErrRange", Rows.laid_strconv_ErrRange) :: ("strconv.ErrSyntax", Rows.laid_strconv_ErrSyntax) :: r) W) : Errs W := by
  have h3 := h.tail.tail.tail.tail
  obtain ⟨a0, s0, hv0, -, -, -⟩ := laid_sentinel h3 gER gERType Tryd.underlying65 rowES Tryd.underlying120 Tryd.underlying122 rfl rfl Tryd.underlying9 cellsES cellsStr
  obtain ⟨a1, s1, hv1, -, -, -⟩ := laid_sentinel h3.tail gES gESType Tryd.underlying65 rowES Tryd.underlying120 Tryd.underlying122 rfl rfl Tryd.underlying9 cellsES cellsStr
  exact ⟨⟨_, _, hv1⟩, ⟨_, _, hv0⟩⟩

set_option maxHeartbeats 1600000 in
theorem mark_zero (a : Option Addr) (cap : Nat) (w : World) :
    Calls Tryd.prog 18 #[.slice a 0 cap, .int .i64 1] w fun e w' => e = .returned (.int .i64 1) ∧ w' = w := by
  go_enter Tryd.func18, Tryd.ntmps18
  go_wp2
  go_rounds 1
  go_ret
  exact ⟨rfl, rfl⟩
/-- a row of tokens of the call's own is marked -/
theorem markRow (a : Option Addr) (cap B : Nat) (L : List V3) (w : World) (ho : w.ownsRow B 26 3 (.slice a L.length cap) L.length (cells3 L)) (hn : L.length ≤ 3000) (hB : B ≤ w.heap.size) :
    Calls Tryd.prog 18 #[.slice a L.length cap, .int .i64 1] w fun e w' =>
      (∃ r : Nat, e = .returned (.int .i64 (r : Int)) ∧ r = 1 + 3 * L.length) ∧ RdV w' a (Tk.marksV 1 L.length) ∧ Below B w w' := by
  by_cases hL : L = []
  · subst hL
    refine (mark_zero a cap w).mono ?_
    rintro e w' ⟨rfl, rfl⟩
    exact ⟨⟨1, rfl, rfl⟩, RdV.nil _ _, Below.refl _ _⟩
  · have hp : 0 < L.length := List.length_pos_iff.2 hL
    obtain ⟨g, c, e, hb, -⟩ := World.ownsRow.form ho hp
    simp only [Value.slice.injEq] at e
    obtain ⟨rfl, -, rfl⟩ := e
    refine (Tk.markTokenS_any g cap 1 L w (Tk.OwnV.of ho) (by omega) (by omega)).mono ?_
    rintro e w' ⟨rfl, h1, -, h3⟩
    exact ⟨⟨_, rfl, rfl⟩, h1.rd, h3.mono hb⟩

set_option maxRecDepth 100000 in
set_option maxHeartbeats 3200000 in
theorem walk (s : ByteArray) (w : World) (hsm : s.size ≤ maxLen) (ht : Tab w) (he : Errs w) :
    Calls Tryd.prog 5 #[.string s] w fun e w' => e = .returned (.bool true) ∧ Below w.heap.size w w' := by
  have hs2 := hsm
  unfold maxLen at hs2
  have HT := hide ht
  have HEr := hide he
  clear ht he
  by_cases hb : 1048576 < s.size
  · go_enter Tryd.func5, Tryd.ntmps5
    go_wp2
    go_ret
    exact ⟨rfl, Below.refl _ _⟩
  have hs : s.size ≤ 1048576 := by omega
  go_enter Tryd.func5, Tryd.ntmps5
  go_wp2_with fail
  refine (specLex_any s _ hs).mono ?_
  rintro e w2 ⟨⟨v0, p, L, rfl, ho0, hl0, hL⟩, hb2⟩
  obtain ⟨a0, c0, rfl, hr0, -, -, -⟩ := rdV_owns ho0
  have HL0 := hide hl0
  clear ho0 hl0
  go_wp2_with fail
  refine (implLex_any s _ hs (HT.out.later hb2 (Nat.le_refl _)) (HEr.out.later hb2 (Nat.le_refl _))).mono ?_
  rintro e w3 ⟨⟨v1, p1, L1, rfl, ho1, hl1, -⟩, hb3⟩
  rw [HL0.out] at hl1
  obtain ⟨rfl, rfl⟩ := Prod.mk.inj hl1
  obtain ⟨a1, c1, rfl, hr1, -, -, -⟩ := rdV_owns ho1
  have B3 : Below w.heap.size w w3 := hb2.trans (hb3.mono hb2.size)
  have hz3 : w2.heap.size ≤ w3.heap.size := hb3.size
  clear hl1
  have kp : (p != p) = false := by simp
  go_wp2_with fail
  refine (Tk.eqTokenS_same a1 a0 c1 c0 L _ hr1 (hr0.below hb3) (by omega)).mono ?_
  rintro e w4 ⟨rfl, hb4⟩
  have B4 : Below w.heap.size w w4 := B3.trans (hb4.mono B3.size)
  have hb24 : Below w2.heap.size w2 w4 := hb3.trans (hb4.mono hz3)
  have ho4 := rows_below ho1 hb4
  have hz4 : w2.heap.size ≤ w4.heap.size := hb24.size
  clear hb3 hb4 hr1 ho1 B3
  go_wp2_with fail
  refine (markRow a1 c1 w2.heap.size L _ ho4 hL hz4).mono ?_
  rintro e w5 ⟨⟨r, rfl, hr⟩, hr5, hb5⟩
  have HR := hide hr
  have hb25 : Below w2.heap.size w2 w5 := hb24.trans hb5
  have B5 : Below w.heap.size w w5 := B4.trans (hb5.mono hb2.size)
  clear hb24 hb5 ho4 hr B4
  go_wp2_with fail
  refine (Tk.heldTokenS_any a1 c1 1 L.length _ hr5 (by omega) (by omega)).mono ?_
  rw [← HR.out]
  rintro e w6 ⟨rfl, hb6⟩
  have hb26 : Below w2.heap.size w2 w6 := hb25.trans (hb6.mono hb25.size)
  have B6 : Below w.heap.size w w6 := B5.trans (hb6.mono B5.size)
  have hr6 := hr5.below hb6
  clear hb25 hb6 hr5 B5
  have kr : ((r : Int) != (r : Int)) = false := by simp
  have k0 : ¬ ((r : Int) < 0) := by omega
  go_wp2_with fail
  refine (implLex_any s _ hs (HT.out.later B6 (Nat.le_refl _)) (HEr.out.later B6 (Nat.le_refl _))).mono ?_
  rintro e w7 ⟨⟨v2, p2, L2, rfl, ho2, hl2, -⟩, hb7⟩
  rw [HL0.out] at hl2
  obtain ⟨rfl, rfl⟩ := Prod.mk.inj hl2
  obtain ⟨a2, c2, rfl, hr2, -, -, -⟩ := rdV_owns ho2
  have B7 : Below w.heap.size w w7 := B6.trans (hb7.mono B6.size)
  have hb27 : Below w2.heap.size w2 w7 := hb26.trans (hb7.mono hb26.size)
  have hr7 := hr6.below hb7
  clear hl2 ho2 hb7 hb26 hr6 B6
  go_wp2_with fail
  refine (Tk.eqTokenS_same a2 a0 c2 c0 L _ hr2 (hr0.below hb27) (by omega)).mono ?_
  rintro e w8 ⟨rfl, hb8⟩
  have B8 : Below w.heap.size w w8 := B7.trans (hb8.mono B7.size)
  have hr8 := hr7.below hb8
  clear hb27 hb8 hr7 hr2 B7
  go_wp2_with fail
  refine (Tk.heldTokenS_any a1 c1 1 L.length _ hr8 (by omega) (by omega)).mono ?_
  rw [← HR.out]
  rintro e w9 ⟨rfl, hb9⟩
  have B9 : Below w.heap.size w w9 := B8.trans (hb9.mono B8.size)
  clear hb9 hr8 B8 hr0
  go_wp2
  go_ret
  exact ⟨rfl, B9⟩

theorem own : ownKnob Tryd.prog.godebug = none := by kernel_rfl
theorem laidOut : laidOutB Tryd.prog = true := by kernel_rfl

theorem laid_plain {W : World} (h : laidMetH Tryd.prog Rows.fnExactLexRow.laid W) : laidMet Tryd.prog Rows.fnExactLexRow.laid W := by
  rw [MakeChecks.laidMetH_plain _ _ _ (by kernel_rfl)] at h
  exact h

set_option maxRecDepth 100000 in
theorem lifted (os : Os) (started : os.Started) (H : Type) (enc : TypeId × Value → H) :
    ReturnsInHanded {} Tryd.checked os 5 .any (fun w args => (Rows.fnExactLexSpec.pre enc Tryd.prog Tryd.f5 [] false w args ∧ laidMetH Tryd.prog Rows.fnExactLexRow.laid w) ∧ sizedMet enc Tryd.prog Tryd.f5 (OpenSpec.ofChange Rows.fnExactLexSpec) false w args)
      (Rows.fnExactLexSpec.post enc Tryd.prog Tryd.f5 false true false false) := by
  refine returnsInHanded_of_change_and (C := Tryd.checked) (X := fun w _ => laidMetH Tryd.prog Rows.fnExactLexRow.laid w) (fun _ _ _ hh h => h.of_heap hh) own started (by kernel_rfl) Tryd.func5
    (ChangeSpec.witness_shaped (enc := enc) (C := Tryd.checked) (os := os) (X := fun w _ => laidMetH Tryd.prog Rows.fnExactLexRow.laid w) false (World.laidAll Tryd.prog os Rows.fnExactLexRow.laid) #[.string ByteArray.empty] 8 (World.laidAll_os _ _ _) (World.shaped_of_ZipB (by kernel_rfl) (by kernel_rfl)) (by kernel_rfl) (by kernel_rfl) (by kernel_rfl) (by rw [MakeChecks.laidMetH_plain _ _ _ (by kernel_rfl)]; exact laidMet_laidAll _ (by kernel_rfl) (by kernel_rfl))) ?_
  intro W base args ds gs before hval0 hW _ _ hL _
  have hval : ∀ (j : Nat) t v, Tryd.f5.params[j]? = some t → args[j]? = some v → Value.okWide Tryd.prog W .any base t v := hval0
  have hW' := hW
  obtain ⟨p, q, hA0, hV, rfl, hfz, hnd⟩ := hW
  have hA : DataW.TrodAll enc Tryd.prog W 0 (fun _ => true) true Tryd.f5.params.toList args.toList ds p := hA0
  rw [Tryd.params5] at hA hval
  obtain ⟨v0, vs0, d0, ds0, p0, q0, hargs, rfl, rfl, h0, r0⟩ := trodAll_cons hA
  obtain ⟨rfl, rfl, rfl⟩ := trodAll_nil r0
  obtain rfl : args = #[v0] := by cases args; simp_all
  obtain ⟨rfl, rfl⟩ := trodVars_none hV
  obtain ⟨a0, rfl, rfl, rfl, w0⟩ := open_string Tryd.underlying9 (hval 0 9 v0 rfl rfl) h0
  clear hA0 hval0
  simp only [List.append_nil] at hW'
  refine (walk a0 W w0 (tab_of (laid_plain hL)) (errs_of (laid_plain hL))).mono fun e W' ⟨he, bel⟩ => ?_
  subst he
  exact ⟨_, rfl, _, _, _, [], _, [], hW', trodAll_mk1 (shut_bool Tryd.underlying4 _), (trodAll_cons_mk (shut_string Tryd.underlying9 w0) trodAll_mk0), rfl, bel.frame _, fun h => by cases h⟩

set_option maxRecDepth 100000 in
theorem over : Rows.fnExactLexRow.holds Tryd.pinned (OpenSpec.ofChange Rows.fnExactLexSpec) :=
  OpenClaim.holds_of_wide 5 Tryd.f5 rfl rfl rfl rfl rfl rfl rfl ⟨rfl, rfl, rfl, rfl, rfl⟩ rfl rfl rfl rfl rfl (by kernel_rfl) Tryd.func5 (by kernel_rfl)
    (of_decide_eq_true (by kernel_rfl)) (by unfold Func.isWrapper; first | (rw [if_pos (by decide +kernel)]; kernel_rfl) | (rw [if_neg (by decide +kernel)]; exact ⟨rfl, rfl⟩))
    (fun os started H enc _ => lifted os started H enc)

set_option maxRecDepth 100000 in
theorem card_over : Rows.FnExactLexCardSaid :=
  Claim7.holds_tied_plain_at .later [] [.data, .data, .data, .data, .sentinel, .sentinel, .pinned] true Rows.fnExactLexCard.stood.harness true
    over (fun _ h => by cases h) (by kernel_rfl) (fun _ h => by cases h) fnExactLex_row_tie rfl ⟨rfl, rfl⟩ (by kernel_rfl) rfl
    (fun f fn hf hfn => by
      obtain rfl : f = 5 := Option.some.inj ((show Tryd.prog.funcNamed "loop.example/g00282/laws.FnExactLex" = some 5 by kernel_rfl).symm.trans hf) |>.symm
      obtain rfl : fn = Tryd.f5 := (Option.some.inj (Tryd.func5.symm.trans hfn)).symm
      exact ⟨by kernel_rfl, fun j t ht => by
        rw [Tryd.params5] at ht
        have hm : t ∈ [9] := by simpa using Array.mem_of_getElem? ht
        have hall : ([9].all fun u => !Tryd.prog.wantsStandIn u) = true := by kernel_rfl
        exact (show Tryd.prog.wantsStandIn t = false by simpa using List.all_eq_true.1 hall t hm)⟩)
    (by kernel_rfl)
end Go.Proofs.YtfgcflfnpeapaaaDoor.CardLex
namespace Go.Proofs.YtfgcflfnpeapaaaDoor
theorem fnExactLexCard_holds : Rows.FnExactLexCardSaid := CardLex.card_over
#print axioms fnExactLexCard_holds
end Go.Proofs.YtfgcflfnpeapaaaDoor
