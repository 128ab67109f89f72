/-
  Proved: the row on values (for every row of bytes the law answers true: a drawn value that is right comes back of its bytes and of its text, one that is not has no text; and the row reads as it did, where the library's tables and its two errors read as listed), and its tied card.
-/
import Derived.Test.YtofdbnkeddcdjaaDoorValsP
import Derived.Test.YtofdbnkeddcdjaaDoorDrawPV
import Derived.Test.YtofdbnkeddcdjaaDoorPutValI
import Derived.Test.YtofdbnkeddcdjaaDoorGetValI
import Derived.Test.YtofdbnkeddcdjaaDoorOwnD
import Derived.Test.YtofdbnkeddcdjaaDoorCardBase
import Derived.Laws.StructEq
import Derived.OpenShut
import Derived.ShutString
import Derived.ChangeOld
import Derived.Below
namespace Go.Proofs.YtofdbnkeddcdjaaDoor.CardVals
open Go.ChangeShapes Go.WideShapes Go.ChangeAt Go.RowKit Go.Joins
open Go.ChangeMaps (open_string shut_string)
set_option linter.unusedVariables false

set_option maxHeartbeats 400000 in
theorem big_any (a : Option Addr) (len cap : Nat) (w : World) (h : len ≤ 9223372036854775807) :
    Calls Tryd.prog 5 #[.slice a len cap] w fun e w' => e = .returned (.bool (decide ((1048576 : Int) < (len : Int)))) ∧ w' = w := by
  go_enter Tryd.func5, Tryd.ntmps5
  go_wp2
  go_ret
  exact ⟨rfl, rfl⟩
theorem owns_own' {w : World} {base n : Nat} {v : Value} {bs : List UInt8} (h : w.ownsRow base 5 1 v n (vals bs)) (hp : v ≠ .slice none 0 0) :
    ∃ g cap, v = .slice (some ⟨g, 0, none⟩) bs.length cap ∧ base ≤ g ∧ Own w g cap bs := by
  have hn : n = bs.length := by have := h.1; rw [vals_length] at this; omega
  subst hn
  rcases h.2 with ⟨h1, h0⟩ | ⟨g, cap, cur, rfl, hb, rest⟩
  · exact absurd h1 hp
  · exact ⟨g, cap, rfl, hb, owns_zero h⟩

set_option maxRecDepth 100000 in
set_option maxHeartbeats 3200000 in
theorem law (a : Option Addr) (cap : Nat) (code : List UInt8) (w : World) (hr : Rd w a code) (hm : code.length ≤ maxLen) (ht : Tab w) (he : Errs w) :
    Calls Tryd.prog 3 #[.slice a code.length cap] w fun e w' => e = .returned (.bool true) ∧ Below w.heap.size w w' := by
  have HTab := hide ht
  have HErr := hide he
  clear ht he
  unfold maxLen at hm
  by_cases hb : 1048576 < code.length
  · have hd : decide ((1048576 : Int) < (code.length : Int)) = true := by simp; omega
    go_enter Tryd.func3, Tryd.ntmps3
    go_wp2_with (go_at_call 5; refine (big_any _ _ _ _ (by omega)).mono ?_; rintro e w' ⟨rfl, rfl⟩)
    go_ret
    exact ⟨rfl, Below.refl _ _⟩
  · have hd : decide ((1048576 : Int) < (code.length : Int)) = false := by simp; omega
    go_enter Tryd.func3, Tryd.ntmps3
    go_wp2_with fail
    refine (big_any _ _ _ _ (by omega)).mono ?_
    rintro e w' ⟨rfl, rfl⟩
    go_wp2_with fail
    refine (drawPutVal_any a cap code w' hr (by omega)).mono ?_
    rintro e w1 ⟨v1, bs, K, N, S, rfl, hl, hS, ho, hv, g1⟩
    obtain ⟨q1, c1, rfl, hq1, o1⟩ := owns_own' ho hv
    have B1 := below_none g1
    have hsm : S.size ≤ maxLen := by unfold maxLen; omega
    clear ho hv g1 hd
    have z1 := B1.size
    go_wp2_with fail
    refine (implValText_any K N S _ hsm (HTab.out.later (B1.alloc z1 _) (Nat.le_refl _))).mono ?_
    rintro e w2 ⟨rfl, b2⟩
    have HV2 := hide (box_below (box_new w1 (.int .i64 K) (.int .i64 N) (.string S) 25) b2 (by simp))
    have b2' : Below w1.heap.size w1 w2 := (below_al2 w1 _).trans (b2.mono (by simp))
    have z2 : w1.heap.size < w2.heap.size := by have := b2.size; simp at this; omega
    have B2 : Below w'.heap.size w' w2 := B1.trans (b2'.mono z1)
    have o2 := o1.later b2'
    clear b2 b2' o1
    obtain ⟨d0, d1, d2, -, -, -⟩ := box_cell HV2.out
    go_wp2_with fail
    refine (specValOk_any K N S _ hsm).mono ?_
    rintro e w3 ⟨rfl, g3⟩
    have b3 := below_none g3
    have HV3 := hide (box_below HV2.out b3 (by omega))
    have B3 : Below w'.heap.size w' w3 := B2.trans (b3.mono B2.size)
    have z3 : w1.heap.size < w3.heap.size := by have := b3.size; omega
    have o3 := o2.later b3
    clear b3 g3 d0 d1 d2 HV2 o2 B2 z2
    obtain ⟨d0, d1, d2, -, -, -⟩ := box_cell HV3.out
    cases hvb : valB K N S
    · rw [textV_no hvb]
      have HVB := hide hvb
      clear hvb
      go_wp2_with fail
      refine (implValOk_any K N S _ hsm).mono ?_
      rintro e w4 ⟨rfl, b4⟩
      rw [HVB.out]
      have B4 : Below w'.heap.size w' w4 := B3.trans (b4.mono B3.size)
      go_wp2
      go_ret
      exact ⟨rfl, B4⟩
    · have HVB := hide hvb
      have HTB := hide (parse_back K N S hvb)
      have HTS := textV_size hvb
      have HVK := hide (val_back bs K N S hvb)
      clear hvb
      generalize textV K N S = tx at HTB HTS ⊢
      obtain ⟨E, HE⟩ : ∃ E, Hid (bs ++ encV K N S = E) := ⟨_, rfl⟩
      have hE : E.length ≤ 60 := by rw [← HE.out]; have := encV_length K N S; simp; omega
      have hE1 : 1 ≤ E.length := by rw [← HE.out]; have := encV_pos K N S; simp; omega
      have HP : Hid (∀ a cap w, Rd w a bs → bs.length ≤ 1048580 → S.size ≤ 1048580 → _) := fun a cap w hr hn hs => implPutVal_any a cap K N S bs w hr hn hs
      rw [HE.out] at HVK HP
      go_wp2_with fail
      refine (HP.out _ _ _ o3.rd (by omega) (by omega)).mono ?_
      rintro e w4 ⟨v4, rfl, ho4, b4⟩
      obtain ⟨q4, c4, rfl, hq4, o4⟩ := owns_own ho4 (by omega)
      have HV4 := hide (box_below HV3.out b4 (by omega))
      have B4 : Below w'.heap.size w' w4 := B3.trans (b4.mono B3.size)
      have z4 : w1.heap.size < w4.heap.size := by have := b4.size; omega
      have o34 := o3.later b4
      clear ho4 b4 d0 d1 d2 HV3 o3 B3 z3
      go_wp2_with fail
      refine (implGetVal_any _ c4 bs.length E w4 o4.rd (by omega) o4.cap (by simp)).mono ?_
      rw [HVK.out]
      rintro e w5 ⟨rfl, b5⟩
      have HV5 := hide (box_below HV4.out b5 (by omega))
      have B5 : Below w'.heap.size w' w5 := B4.trans (b5.mono B4.size)
      have z5 : w1.heap.size < w5.heap.size := by have := b5.size; omega
      have o5 := o34.later b5
      clear b5 HV4 o34 o4 B4 z4 HVK
      unfold valT
      go_wp2_with fail
      have B5a : Below w'.heap.size w' (w5.alloc (.cells #[.int .i64 K, .int .i64 N, .string S] 25)) := B5.alloc B5.size _
      refine (implParse_any tx _ (by omega) (HTab.out.later B5a (Nat.le_refl _)) (HErr.out.later B5a (Nat.le_refl _))).mono ?_
      rw [HTB.out]
      rintro e w6 ⟨rfl, b6⟩
      have HV6 := hide (box_below (box_old HV5.out (by omega) (.cells #[.int .i64 K, .int .i64 N, .string S] 25)) b6 (by simp; omega))
      have HX6 := hide (box_below (box_new w5 (.int .i64 K) (.int .i64 N) (.string S) 25) b6 (by simp))
      have B6 : Below w'.heap.size w' w6 := B5a.trans (b6.mono B5a.size)
      have z6 : w5.heap.size < w6.heap.size := by have := b6.size; simp at this; omega
      have o6 := (o5.later (below_al2 w5 _)).later b6
      clear b6 HV5 o5 B5a HTB
      unfold ansO
      obtain ⟨X, HXq⟩ : ∃ X, Hid (w5.heap.size = X) := ⟨_, rfl⟩
      obtain ⟨V, HVq⟩ : ∃ V, Hid (w1.heap.size = V) := ⟨_, rfl⟩
      rw [HXq.out] at HX6 z6 z5 ⊢
      rw [HVq.out] at HV6 z5 ⊢
      obtain ⟨d0, d1, d2, -, -, -⟩ := box_cell HV6.out
      obtain ⟨x0, x1, x2, -, -, -⟩ := box_cell HX6.out
      obtain ⟨dd0, dd1, dd2, -, -, -⟩ := box_cell (box_old HV6.out (by omega) (.cells #[.int .i64 K, .int .i64 N, .string S] 25))
      obtain ⟨xx0, xx1, xx2, -, -, -⟩ := box_cell (box_old HX6.out (by omega) (.cells #[.int .i64 K, .int .i64 N, .string S] 25))
      obtain ⟨yy0, yy1, yy2, -, -, -⟩ := box_cell (box_new w6 (.int .i64 K) (.int .i64 N) (.string S) 25)
      have k1 : (K == K) = true := by simp
      have k2 : (N == N) = true := by simp
      have k3 : (S.toList == S.toList) = true := by simp
      have k4 : ((E.length : Int) == (E.length : Int)) = true := by simp
      have HV7 := hide (box_old HV6.out (by omega) (.cells #[.int .i64 K, .int .i64 N, .string S] 25))
      have HY7 := hide (box_new w6 (.int .i64 K) (.int .i64 N) (.string S) 25)
      have B7 : Below w'.heap.size w' (w6.alloc (.cells #[.int .i64 K, .int .i64 N, .string S] 25)) := B6.alloc B6.size _
      have o7 := o6.later (below_al2 w6 (.cells #[.int .i64 K, .int .i64 N, .string S] 25))
      have z7 : (w6.alloc (.cells #[.int .i64 K, .int .i64 N, .string S] 25)).heap.size = w6.heap.size + 1 := by simp
      go_wp2_with fail
      refine (HP.out _ _ _ o7.rd (by omega) (by omega)).mono ?_
      rintro e w8 ⟨v8, rfl, ho8, b8⟩
      obtain ⟨q8, c8, rfl, hq8, -⟩ := owns_own ho8 (by omega)
      have HV8 := hide (box_below HV7.out b8 (by rw [z7]; omega))
      have HY8 := hide (box_below HY7.out b8 (by rw [z7]; omega))
      have B8 : Below w'.heap.size w' w8 := B7.trans (b8.mono B7.size)
      clear ho8 b8 HP o7 HV7 HY7 B7 d0 d1 d2 x0 x1 x2 dd0 dd1 dd2 xx0 xx1 xx2 yy0 yy1 yy2
      obtain ⟨d0, d1, d2, -, -, -⟩ := box_cell HV8.out
      obtain ⟨y0, y1, y2, -, -, -⟩ := box_cell HY8.out
      go_wp2_with fail
      refine (implValOk_any K N S _ hsm).mono ?_
      rintro e w9 ⟨rfl, b9⟩
      rw [HVB.out]
      have B9 : Below w'.heap.size w' w9 := B8.trans (b9.mono B8.size)
      go_wp2
      go_ret
      exact ⟨rfl, B9⟩

theorem walk (a0 : Option Addr) (len0 cap0 : Nat) (z0 : List Int) (w : World) (w0 : IsRow .u8 w a0 len0 cap0 z0) (ht : Tab w) (he : Errs w) :
    Calls Tryd.prog 3 #[.slice a0 len0 cap0] w fun e w' => e = .returned (.bool true) ∧ Below w.heap.size w w' := by
  obtain ⟨bs, hl, hr⟩ := rd_row w0
  have hm : len0 ≤ maxLen := isRow_len w0
  subst hl
  exact law a0 cap0 bs w hr hm ht he

theorem own : ownKnob Tryd.prog.godebug = none := by kernel_rfl
theorem laidOut : laidOutB Tryd.prog = true := by kernel_rfl

theorem door_met (os : Os) (args : Array Value) : laidMetH Tryd.prog Rows.fnValsRow.laid ((World.doorLaid Tryd.prog 400 os).forCall (fun _ _ => 0) ⟨#[], args, []⟩).memory :=
  laidMetH_of_parts3 (fuel := 8) (laidMet_of_run' 8 (by kernel_rfl) (by kernel_rfl)) (by kernel_rfl) (by kernel_rfl)
theorem laid_plain {W : World} (h : laidMetH Tryd.prog Rows.fnValsRow.laid W) : laidMet Tryd.prog Rows.fnValsRow.laid W := by
  rw [MakeChecks.laidMetH_plain _ _ _ (by kernel_rfl)] at h
  exact h

set_option maxRecDepth 100000 in
theorem lifted (os : Os) (started : os.Started) (H : Type) (enc : TypeId × Value → H) :
    ReturnsInHanded {} Tryd.checked os 3 .any (fun w args => (Rows.fnValsSpec.pre enc Tryd.prog Tryd.f3 [] false w args ∧ laidMetH Tryd.prog Rows.fnValsRow.laid w) ∧ sizedMet enc Tryd.prog Tryd.f3 (OpenSpec.ofChange Rows.fnValsSpec) false w args)
      (Rows.fnValsSpec.post enc Tryd.prog Tryd.f3 false true false false) := by
  refine returnsInHanded_of_change_and (C := Tryd.checked) (X := fun w _ => laidMetH Tryd.prog Rows.fnValsRow.laid w) (fun _ _ _ hh h => h.of_heap hh) own started (by kernel_rfl) Tryd.func3
    (ChangeSpec.witness_shaped (enc := enc) (C := Tryd.checked) (os := os) (X := fun w _ => laidMetH Tryd.prog Rows.fnValsRow.laid w) false (World.doorLaid Tryd.prog 400 os) #[.slice none 0 0] 8 rfl (World.shaped_of_RefB (by kernel_rfl) (by kernel_rfl)) (by kernel_rfl) (by kernel_rfl) (by kernel_rfl) (door_met os _)) ?_
  intro W base args ds gs before hval0 hW _ _ hL _
  have hval : ∀ (j : Nat) t v, Tryd.f3.params[j]? = some t → args[j]? = some v → Value.okWide Tryd.prog W .any base t v := hval0
  have hW' := hW
  obtain ⟨p, q, hA0, hV, rfl, hfz, hnd⟩ := hW
  have hA : DataW.TrodAll enc Tryd.prog W 0 (fun _ => true) true Tryd.f3.params.toList args.toList ds p := hA0
  rw [Tryd.params3] at hA hval
  obtain ⟨v0, vs0, d0, ds0, p0, q0, hargs, rfl, rfl, h0, r0⟩ := trodAll_cons hA
  obtain ⟨rfl, rfl, rfl⟩ := trodAll_nil r0
  obtain rfl : args = #[v0] := by cases args; simp_all
  obtain ⟨rfl, rfl⟩ := trodVars_none hV
  obtain ⟨a0, len0, cap0, rfl⟩ := okWide_slice Tryd.underlying22 (hval 0 22 v0 rfl rfl)
  have k0 := h0
  have lt0 : ∀ x ∈ p0, x.block < W.heap.size := by obtain ⟨m, hm⟩ := k0; exact DataW.trod_lt m _ _ _ hm
  obtain ⟨z0, w0⟩ : ∃ zs, IsRow .u8 W a0 len0 cap0 zs := by
    obtain ⟨fuel, hf⟩ := h0
    rcases open_ints Tryd.underlying22 Tryd.underlying5 (by kernel_rfl) hf with ⟨hcs, _⟩ | ⟨x, l, c, zs, hcs, _, hl, hm, hz, _, hcell, hwz⟩
    · simp [Value.cells] at hcs
      obtain ⟨rfl, rfl, rfl⟩ := hcs
      exact ⟨[], .inl ⟨rfl, rfl, rfl, rfl⟩⟩
    · simp [Value.cells] at hcs
      obtain ⟨rfl, rfl, rfl⟩ := hcs
      exact ⟨zs, .inr ⟨_, rfl, hl, hm, by simpa using hz, hcell, hwz⟩⟩
  clear hA0 hval0
  refine (walk a0 len0 cap0 z0 W w0 (tab_of (laid_plain hL)) (errs_of (laid_plain hL))).mono fun e W' ⟨he, bel⟩ => ?_
  subst he
  exact ⟨_, rfl, _, _, _, [], _, [], hW', trodAll_mk1 (shut_bool Tryd.underlying4 _), (trodAll_cons_mk (Below.trod laidOut (by kernel_rfl) (of_decide_eq_true (by kernel_rfl)) k0 bel lt0) trodAll_mk0), rfl, bel.frame _, fun h => by cases h⟩

set_option maxRecDepth 100000 in
theorem over : Rows.fnValsRow.holds Tryd.pinned (OpenSpec.ofChange Rows.fnValsSpec) :=
  OpenClaim.holds_of_wide 3 Tryd.f3 rfl rfl rfl rfl rfl rfl rfl ⟨rfl, rfl, rfl, rfl, rfl⟩ rfl rfl rfl rfl rfl (by kernel_rfl) Tryd.func3 (by kernel_rfl)
    (of_decide_eq_true (by kernel_rfl)) (by unfold Func.isWrapper; first | (rw [if_pos (by decide +kernel)]; kernel_rfl) | (rw [if_neg (by decide +kernel)]; exact ⟨rfl, rfl⟩))
    (fun os started H enc _ => lifted os started H enc)

set_option maxRecDepth 100000 in
theorem card_over : Rows.FnValsCardSaid :=
  Claim7.holds_tied_plain_at .later [] [.data, .data, .data, .sentinel, .sentinel] true Rows.fnValsCard.stood.harness true
    over (fun _ h => by cases h) (by kernel_rfl) (fun _ h => by cases h) fnVals_row_tie rfl ⟨rfl, rfl⟩ (by kernel_rfl) rfl
    (fun f fn hf hfn => by
      obtain rfl : f = 3 := Option.some.inj ((show Tryd.prog.funcNamed "loop.example/g00282/laws.FnVals" = some 3 by kernel_rfl).symm.trans hf) |>.symm
      obtain rfl : fn = Tryd.f3 := (Option.some.inj (Tryd.func3.symm.trans hfn)).symm
      exact ⟨by kernel_rfl, fun j t ht => by
        rw [Tryd.params3] at ht
        have hm : t ∈ [22] := by simpa using Array.mem_of_getElem? ht
        have hall : ([22].all fun u => !Tryd.prog.wantsStandIn u) = true := by kernel_rfl
        exact (show Tryd.prog.wantsStandIn t = false by simpa using List.all_eq_true.1 hall t hm)⟩)
    (by kernel_rfl)
end Go.Proofs.YtofdbnkeddcdjaaDoor.CardVals
namespace Go.Proofs.YtofdbnkeddcdjaaDoor
theorem fnValsCard_holds : Rows.FnValsCardSaid := CardVals.card_over
#print axioms fnValsCard_holds
end Go.Proofs.YtofdbnkeddcdjaaDoor
