/-
  Proved: the row on StoreOk (for every store the law answers true, and the store reads as it did, where the library's tables read as listed), and its tied card (what is listed is what the program's own text lays).
-/
import Derived.Test.YtaflokfgbmlmaadDoorJoined2
import Derived.Test.YtaflokfgbmlmaadDoorJStoreI
import Derived.Test.YtaflokfgbmlmaadDoorJoined1
import Derived.Test.YtaflokfgbmlmaadDoorJCardTab
import Derived.Deep.RegionHeld3
namespace Go.Proofs.YtaflokfgbmlmaadDoor.CardStoreOk
open Go.ChangeShapes Go.WideShapes Go.ChangeAt Go.RowKit Go.Joins
open Go.ChangeMaps (open_string shut_string)
set_option linter.unusedVariables false
set_option maxRecDepth 100000

theorem tab_of {r : List (String × DataW Unit)} {a b : String × DataW Unit} {W : World} (h : laidMet Tryd.prog (a :: b :: ("internal/strconv.uint64pow10", Rows.laid_internal_strconv_uint64pow10) :: r) W) : Tab W := tabs_of h
/-- what is plainly the same is as long as it was -/
theorem okI_pl {J K : List It} (h : K.map It.pl = J.map It.pl) (hs : ∀ i, i < J.length → okI (iAt J i)) : ∀ i, i < K.length → okI (iAt K i) := fun i hi => by
  obtain ⟨-, e2, e3⟩ := pl_at h hi
  have := hs i (by rw [← pl_len h]; exact hi)
  unfold okI at *
  rw [e2, e3]; exact this

set_option maxRecDepth 100000 in
set_option maxHeartbeats 6400000 in
theorem walk (a : Option Addr) (len cap : Nat) (J : List It) (nx : Int) (w : World) (hI : IsItems w a len cap J) (ht : Tab w) :
    Calls Tryd.prog 3 #[.agg #[.slice a len cap, .int .i64 nx]] w fun e w' => e = .returned (.bool true) ∧ Below w.heap.size w w' := by
  obtain ⟨rfl, hm, hr, hs⟩ := hI
  have HTab := hide ht
  have HRD : Hid (∀ W, Below w.heap.size w W → RdI W a J) := fun W h => hr.below h
  obtain ⟨R, hR⟩ : ∃ R, storeB nx J = R := ⟨_, rfl⟩
  have HR := hide hR
  clear ht hR
  have b1 := below_al w (.cells #[.slice a J.length cap, .int .i64 nx] 24)
  have hA := box2_new w (.slice a J.length cap) (.int .i64 nx) 24
  go_enter Tryd.func3, Tryd.ntmps3
  go_wp2_with fail
  generalize w.alloc (.cells #[.slice a J.length cap, .int .i64 nx] 24) = u0 at b1 hA ⊢
  refine (szStore_any a cap J nx 1048576 _ (HRD.out _ b1) hs hm (by omega) (by omega)).mono ?_
  rintro e u1 ⟨⟨r, rfl, hr1⟩, hb1⟩
  replace hA := box_step hA hb1
  replace b1 : Below w.heap.size w u1 := b1.trans (hb1.mono b1.size)
  clear hb1 hr
  rcases hr1 with rfl | ⟨hr2, hr3⟩
  · go_wp2
    go_ret
    exact ⟨rfl, b1⟩
  have hn : J.length ≤ 1048576 := by unfold szSt at hr3; omega
  have HL : Hid (∀ i, i < J.length → (iAt J i).L.length ≤ 1048576) := fun i hi => by
    have := szSt_mem hi
    unfold szI szL at this
    omega
  have hKL : ∀ {K : List It}, K.map It.pl = J.map It.pl → ∀ i, i < K.length → (iAt K i).L.length ≤ 1048580 := fun {K} h i hi => by
    rw [(pl_at h hi).2.2]; have := HL.out i (by rw [← pl_len h]; exact hi); omega
  have HKL := hide (fun K => @hKL K)
  have HS := hide hs
  have h5 : ¬ (r < 0) := by omega
  clear hr3 hKL hs
  obtain ⟨x0, x1, -, -⟩ := box2_cell hA
  go_wp2_with fail
  refine (toStore_any a cap J nx u1 (HRD.out _ b1) hn HL.out).mono ?_
  rintro e u2 ⟨K1, g1, rfl, hH1, hpl1, hb2⟩
  have HP1 := hide hpl1
  replace hA := box_step hA hb2
  replace b1 : Below w.heap.size w u2 := b1.trans (hb2.mono b1.size)
  clear hb2 x0 x1 hpl1
  go_wp2_with fail
  refine (specStoreOk_any _ J.length J.length nx K1 u2 hH1.rd (pl_len HP1.out) (by omega) (okI_pl HP1.out HS.out) (HKL.out K1 HP1.out)).mono ?_
  rw [storeB_pl HP1.out, HR.out]
  rintro e u3 ⟨rfl, hb3⟩
  replace hA := box_step hA hb3
  replace b1 : Below w.heap.size w u3 := b1.trans (hb3.mono b1.size)
  clear hb3 hH1
  obtain ⟨x0, x1, -, -⟩ := box2_cell hA
  go_wp2_with fail
  refine (toStore_any a cap J nx u3 (HRD.out _ b1) hn HL.out).mono ?_
  rintro e u4 ⟨K2, g2, rfl, hH2, hpl2, hb4⟩
  have HP2 := hide hpl2
  replace hA := box_step hA hb4
  replace b1 : Below w.heap.size w u4 := b1.trans (hb4.mono b1.size)
  clear hpl2 hb4 x0 x1
  have ba := below_al u4 (.cells #[.slice (some ⟨g2, 0, none⟩) J.length J.length, .int .i64 nx] 29)
  have hX := box2_new u4 (.slice (some ⟨g2, 0, none⟩) J.length J.length) (.int .i64 nx) 29
  replace hA := box_step hA ba
  replace hH2 := hH2.later ba
  replace b1 := b1.trans (ba.mono b1.size)
  clear ba
  obtain ⟨z0, z1, -, -⟩ := box2_cell hX
  go_wp2_with fail
  generalize u4.alloc (.cells #[.slice (some ⟨g2, 0, none⟩) J.length J.length, .int .i64 nx] 29) = u5 at hX hA b1 hH2 z0 z1 ⊢
  obtain ⟨X, HXq⟩ : ∃ X, Hid (u4.heap.size = X) := ⟨_, rfl⟩
  rw [HXq.out] at hX z0 z1 ⊢
  refine (implStoreOk_any _ J.length J.length nx K2 u5 hH2.rd (pl_len HP2.out) (by omega) (okI_pl HP2.out HS.out) (HKL.out K2 HP2.out) (HTab.out.later b1 (Nat.le_refl _))).mono ?_
  rw [storeB_pl HP2.out, HR.out]
  rintro e u6 ⟨rfl, hb6⟩
  replace hA := box_step hA hb6
  replace hX := box_step hX hb6
  replace hH2 := hH2.later hb6
  replace b1 : Below w.heap.size w u6 := b1.trans (hb6.mono b1.size)
  clear hb6 z0 z1
  obtain ⟨x0, x1, -, -⟩ := box2_cell hA
  obtain ⟨z0, z1, -, -⟩ := box2_cell hX
  have hRR : (R != R) = false := by simp
  have C6 : SC w a u3.heap.size g2 J.length J K2 u6 := ⟨HRD.out _ b1, hH2, b1⟩
  clear hA hX hH2
  go_wp2_with fail
  go_region_held3 (fun W => W.cell? ⟨w.heap.size, 0, none⟩ = some (.slice a J.length cap) ∧ W.cell? ⟨w.heap.size, 1, none⟩ = some (.int .i64 nx) ∧ W.cell? ⟨X, 0, none⟩ = some (.slice (some ⟨g2, 0, none⟩) J.length J.length) ∧ W.cell? ⟨X, 1, none⟩ = some (.int .i64 nx) ∧ SC w a u3.heap.size g2 J.length J K2 W) (first | exact ⟨x0, x1, z0, z1, C6.drew⟩ | exact keep4 SC.keep (by assumption) (by assumption))
    (first | (go_at_call 9; refine (toStore_any _ _ J _ _ (SC.rdi (by assumption)) hn HL.out).mono ?_; rintro e w7 ⟨K3, g7, rfl, hH3, hpl3, hb7⟩) | (go_at_call 11; refine (eqStore_same _ _ _ _ _ _ K2 K3 _ (SC.cp (by assumption)) hH3.rd (pl_len HP2.out) (HP2.out.trans hpl3.symm) (by omega) (HKL.out K2 HP2.out)).mono ?_; rintro e w8 ⟨rfl, hb8⟩))
  all_goals
    have B := below_step (below_dr hb7) hb8
    have C8 := C6.keep B
    clear C6 hb7 hb8 B
    go_wp2
    go_ret
    exact ⟨rfl, C8.bel⟩

theorem own : ownKnob Tryd.prog.godebug = none := by kernel_rfl
theorem laidOut : laidOutB Tryd.prog = true := by kernel_rfl

theorem door_met (os : Os) (args : Array Value) : laidMetH Tryd.prog Rows.fnExactStoreOkRow.laid ((World.doorLaid Tryd.prog 400 os).forCall (fun _ _ => 0) ⟨#[], args, []⟩).memory :=
  laidMetH_of_parts3 (fuel := 8) (laidMet_of_run' 8 (by kernel_rfl) (by kernel_rfl)) (by kernel_rfl) (by kernel_rfl)
theorem laid_plain {W : World} (h : laidMetH Tryd.prog Rows.fnExactStoreOkRow.laid W) : laidMet Tryd.prog Rows.fnExactStoreOkRow.laid W := by
  rw [MakeChecks.laidMetH_plain _ _ _ (by kernel_rfl)] at h
  exact h

set_option maxRecDepth 100000 in
theorem lifted (os : Os) (started : os.Started) (H : Type) (enc : TypeId × Value → H) :
    ReturnsInHanded {} Tryd.checked os 3 .any (fun w args => (Rows.fnExactStoreOkSpec.pre enc Tryd.prog Tryd.f3 [] false w args ∧ laidMetH Tryd.prog Rows.fnExactStoreOkRow.laid w) ∧ sizedMet enc Tryd.prog Tryd.f3 (OpenSpec.ofChange Rows.fnExactStoreOkSpec) false w args)
      (Rows.fnExactStoreOkSpec.post enc Tryd.prog Tryd.f3 false true false false) := by
  refine returnsInHanded_of_change_and (C := Tryd.checked) (X := fun w _ => laidMetH Tryd.prog Rows.fnExactStoreOkRow.laid w) (fun _ _ _ hh h => h.of_heap hh) own started (by kernel_rfl) Tryd.func3
    (ChangeSpec.witness_shaped (enc := enc) (C := Tryd.checked) (os := os) (X := fun w _ => laidMetH Tryd.prog Rows.fnExactStoreOkRow.laid w) false (World.doorLaid Tryd.prog 400 os) #[.agg #[.slice none 0 0, .int .i64 0]] 8 rfl (World.shaped_of_RefB (by kernel_rfl) (by kernel_rfl)) (by kernel_rfl) (by kernel_rfl) (by kernel_rfl) (door_met os _)) ?_
  intro W base args ds gs before hval0 hW _ _ hL _
  have hval : ∀ (j : Nat) t v, Tryd.f3.params[j]? = some t → args[j]? = some v → Value.okWide Tryd.prog W .any base t v := hval0
  have hW' := hW
  obtain ⟨p, q, hA0, hV, rfl, hfz, hnd⟩ := hW
  have hA : DataW.TrodAll enc Tryd.prog W 0 (fun _ => true) true Tryd.f3.params.toList args.toList ds p := hA0
  rw [Tryd.params3] at hA hval
  obtain ⟨v0, vs0, d0, ds0, p0, q0, hargs, rfl, rfl, h0, r0⟩ := trodAll_cons hA
  obtain ⟨rfl, rfl, rfl⟩ := trodAll_nil r0
  obtain rfl : args = #[v0] := by cases args; simp_all
  obtain ⟨rfl, rfl⟩ := trodVars_none hV
  have k0 := h0
  have lt0 : ∀ x ∈ p0, x.block < W.heap.size := by obtain ⟨m, hm⟩ := k0; exact DataW.trod_lt m _ _ _ hm
  obtain ⟨c0a, c0b, y0a, y0b, m0, rfl, _, _, hy0a, hy0b⟩ := open_agg2 Tryd.underlying24 (by kernel_rfl) (by kernel_rfl) (hval 0 24 v0 rfl rfl) h0
  obtain ⟨N0, eN0, _, _⟩ := DataW.trod_int Tryd.underlying3 hy0b
  simp only [List.cons.injEq, and_true] at eN0
  subst eN0
  obtain ⟨a0, len0, cap0, J0, rfl, w0⟩ := items_in hy0a
  clear hA0 hval0
  refine (walk a0 len0 cap0 J0 N0 W w0 (tab_of (laid_plain hL))).mono fun e W' ⟨he, bel⟩ => ?_
  subst he
  exact ⟨_, rfl, _, _, _, [], _, [], hW', trodAll_mk1 (shut_bool Tryd.underlying4 _), (trodAll_cons_mk (Below.trod laidOut (by kernel_rfl) (of_decide_eq_true (by kernel_rfl)) k0 bel lt0) trodAll_mk0), rfl, bel.frame _, fun h => by cases h⟩

set_option maxRecDepth 100000 in
theorem over : Rows.fnExactStoreOkRow.holds Tryd.pinned (OpenSpec.ofChange Rows.fnExactStoreOkSpec) :=
  OpenClaim.holds_of_wide 3 Tryd.f3 rfl rfl rfl rfl rfl rfl rfl ⟨rfl, rfl, rfl, rfl, rfl⟩ rfl rfl rfl rfl rfl (by kernel_rfl) Tryd.func3 (by kernel_rfl)
    (of_decide_eq_true (by kernel_rfl)) (by unfold Func.isWrapper; first | (rw [if_pos (by decide +kernel)]; kernel_rfl) | (rw [if_neg (by decide +kernel)]; exact ⟨rfl, rfl⟩))
    (fun os started H enc _ => lifted os started H enc)

set_option maxRecDepth 100000 in
theorem card_over : Rows.FnExactStoreOkCardSaid :=
  Claim7.holds_tied_plain_at .later [] [.data, .data, .data] true Rows.fnExactStoreOkCard.stood.harness true
    over (fun _ h => by cases h) (by kernel_rfl) (fun _ h => by cases h) fnExactStoreOk_row_tie rfl ⟨rfl, rfl⟩ (by kernel_rfl) rfl
    (fun f fn hf hfn => by
      obtain rfl : f = 3 := Option.some.inj ((show Tryd.prog.funcNamed "loop.example/g00282/laws.FnExactStoreOk" = some 3 by kernel_rfl).symm.trans hf) |>.symm
      obtain rfl : fn = Tryd.f3 := (Option.some.inj (Tryd.func3.symm.trans hfn)).symm
      exact ⟨by kernel_rfl, fun j t ht => by
        rw [Tryd.params3] at ht
        have hm : t ∈ [24] := by simpa using Array.mem_of_getElem? ht
        have hall : ([24].all fun u => !Tryd.prog.wantsStandIn u) = true := by kernel_rfl
        exact (show Tryd.prog.wantsStandIn t = false by simpa using List.all_eq_true.1 hall t hm)⟩)
    (by kernel_rfl)
end Go.Proofs.YtaflokfgbmlmaadDoor.CardStoreOk
namespace Go.Proofs.YtaflokfgbmlmaadDoor
theorem fnExactStoreOkCard_holds : Rows.FnExactStoreOkCardSaid := CardStoreOk.card_over
#print axioms fnExactStoreOkCard_holds
end Go.Proofs.YtaflokfgbmlmaadDoor
