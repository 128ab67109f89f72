/-
  Proved: the row on a text that is read (for every row of bytes the law answers true: of a drawn text the tested program tells what the model tells, all that is told is right and is read again of its own text; and the row reads as it did, where the library's tables and its two errors read as listed), and its tied card (what is listed is what the program's own text lays).
-/
import Derived.Test.YtfgcflfnpeapaaaGreatDoorLexJ
import Derived.Test.YtfgcflfnpeapaaaGreatDoorJoinI
import Derived.Test.YtfgcflfnpeapaaaGreatDoorDrawLx
import Derived.Test.YtfgcflfnpeapaaaGreatDoorLexB
import Derived.Test.YtfgcflfnpeapaaaGreatDoorCardLexB
namespace Go.Proofs.YtfgcflfnpeapaaaGreatDoor.CardLexS
open Go.ChangeShapes Go.WideShapes Go.ChangeAt Go.RowKit Go.Joins
open Go.ChangeMaps (open_string shut_string)
open Go.Proofs.YtfgcflfnpeapaaaGreatDoor.LexList (tab_of errs_of)
set_option linter.unusedVariables false
set_option maxRecDepth 100000

set_option maxHeartbeats 400000 in
theorem big_any (a : Option Addr) (len cap : Nat) (w : World) (h : len ≤ 9223372036854775807) :
    Calls Tryz.prog 4 #[.slice a len cap] w fun e w' => e = .returned (.bool (decide ((1048576 : Int) < (len : Int)))) ∧ w' = w := by
  go_enter Tryz.func4, Tryz.ntmps4
  go_wp2
  go_ret
  exact ⟨rfl, rfl⟩
theorem below_dn {w u : World} {n : Nat} (k : Below (w.drewN n).heap.size (w.drewN n) u) : Below w.heap.size w u :=
  (show Below w.heap.size w (w.drewN n) from ⟨rfl, rfl, rfl, Nat.le_refl _, fun _ _ => rfl⟩).trans k

set_option maxRecDepth 100000 in
set_option maxHeartbeats 1600000 in
theorem same_any (a b : Option Addr) (ca cb : Nat) (L : List V3) (w : World) (hr : RdV w a L) (hq : RdV w b L) (hn : L.length ≤ 1048580) :
    Calls Tryz.prog 8 #[.slice a L.length ca, .slice b L.length cb] w fun e w' => e = .returned (.bool true) ∧ Below w.heap.size w w' := by
  obtain ⟨n, hN⟩ : ∃ n, n = L.length := ⟨_, rfl⟩
  rw [← hN] at hn ⊢
  have HN := hide hN
  clear hN
  have h2 : ((n : Int) != (n : Int)) = false := by simp
  go_enter Tryz.func8, Tryz.ntmps8
  go_wp2
  go_loopw [5] (fun i wr => ∃ (k nd : Nat), k ≤ n ∧ i = .int .i64 k ∧ wr = w.drewN nd) (fun i _ => n - (intOf i).toNat)
  case atStart => exact ⟨0, 0, Nat.zero_le _, rfl, rfl⟩
  case round =>
    obtain ⟨k, nd, hk, rfl, rfl⟩ := hrel
    by_cases hlt : k < n
    · obtain ⟨b1, o1, e1, -, hc1⟩ := hr.open (by rw [← HN.out]; omega)
      obtain ⟨b2, o2, e2, -, hc2⟩ := hq.open (by rw [← HN.out]; omega)
      obtain ⟨c0, c1, c2⟩ := hc1 k (by rw [← HN.out]; exact hlt)
      obtain ⟨d0, d1, d2⟩ := hc2 k (by rw [← HN.out]; exact hlt)
      have l1 : (k : Int) < (n : Int) := by omega
      clear hc1 hc2
      subst e1 e2
      have k1 : ((vAt L k).K == (vAt L k).K) = true := by simp
      have k2 : ((vAt L k).N == (vAt L k).N) = true := by simp
      have k3 : ((vAt L k).S.toList == (vAt L k).S.toList) = true := by simp
      go_wp2
      go_quiet (fail)
      go_wp2
      go_roundw
      case rel => exact ⟨k + 1, _, by omega, by go_num, rfl⟩
      case measure => simp [intOf]; omega
    · go_wp2
      go_ret
      exact ⟨rfl, below_dn (Below.refl _ _)⟩

theorem lexP_ok {s : ByteArray} {L : List V3} {p : Int} (h : lexP s = (L, p)) : (∀ v ∈ L, tokB v.K v.N v.S = true) ∧ (p = -1 ∨ (L = [] ∧ p ≠ -1)) ∧ ¬ ((s.size : Int) ≤ p) := by
  have hp : passN s false 0 ≤ s.size := passN_le _ _ _
  have h3 := lexF_ok (s := s) 3001 [] (passN s false 0) (by simp) (by simp) hp
  unfold lexP at h
  rw [h] at h3
  obtain ⟨h1, -, h2⟩ := h3
  refine ⟨h1, ?_, ?_⟩
  · rcases h2 with h2 | ⟨h2, -, -⟩
    · exact .inl h2
    · by_cases e : p = -1
      · exact .inl e
      · exact .inr ⟨h2, e⟩
  · rcases h2 with h2 | ⟨-, -, h2⟩
    · simp only at h2; omega
    · have := h2 (by omega)
      simp at this
      omega

set_option maxRecDepth 100000 in
set_option maxHeartbeats 3200000 in
theorem law (a : Option Addr) (cap : Nat) (code : List UInt8) (w : World) (hr : Rd w a code) (hm : code.length ≤ maxLen) (ht : Tab w) (he : Errs w) :
    Calls Tryz.prog 3 #[.slice a code.length cap] w fun e w' => e = .returned (.bool true) ∧ Below w.heap.size w w' := by
  have HTab := hide ht
  have HErr := hide he
  clear ht he
  unfold maxLen at hm
  by_cases hb : 1048576 < code.length
  · have hd : decide ((1048576 : Int) < (code.length : Int)) = true := by simp; omega
    go_enter Tryz.func3, Tryz.ntmps3
    go_wp2_with (go_at_call 4; refine (big_any _ _ _ _ (by omega)).mono ?_; rintro e w' ⟨rfl, rfl⟩)
    go_ret
    exact ⟨rfl, Below.refl _ _⟩
  · have hd : decide ((1048576 : Int) < (code.length : Int)) = false := by simp; omega
    go_enter Tryz.func3, Tryz.ntmps3
    go_wp2_with fail
    refine (big_any _ _ _ _ (by omega)).mono ?_
    rintro e w' ⟨rfl, hw'⟩
    subst hw'
    go_wp2_with fail
    refine (drawLex_any a cap code _ hr (by omega)).mono ?_
    rintro e w1 ⟨⟨s, rfl, hs⟩, b1⟩
    clear hd
    go_wp2_with fail
    refine (implLex_any s _ (by omega) (HTab.out.later b1 (Nat.le_refl _)) (HErr.out.later b1 (Nat.le_refl _))).mono ?_
    rintro e w2 ⟨⟨v2, p, L, rfl, ho2, hl2, hn2⟩, hb2⟩
    obtain ⟨al, cl, rfl, hrl, -, -, -⟩ := rdV_owns ho2
    have b2 : Below w'.heap.size w' w2 := b1.trans (hb2.mono b1.size)
    clear ho2 hb2 b1
    go_wp2_with fail
    refine (specLex_any s _ (by omega)).mono ?_
    rintro e w3 ⟨⟨v3, p3, L3, rfl, ho3, hl3, -⟩, hb3⟩
    rw [hl2] at hl3
    obtain ⟨rfl, rfl⟩ := Prod.mk.inj hl3
    obtain ⟨ax, cx, rfl, hrx, -, -, -⟩ := rdV_owns ho3
    have b3 : Below w'.heap.size w' w3 := b2.trans (hb3.mono b2.size)
    have hrl3 := hrl.below hb3
    obtain ⟨htok, hpl, hge⟩ := lexP_ok hl2
    have HTok := hide htok
    have HS : Hid (∀ u ∈ L, u.S.size ≤ maxLen) := fun u hu => by have := tokB_le (HTok.out u hu); unfold maxLen; omega
    have HP := hide hpl
    clear hl3 hl2 ho3 hb3 hrl b2 htok hpl
    have HSm := hide (same_any al ax cl cx L w3 hrl3 hrx (by omega))
    have HJ := hide (fun W (hB : Below w3.heap.size w3 W) => implJoin_any al cl L W (hrl3.below hB) HS.out (by omega) (HTab.out.later (b3.trans (hB.mono b3.size)) (Nat.le_refl _)))
    have HX := hide (lex_join L HTok.out (by omega))
    have hjs : (⟨(joinT L L.length).toArray⟩ : ByteArray).size ≤ 1048576 := by
      show (joinT L L.length).toArray.size ≤ _
      have := joinT_le L L.length
      simp; omega
    generalize (⟨(joinT L L.length).toArray⟩ : ByteArray) = sj at HX hjs HJ
    obtain ⟨n, hN⟩ : ∃ n, n = L.length := ⟨_, rfl⟩
    have HN := hide hN
    rw [← hN] at HSm HJ hn2 ⊢
    clear hN hrx
    have e1 : (p != p) = false := by simp
    have e2 : p < (s.size : Int) := by omega
    go_wp2_with fail
    refine HSm.out.mono ?_
    rintro e w4 ⟨rfl, hb4⟩
    have hrl4 := hrl3.below hb4
    have B4 := hb4
    clear hb4 HSm hrl3
    go_wp2
    go_loopw [8] (fun i wr => ∃ (k : Nat), k ≤ n ∧ i = .int .i64 k ∧ Below w4.heap.size w4 wr) (fun i _ => n - (intOf i).toNat)
    case atStart => exact ⟨0, Nat.zero_le _, rfl, Below.refl _ _⟩
    case round =>
      obtain ⟨k, hk, rfl, hbel⟩ := hrel
      by_cases hlt : k < n
      · have hrk := hrl4.below hbel
        obtain ⟨b1, o1, e1, hbw, hc1⟩ := hrk.open (by rw [← HN.out]; omega)
        obtain ⟨c0, c1, c2⟩ := hc1 k (by rw [← HN.out]; exact hlt)
        have hmem : vAt L k ∈ L := by rw [vAt_in (by rw [← HN.out]; exact hlt)]; exact List.getElem_mem _
        have HT := hide (HTok.out _ hmem)
        have hS := HS.out _ hmem
        have l1 : (k : Int) < (n : Int) := by omega
        clear hc1 hrk hmem
        subst e1
        generalize (vAt L k).K = K at c0 HT
        generalize (vAt L k).N = N at c1 HT
        generalize (vAt L k).S = S at c2 HT hS
        go_wp2_with fail
        refine (implTokenOk_any K N S _ hS).mono ?_
        rw [HT.out]
        rintro e w5 ⟨rfl, hb5⟩
        have B5 : Below w4.heap.size w4 w5 := hbel.trans (hb5.mono hbel.size)
        clear hb5 c0 c1 c2
        go_wp2
        go_roundw
        case rel => exact ⟨k + 1, by omega, by go_num, B5⟩
        case measure => simp [intOf]; omega
      · have B5 : Below w3.heap.size w3 wr := B4.trans (hbel.mono B4.size)
        go_wp2_with fail
        refine (HJ.out _ B5).mono ?_
        rintro e w6 ⟨rfl, hb6⟩
        have B6 : Below w'.heap.size w' w6 := (b3.trans (B5.mono b3.size)).trans (hb6.mono (b3.trans (B5.mono b3.size)).size)
        have hrl6 := (hrl4.below hbel).below hb6
        clear hb6 B5 B4 hbel HJ
        go_wp2_with fail
        refine (implLex_any sj _ hjs (HTab.out.later B6 (Nat.le_refl _)) (HErr.out.later B6 (Nat.le_refl _))).mono ?_
        rintro e w7 ⟨⟨v7, p7, L7, rfl, ho7, hl7, -⟩, hb7⟩
        rw [HX.out] at hl7
        obtain ⟨rfl, rfl⟩ := Prod.mk.inj hl7
        obtain ⟨ay, cy, rfl, hry, -, -, -⟩ := rdV_owns ho7
        have B7 : Below w'.heap.size w' w7 := B6.trans (hb7.mono B6.size)
        have HSm := hide (same_any ay al cy cl L w7 hry (hrl6.below hb7) (by rw [← HN.out]; omega))
        rw [← HN.out] at HSm ⊢
        have hz : p = -1 ∨ (p ≠ -1 ∧ n = 0) := by
          rcases HP.out with h | ⟨h, h2⟩
          · exact .inl h
          · exact .inr ⟨h2, by rw [HN.out, h]; rfl⟩
        clear hl7 ho7 hry hrl6 hb7 B6 HX
        go_wp2_with fail
        refine HSm.out.mono ?_
        rintro e w8 ⟨rfl, hb8⟩
        have B8 : Below w'.heap.size w' w8 := B7.trans (hb8.mono B7.size)
        clear hb8 HSm B7
        rcases hz with rfl | ⟨hp1, rfl⟩
        · go_wp2
          go_ret
          exact ⟨rfl, B8⟩
        · have hp2 : (p == -1) = false := by simpa using hp1
          go_wp2
          go_ret
          exact ⟨rfl, B8⟩

theorem walk (a0 : Option Addr) (len0 cap0 : Nat) (z0 : List Int) (w : World) (w0 : IsRow .u8 w a0 len0 cap0 z0) (ht : Tab w) (he : Errs w) :
    Calls Tryz.prog 3 #[.slice a0 len0 cap0] w fun e w' => e = .returned (.bool true) ∧ Below w.heap.size w w' := by
  obtain ⟨bs, hl, hr⟩ := rd_row w0
  have hm : len0 ≤ maxLen := isRow_len w0
  subst hl
  exact law a0 cap0 bs w hr hm ht he

theorem own : ownKnob Tryz.prog.godebug = none := by kernel_rfl
theorem laidOut : laidOutB Tryz.prog = true := by kernel_rfl

theorem laid_plain {W : World} (h : laidMetH Tryz.prog Rows.fnLexRow.laid W) : laidMet Tryz.prog Rows.fnLexRow.laid W := by
  rw [MakeChecks.laidMetH_plain _ _ _ (by kernel_rfl)] at h
  exact h

set_option maxRecDepth 100000 in
theorem lifted (os : Os) (started : os.Started) (H : Type) (enc : TypeId × Value → H) :
    ReturnsInHanded {} Tryz.checked os 3 .any (fun w args => (Rows.fnLexSpec.pre enc Tryz.prog Tryz.f3 [] false w args ∧ laidMetH Tryz.prog Rows.fnLexRow.laid w) ∧ sizedMet enc Tryz.prog Tryz.f3 (OpenSpec.ofChange Rows.fnLexSpec) false w args)
      (Rows.fnLexSpec.post enc Tryz.prog Tryz.f3 false true false false) := by
  refine returnsInHanded_of_change_and (C := Tryz.checked) (X := fun w _ => laidMetH Tryz.prog Rows.fnLexRow.laid w) (fun _ _ _ hh h => h.of_heap hh) own started (by kernel_rfl) Tryz.func3
    (ChangeSpec.witness_shaped (enc := enc) (C := Tryz.checked) (os := os) (X := fun w _ => laidMetH Tryz.prog Rows.fnLexRow.laid w) false (World.laidAll Tryz.prog os Rows.fnLexRow.laid) #[.slice none 0 0] 8 (World.laidAll_os _ _ _) (World.shaped_of_ZipB (by kernel_rfl) (by kernel_rfl)) (by kernel_rfl) (by kernel_rfl) (by kernel_rfl) (by rw [MakeChecks.laidMetH_plain _ _ _ (by kernel_rfl)]; exact laidMet_laidAll _ (by kernel_rfl) (by kernel_rfl))) ?_
  intro W base args ds gs before hval0 hW _ _ hL _
  have hval : ∀ (j : Nat) t v, Tryz.f3.params[j]? = some t → args[j]? = some v → Value.okWide Tryz.prog W .any base t v := hval0
  have hW' := hW
  obtain ⟨p, q, hA0, hV, rfl, hfz, hnd⟩ := hW
  have hA : DataW.TrodAll enc Tryz.prog W 0 (fun _ => true) true Tryz.f3.params.toList args.toList ds p := hA0
  rw [Tryz.params3] at hA hval
  obtain ⟨v0, vs0, d0, ds0, p0, q0, hargs, rfl, rfl, h0, r0⟩ := trodAll_cons hA
  obtain ⟨rfl, rfl, rfl⟩ := trodAll_nil r0
  obtain rfl : args = #[v0] := by cases args; simp_all
  obtain ⟨rfl, rfl⟩ := trodVars_none hV
  obtain ⟨a0, len0, cap0, rfl⟩ := okWide_slice Tryz.underlying22 (hval 0 22 v0 rfl rfl)
  have k0 := h0
  have lt0 : ∀ x ∈ p0, x.block < W.heap.size := by obtain ⟨m, hm⟩ := k0; exact DataW.trod_lt m _ _ _ hm
  obtain ⟨z0, w0⟩ : ∃ zs, IsRow .u8 W a0 len0 cap0 zs := by
    obtain ⟨fuel, hf⟩ := h0
    rcases open_ints Tryz.underlying22 Tryz.underlying5 (by kernel_rfl) hf with ⟨hcs, _⟩ | ⟨x, l, c, zs, hcs, _, hl, hm, hz, _, hcell, hwz⟩
    · simp [Value.cells] at hcs
      obtain ⟨rfl, rfl, rfl⟩ := hcs
      exact ⟨[], .inl ⟨rfl, rfl, rfl, rfl⟩⟩
    · simp [Value.cells] at hcs
      obtain ⟨rfl, rfl, rfl⟩ := hcs
      exact ⟨zs, .inr ⟨_, rfl, hl, hm, by simpa using hz, hcell, hwz⟩⟩
  clear hA0 hval0
  refine (walk a0 len0 cap0 z0 W w0 (tab_of (laid_plain hL)) (errs_of (laid_plain hL))).mono fun e W' ⟨he, bel⟩ => ?_
  subst he
  exact ⟨_, rfl, _, _, _, [], _, [], hW', trodAll_mk1 (shut_bool Tryz.underlying4 _), (trodAll_cons_mk (Below.trod laidOut (by kernel_rfl) (of_decide_eq_true (by kernel_rfl)) k0 bel lt0) trodAll_mk0), rfl, bel.frame _, fun h => by cases h⟩

set_option maxRecDepth 100000 in
theorem over : Rows.fnLexRow.holds Tryz.pinned (OpenSpec.ofChange Rows.fnLexSpec) :=
  OpenClaim.holds_of_wide 3 Tryz.f3 rfl rfl rfl rfl rfl rfl rfl ⟨rfl, rfl, rfl, rfl, rfl⟩ rfl rfl rfl rfl rfl (by kernel_rfl) Tryz.func3 (by kernel_rfl)
    (of_decide_eq_true (by kernel_rfl)) (by unfold Func.isWrapper; first | (rw [if_pos (by decide +kernel)]; kernel_rfl) | (rw [if_neg (by decide +kernel)]; exact ⟨rfl, rfl⟩))
    (fun os started H enc _ => lifted os started H enc)

set_option maxRecDepth 100000 in
theorem card_over : Rows.FnLexCardSaid :=
  Claim7.holds_tied_plain_at .later [] [.data, .data, .data, .data, .sentinel, .sentinel, .pinned] true Rows.fnLexCard.stood.harness true
    over (fun _ h => by cases h) (by kernel_rfl) (fun _ h => by cases h) fnLex_row_tie rfl ⟨rfl, rfl⟩ (by kernel_rfl) rfl
    (fun f fn hf hfn => by
      obtain rfl : f = 3 := Option.some.inj ((show Tryz.prog.funcNamed "loop.example/g00282/laws.FnLex" = some 3 by kernel_rfl).symm.trans hf) |>.symm
      obtain rfl : fn = Tryz.f3 := (Option.some.inj (Tryz.func3.symm.trans hfn)).symm
      exact ⟨by kernel_rfl, fun j t ht => by
        rw [Tryz.params3] at ht
        have hm : t ∈ [22] := by simpa using Array.mem_of_getElem? ht
        have hall : ([22].all fun u => !Tryz.prog.wantsStandIn u) = true := by kernel_rfl
        exact (show Tryz.prog.wantsStandIn t = false by simpa using List.all_eq_true.1 hall t hm)⟩)
    (by kernel_rfl)
end Go.Proofs.YtfgcflfnpeapaaaGreatDoor.CardLexS
namespace Go.Proofs.YtfgcflfnpeapaaaGreatDoor
theorem fnLexCard_holds : Rows.FnLexCardSaid := CardLexS.card_over
#print axioms fnLexCard_holds
end Go.Proofs.YtfgcflfnpeapaaaGreatDoor
