/-
  Proved: the row on tokens that are joined (for every row of bytes the law answers true: drawn tokens, joined, come back; each is right and has a text; and the row reads as it did, where the library's tables and its two errors read as listed), and its tied card (what is listed is what the program's own text lays).
-/
import Derived.Test.YtfgcflfnpeapaaaDoorLexJ
import Derived.Test.YtfgcflfnpeapaaaDoorJoinI
import Derived.Test.YtfgcflfnpeapaaaDoorDrawTok
import Derived.Test.YtfgcflfnpeapaaaDoorCardLexB
namespace Go.Proofs.YtfgcflfnpeapaaaDoor.CardLexed
open Go.ChangeShapes Go.WideShapes Go.ChangeAt Go.RowKit Go.Joins
open Go.ChangeMaps (open_string shut_string)
open Go.Proofs.YtfgcflfnpeapaaaDoor.LexList (tab_of errs_of)
set_option linter.unusedVariables false
set_option maxRecDepth 100000

set_option maxHeartbeats 400000 in
theorem big_any (a : Option Addr) (len cap : Nat) (w : World) (h : len ≤ 9223372036854775807) :
    Calls Tryd.prog 20 #[.slice a len cap] w fun e w' => e = .returned (.bool (decide ((1048576 : Int) < (len : Int)))) ∧ w' = w := by
  go_enter Tryd.func20, Tryd.ntmps20
  go_wp2
  go_ret
  exact ⟨rfl, rfl⟩
theorem tok_ne {v : V3} (h : tokB v.K v.N v.S = true) : v.tok ≠ [] :=
  (one_tok (s := ⟨v.tok.toArray⟩) (p := 0) (r := []) h (by simp) (.inl rfl)).2.2
theorem below_dn {w u : World} {n : Nat} (k : Below (w.drewN n).heap.size (w.drewN n) u) : Below w.heap.size w u :=
  (show Below w.heap.size w (w.drewN n) from ⟨rfl, rfl, rfl, Nat.le_refl _, fun _ _ => rfl⟩).trans k

set_option maxRecDepth 100000 in
set_option maxHeartbeats 1600000 in
theorem same_any (a b : Option Addr) (ca cb : Nat) (L : List V3) (w : World) (hr : RdV w a L) (hq : RdV w b L) (hn : L.length ≤ 1048580) :
    Calls Tryd.prog 23 #[.slice a L.length ca, .slice b L.length cb] w fun e w' => e = .returned (.bool true) ∧ Below w.heap.size w w' := by
  obtain ⟨n, hN⟩ : ∃ n, n = L.length := ⟨_, rfl⟩
  rw [← hN] at hn ⊢
  have HN := hide hN
  clear hN
  have h2 : ((n : Int) != (n : Int)) = false := by simp
  go_enter Tryd.func23, Tryd.ntmps23
  go_wp2
  go_loopw [5] (fun i wr => ∃ (k nd : Nat), k ≤ n ∧ i = .int .i64 k ∧ wr = w.drewN nd) (fun i _ => n - (intOf i).toNat)
  case atStart => exact ⟨0, 0, Nat.zero_le _, rfl, rfl⟩
  case round =>
    obtain ⟨k, nd, hk, rfl, rfl⟩ := hrel
    by_cases hlt : k < n
    · obtain ⟨b1, o1, e1, -, hc1⟩ := hr.open (by rw [← HN.out]; omega)
      obtain ⟨b2, o2, e2, -, hc2⟩ := hq.open (by rw [← HN.out]; omega)
      obtain ⟨c0, c1, c2⟩ := hc1 k (by rw [← HN.out]; exact hlt)
      obtain ⟨d0, d1, d2⟩ := hc2 k (by rw [← HN.out]; exact hlt)
      have l1 : (k : Int) < (n : Int) := by omega
      clear hc1 hc2
      subst e1 e2
      have k1 : ((vAt L k).K == (vAt L k).K) = true := by simp
      have k2 : ((vAt L k).N == (vAt L k).N) = true := by simp
      have k3 : ((vAt L k).S.toList == (vAt L k).S.toList) = true := by simp
      go_wp2
      go_quiet (fail)
      go_wp2
      go_roundw
      case rel => exact ⟨k + 1, _, by omega, by go_num, rfl⟩
      case measure => simp [intOf]; omega
    · go_wp2
      go_ret
      exact ⟨rfl, below_dn (Below.refl _ _)⟩

set_option maxRecDepth 100000 in
set_option maxHeartbeats 3200000 in
theorem law (a : Option Addr) (cap : Nat) (code : List UInt8) (w : World) (hr : Rd w a code) (hm : code.length ≤ maxLen) (ht : Tab w) (he : Errs w) :
    Calls Tryd.prog 6 #[.slice a code.length cap] w fun e w' => e = .returned (.bool true) ∧ Below w.heap.size w w' := by
  have HTab := hide ht
  have HErr := hide he
  clear ht he
  unfold maxLen at hm
  by_cases hb : 1048576 < code.length
  · have hd : decide ((1048576 : Int) < (code.length : Int)) = true := by simp; omega
    go_enter Tryd.func6, Tryd.ntmps6
    go_wp2_with (go_at_call 20; refine (big_any _ _ _ _ (by omega)).mono ?_; rintro e w' ⟨rfl, rfl⟩)
    go_ret
    exact ⟨rfl, Below.refl _ _⟩
  · have hd : decide ((1048576 : Int) < (code.length : Int)) = false := by simp; omega
    go_enter Tryd.func6, Tryd.ntmps6
    go_wp2_with fail
    refine (big_any _ _ _ _ (by omega)).mono ?_
    rintro e w' ⟨rfl, hw'⟩
    subst hw'
    go_wp2_with fail
    refine (drawJoin_any a cap code _ hr (by omega)).mono ?_
    rintro e w1 ⟨⟨v, L, rfl, ho, hl, htok⟩, b1⟩
    obtain ⟨al, cl, rfl, hrl, -, -, -⟩ := rdV_owns ho
    have HTok := hide htok
    have HS : Hid (∀ u ∈ L, u.S.size ≤ maxLen) := fun u hu => by have := tokB_le (HTok.out u hu); unfold maxLen; omega
    clear ho htok hd
    go_wp2_with fail
    refine (implJoin_any al cl L _ hrl HS.out (by omega) (HTab.out.later b1 (Nat.le_refl _))).mono ?_
    rintro e w2 ⟨rfl, hb2⟩
    have b2 : Below w'.heap.size w' w2 := b1.trans (hb2.mono b1.size)
    have hrl2 := hrl.below hb2
    have HJ := hide (lex_join L HTok.out (by omega))
    have hjs : (⟨(joinT L L.length).toArray⟩ : ByteArray).size ≤ 1048576 := by
      show (joinT L L.length).toArray.size ≤ _
      have := joinT_le L L.length
      simp; omega
    clear hb2 hrl b1
    generalize (⟨(joinT L L.length).toArray⟩ : ByteArray) = s at HJ hjs ⊢
    go_wp2_with fail
    refine (implLex_any s _ hjs (HTab.out.later b2 (Nat.le_refl _)) (HErr.out.later b2 (Nat.le_refl _))).mono ?_
    rintro e w3 ⟨⟨v3, p, L3, rfl, ho3, hl3, -⟩, hb3⟩
    rw [HJ.out] at hl3
    obtain ⟨rfl, rfl⟩ := Prod.mk.inj hl3
    obtain ⟨ax, cx, rfl, hrx, -, -, -⟩ := rdV_owns ho3
    have b3 : Below w'.heap.size w' w3 := b2.trans (hb3.mono b2.size)
    have hrl3 := hrl2.below hb3
    obtain ⟨n, hN⟩ : ∃ n, n = L.length := ⟨_, rfl⟩
    have HN := hide hN
    rw [← hN]
    rw [← hN] at hl
    clear hl3 ho3 hb3 hrl2 b2 hN HJ
    go_wp2
    go_loopw [6] (fun i wr => ∃ (k : Nat), k ≤ n ∧ i = .int .i64 k ∧ Below w3.heap.size w3 wr) (fun i _ => n - (intOf i).toNat)
    case atStart => exact ⟨0, Nat.zero_le _, rfl, Below.refl _ _⟩
    case round =>
      obtain ⟨k, hk, rfl, hbel⟩ := hrel
      by_cases hlt : k < n
      · have hrk := hrl3.below hbel
        obtain ⟨b1, o1, e1, hbw, hc1⟩ := hrk.open (by rw [← HN.out]; omega)
        obtain ⟨c0, c1, c2⟩ := hc1 k (by rw [← HN.out]; exact hlt)
        have hmem : vAt L k ∈ L := by rw [vAt_in (by rw [← HN.out]; exact hlt)]; exact List.getElem_mem _
        have HT := hide (HTok.out _ hmem)
        have HNe := hide (tok_ne (HTok.out _ hmem))
        have hS := HS.out _ hmem
        have l1 : (k : Int) < (n : Int) := by omega
        unfold V3.tok at HNe
        clear hc1 hrk hmem
        subst e1
        generalize (vAt L k).K = K at c0 HT HNe
        generalize (vAt L k).N = N at c1 HT HNe
        generalize (vAt L k).S = S at c2 HT HNe hS
        go_wp2_with fail
        refine (implTokenOk_any K N S _ hS).mono ?_
        rw [HT.out]
        rintro e w4 ⟨rfl, hb4⟩
        have B4 : Below w3.heap.size w3 w4 := hbel.trans (hb4.mono hbel.size)
        have d0 : w4.cell? ⟨b1, o1 + k * 3, none⟩ = some (.int .i64 K) := by rw [hb4.cell (World.block_lt_of_cell? _ _ c0)]; exact c0
        have d1 : w4.cell? ⟨b1, o1 + k * 3 + 1, none⟩ = some (.int .i64 N) := by rw [hb4.cell (World.block_lt_of_cell? _ _ c1)]; exact c1
        have d2 : w4.cell? ⟨b1, o1 + k * 3 + 2, none⟩ = some (.string S) := by rw [hb4.cell (World.block_lt_of_cell? _ _ c2)]; exact c2
        clear hb4 c0 c1 c2
        go_wp2_with fail
        refine (implTokenText_any K N S _ hS (HTab.out.later (b3.trans (B4.mono b3.size)) (Nat.le_refl _))).mono ?_
        rintro e w5 ⟨rfl, hb5⟩
        have B5 : Below w3.heap.size w3 w5 := B4.trans (hb5.mono B4.size)
        have hE : (⟨(tokL K N S).toArray⟩ : ByteArray).toList.isEmpty = false := isEmpty_false (by show (tokL K N S).toArray.size ≠ 0; simpa using HNe.out)
        generalize (⟨(tokL K N S).toArray⟩ : ByteArray) = tx at hE ⊢
        clear hb5 d0 d1 d2 B4
        go_wp2
        go_roundw
        case rel => exact ⟨k + 1, by omega, by go_num, B5⟩
        case measure => simp [intOf]; omega
      · have hSm := fun W (h : Below w3.heap.size w3 W) => same_any ax al cx cl L W (hrx.below h) (hrl3.below h) (by rw [← HN.out]; omega)
        have HSm := hide hSm
        rw [← HN.out] at HSm
        clear hSm
        go_wp2_with fail
        refine (HSm.out _ hbel).mono ?_
        rintro e w4 ⟨rfl, hb4⟩
        have Bend : Below w'.heap.size w' w4 := b3.trans ((hbel.trans (hb4.mono hbel.size)).mono b3.size)
        clear hb4
        go_wp2
        go_ret
        exact ⟨rfl, Bend⟩

theorem walk (a0 : Option Addr) (len0 cap0 : Nat) (z0 : List Int) (w : World) (w0 : IsRow .u8 w a0 len0 cap0 z0) (ht : Tab w) (he : Errs w) :
    Calls Tryd.prog 6 #[.slice a0 len0 cap0] w fun e w' => e = .returned (.bool true) ∧ Below w.heap.size w w' := by
  obtain ⟨bs, hl, hr⟩ := rd_row w0
  have hm : len0 ≤ maxLen := isRow_len w0
  subst hl
  exact law a0 cap0 bs w hr hm ht he

theorem own : ownKnob Tryd.prog.godebug = none := by kernel_rfl
theorem laidOut : laidOutB Tryd.prog = true := by kernel_rfl

theorem laid_plain {W : World} (h : laidMetH Tryd.prog Rows.fnLexedRow.laid W) : laidMet Tryd.prog Rows.fnLexedRow.laid W := by
  rw [MakeChecks.laidMetH_plain _ _ _ (by kernel_rfl)] at h
  exact h

set_option maxRecDepth 100000 in
theorem lifted (os : Os) (started : os.Started) (H : Type) (enc : TypeId × Value → H) :
    ReturnsInHanded {} Tryd.checked os 6 .any (fun w args => (Rows.fnLexedSpec.pre enc Tryd.prog Tryd.f6 [] false w args ∧ laidMetH Tryd.prog Rows.fnLexedRow.laid w) ∧ sizedMet enc Tryd.prog Tryd.f6 (OpenSpec.ofChange Rows.fnLexedSpec) false w args)
      (Rows.fnLexedSpec.post enc Tryd.prog Tryd.f6 false true false false) := by
  refine returnsInHanded_of_change_and (C := Tryd.checked) (X := fun w _ => laidMetH Tryd.prog Rows.fnLexedRow.laid w) (fun _ _ _ hh h => h.of_heap hh) own started (by kernel_rfl) Tryd.func6
    (ChangeSpec.witness_shaped (enc := enc) (C := Tryd.checked) (os := os) (X := fun w _ => laidMetH Tryd.prog Rows.fnLexedRow.laid w) false (World.laidAll Tryd.prog os Rows.fnLexedRow.laid) #[.slice none 0 0] 8 (World.laidAll_os _ _ _) (World.shaped_of_ZipB (by kernel_rfl) (by kernel_rfl)) (by kernel_rfl) (by kernel_rfl) (by kernel_rfl) (by rw [MakeChecks.laidMetH_plain _ _ _ (by kernel_rfl)]; exact laidMet_laidAll _ (by kernel_rfl) (by kernel_rfl))) ?_
  intro W base args ds gs before hval0 hW _ _ hL _
  have hval : ∀ (j : Nat) t v, Tryd.f6.params[j]? = some t → args[j]? = some v → Value.okWide Tryd.prog W .any base t v := hval0
  have hW' := hW
  obtain ⟨p, q, hA0, hV, rfl, hfz, hnd⟩ := hW
  have hA : DataW.TrodAll enc Tryd.prog W 0 (fun _ => true) true Tryd.f6.params.toList args.toList ds p := hA0
  rw [Tryd.params6] at hA hval
  obtain ⟨v0, vs0, d0, ds0, p0, q0, hargs, rfl, rfl, h0, r0⟩ := trodAll_cons hA
  obtain ⟨rfl, rfl, rfl⟩ := trodAll_nil r0
  obtain rfl : args = #[v0] := by cases args; simp_all
  obtain ⟨rfl, rfl⟩ := trodVars_none hV
  obtain ⟨a0, len0, cap0, rfl⟩ := okWide_slice Tryd.underlying40 (hval 0 40 v0 rfl rfl)
  have k0 := h0
  have lt0 : ∀ x ∈ p0, x.block < W.heap.size := by obtain ⟨m, hm⟩ := k0; exact DataW.trod_lt m _ _ _ hm
  obtain ⟨z0, w0⟩ : ∃ zs, IsRow .u8 W a0 len0 cap0 zs := by
    obtain ⟨fuel, hf⟩ := h0
    rcases open_ints Tryd.underlying40 Tryd.underlying5 (by kernel_rfl) hf with ⟨hcs, _⟩ | ⟨x, l, c, zs, hcs, _, hl, hm, hz, _, hcell, hwz⟩
    · simp [Value.cells] at hcs
      obtain ⟨rfl, rfl, rfl⟩ := hcs
      exact ⟨[], .inl ⟨rfl, rfl, rfl, rfl⟩⟩
    · simp [Value.cells] at hcs
      obtain ⟨rfl, rfl, rfl⟩ := hcs
      exact ⟨zs, .inr ⟨_, rfl, hl, hm, by simpa using hz, hcell, hwz⟩⟩
  clear hA0 hval0
  refine (walk a0 len0 cap0 z0 W w0 (tab_of (laid_plain hL)) (errs_of (laid_plain hL))).mono fun e W' ⟨he, bel⟩ => ?_
  subst he
  exact ⟨_, rfl, _, _, _, [], _, [], hW', trodAll_mk1 (shut_bool Tryd.underlying4 _), (trodAll_cons_mk (Below.trod laidOut (by kernel_rfl) (of_decide_eq_true (by kernel_rfl)) k0 bel lt0) trodAll_mk0), rfl, bel.frame _, fun h => by cases h⟩

set_option maxRecDepth 100000 in
theorem over : Rows.fnLexedRow.holds Tryd.pinned (OpenSpec.ofChange Rows.fnLexedSpec) :=
  OpenClaim.holds_of_wide 6 Tryd.f6 rfl rfl rfl rfl rfl rfl rfl ⟨rfl, rfl, rfl, rfl, rfl⟩ rfl rfl rfl rfl rfl (by kernel_rfl) Tryd.func6 (by kernel_rfl)
    (of_decide_eq_true (by kernel_rfl)) (by unfold Func.isWrapper; first | (rw [if_pos (by decide +kernel)]; kernel_rfl) | (rw [if_neg (by decide +kernel)]; exact ⟨rfl, rfl⟩))
    (fun os started H enc _ => lifted os started H enc)

set_option maxRecDepth 100000 in
theorem card_over : Rows.FnLexedCardSaid :=
  Claim7.holds_tied_plain_at .later [] [.data, .data, .data, .data, .sentinel, .sentinel, .pinned] true Rows.fnLexedCard.stood.harness true
    over (fun _ h => by cases h) (by kernel_rfl) (fun _ h => by cases h) fnLexed_row_tie rfl ⟨rfl, rfl⟩ (by kernel_rfl) rfl
    (fun f fn hf hfn => by
      obtain rfl : f = 6 := Option.some.inj ((show Tryd.prog.funcNamed "loop.example/g00282/laws.FnLexed" = some 6 by kernel_rfl).symm.trans hf) |>.symm
      obtain rfl : fn = Tryd.f6 := (Option.some.inj (Tryd.func6.symm.trans hfn)).symm
      exact ⟨by kernel_rfl, fun j t ht => by
        rw [Tryd.params6] at ht
        have hm : t ∈ [40] := by simpa using Array.mem_of_getElem? ht
        have hall : ([40].all fun u => !Tryd.prog.wantsStandIn u) = true := by kernel_rfl
        exact (show Tryd.prog.wantsStandIn t = false by simpa using List.all_eq_true.1 hall t hm)⟩)
    (by kernel_rfl)
end Go.Proofs.YtfgcflfnpeapaaaDoor.CardLexed
namespace Go.Proofs.YtfgcflfnpeapaaaDoor
theorem fnLexedCard_holds : Rows.FnLexedCardSaid := CardLexed.card_over
#print axioms fnLexedCard_holds
end Go.Proofs.YtfgcflfnpeapaaaDoor
