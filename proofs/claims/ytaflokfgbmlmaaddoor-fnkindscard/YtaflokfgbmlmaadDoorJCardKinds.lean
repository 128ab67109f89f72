/-
  Proved: the row on FnKinds (for every row of bytes the law answers true: the items of a kind are just those whose facts have it, in order; the row reads as it did, where the library's tables read as listed), and its tied card (what is listed is what the program's own text lays).
-/
import Derived.Test.YtaflokfgbmlmaadDoorJoined1
import Derived.Test.YtaflokfgbmlmaadDoorJoined2
import Derived.Test.YtaflokfgbmlmaadDoorJStoreS
import Derived.Test.YtaflokfgbmlmaadDoorJDrawKd
import Derived.BigQuiet
import Derived.Test.YtaflokfgbmlmaadDoorRows
import Derived.Test.YtaflokfgbmlmaadDoorCards
import Derived.Test.YtaflokfgbmlmaadDoorTie
import Derived.ProofKit
import Derived.LaidMore
import Derived.OpenShut
import Derived.ShutString
import Derived.ChangeOld
import Derived.Below
import Derived.Stop.Joined
import Derived.Stop.LaidErr
import Derived.Lib.LaidTab
import Derived.SevenTiedAt
import Derived.Lib.SmallJoins
import Derived.Deep.RegionHeld3
namespace Go.Proofs.YtaflokfgbmlmaadDoor.CardKinds
open Go.ChangeShapes Go.WideShapes Go.ChangeAt Go.RowKit Go.Joins
open Go.ChangeMaps (open_string shut_string)
set_option linter.unusedVariables false
set_option maxRecDepth 100000

theorem gT : Tryd.prog.globalNamed "internal/strconv.uint64pow10" = some 1 := by kernel_rfl
theorem gTType : (Tryd.prog.globals[1]?).map (·.type) = some 154 := by kernel_rfl
theorem tab_of {r : List (String × DataW Unit)} {a b : String × DataW Unit} {W : World} (h : laidMet Tryd.prog (a :: b :: ("internal/strconv.uint64pow10", Rows.laid_internal_strconv_uint64pow10) :: r) W) : Tab W :=
  Lib.tabIs_of_head (zs := Lib.pow10Tab) (rest := r) gT gTType Tryd.underlying154 Tryd.underlying147 (by kernel_rfl) (by kernel_rfl) h.tail.tail

set_option maxHeartbeats 400000 in
theorem big_any (a : Option Addr) (len cap : Nat) (w : World) (h : len ≤ 9223372036854775807) :
    Calls Tryd.prog 20 #[.slice a len cap] w fun e w' => e = .returned (.bool (decide ((1048576 : Int) < (len : Int)))) ∧ w' = w := by
  go_enter Tryd.func20, Tryd.ntmps20
  go_wp2
  go_ret
  exact ⟨rfl, rfl⟩
theorem kind_hit {J : List It} {kind : ByteArray} {k : Nat} (h : k < J.length) (he : ((iAt J k).kd.toList == kind.toList) = true) : (kindP (J.map It.pl) kind)[(kindK J kind k).length]? = some (iAt J k).id := by
  have h1 := kindK_step (kind := kind) h
  rw [if_pos he] at h1
  have h2 : kindK J kind (k + 1) ++ kindP ((J.map It.pl).drop (k + 1)) kind = kindP (J.map It.pl) kind := by
    unfold kindK kindP
    rw [← List.map_append, ← List.filter_append, List.take_append_drop]
  rw [← h2, h1, List.append_assoc, List.getElem?_append_right (Nat.le_refl _)]
  simp
theorem okI_of {K : List It} (h : ∀ x ∈ K.map It.pl, SmP x) : (∀ i, i < K.length → okI (iAt K i)) ∧ ∀ i, i < K.length → (iAt K i).L.length ≤ 1048580 := by
  have hh : ∀ i, i < K.length → SmP (iAt K i).pl := fun i hi => h _ (List.mem_map.2 ⟨_, by rw [iAt_in hi]; exact List.getElem_mem hi, rfl⟩)
  refine ⟨fun i hi => ?_, fun i hi => ?_⟩
  · obtain ⟨h1, h2, h3⟩ := hh i hi
    exact ⟨Nat.le_trans h1 (by unfold maxLen; omega), Nat.le_trans h2 (by unfold maxLen; omega), fun v hv => Nat.le_trans (h3 v hv) (by unfold maxLen; omega)⟩
  · obtain ⟨h1, h2, h3⟩ := hh i hi
    exact Nat.le_trans h2 (by omega)
theorem below_dd {B : Nat} {w w3 : World} (h : Below B w w3) (n : Nat) : Below B w (w3.drewN n) := ⟨h.os, h.tape, h.output, h.size, h.block⟩

set_option maxRecDepth 100000 in
set_option maxHeartbeats 6400000 in
theorem law (a : Option Addr) (cap : Nat) (code : List UInt8) (w : World) (hr : Rd w a code) (hm : code.length ≤ maxLen) (ht : Tab w) :
    Calls Tryd.prog 6 #[.slice a code.length cap] w fun e w' => e = .returned (.bool true) ∧ Below w.heap.size w w' := by
  unfold maxLen at hm
  by_cases hb : 1048576 < code.length
  · have hd : decide ((1048576 : Int) < (code.length : Int)) = true := by simp; omega
    clear ht
    go_enter Tryd.func6, Tryd.ntmps6
    go_wp2_with (go_at_call 20; refine (big_any _ _ _ _ (by omega)).mono ?_; rintro e w' ⟨rfl, rfl⟩)
    go_ret
    exact ⟨rfl, Below.refl _ _⟩
  · have hd : decide ((1048576 : Int) < (code.length : Int)) = false := by simp; omega
    have HTab := hide ht
    clear ht
    go_enter Tryd.func6, Tryd.ntmps6
    go_wp2_with fail
    refine (big_any _ _ _ _ (by omega)).mono ?_
    rintro e w' ⟨rfl, rfl⟩
    go_wp2_with fail
    refine (drawOfKind_any a cap code w' hr (by omega)).mono ?_
    rintro e w1 ⟨va, vc, nx, J, kind, rfl, hJ, hsm, rJ, B1⟩
    clear hd hsm
    obtain ⟨n, hN⟩ : ∃ n, n = J.length := ⟨_, rfl⟩
    rw [← hN] at hJ ⊢
    have HN := hide hN
    clear hN
    have b2 := B1.alloc B1.size (.cells #[.slice va n vc, .int .i64 nx] 29)
    have hP := boxk_new w1 #[.slice va n vc, .int .i64 nx] 29
    have rJ2 := rJ.below (below_al w1 (.cells #[.slice va n vc, .int .i64 nx] 29))
    clear B1 rJ
    go_wp2_with fail
    generalize w1.alloc (.cells #[.slice va n vc, .int .i64 nx] 29) = w2 at b2 hP rJ2
    refine (implOfKind_any va n vc nx kind J w2 rJ2 HN.out.symm (by omega)).mono ?_
    rintro e w3 ⟨⟨v, rfl, o3⟩, hb3⟩
    have HP3 := hide (box_step hP hb3)
    have rJ3 := rJ2.below hb3
    have B3 : Below w'.heap.size w' w3 := b2.trans (hb3.mono b2.size)
    clear hb3 b2 hP rJ2
    have HHit := hide (fun k (h : k < J.length) he => kind_hit (J := J) (kind := kind) (k := k) h he)
    have HEnd := hide (kindK_end J kind)
    generalize kindP (J.map It.pl) kind = zs at o3 HHit HEnd
    obtain ⟨av, cv, hv, hzs⟩ : ∃ av cv, v = .slice av zs.length cv ∧ ∀ i z, zs[i]? = some z → ∃ b, av = some ⟨b, 0, none⟩ ∧ w3.cell? ⟨b, i, none⟩ = some (.int .i64 z) := by
      rcases o3.2 with ⟨rfl, h0⟩ | ⟨g, cp, cur, rfl, -⟩
      · exact ⟨none, 0, by rw [h0], fun i z hz => by rw [List.getElem?_eq_some_iff] at hz; obtain ⟨hi, -⟩ := hz; omega⟩
      · refine ⟨_, cp, rfl, fun i z hz => ⟨g, rfl, ?_⟩⟩
        have := o3.cells (g := g) rfl i (.int .i64 z) (by unfold valsN; rw [List.getElem?_map, hz]; rfl)
        rwa [Addr.add_lit, Nat.zero_add] at this
    subst hv
    have HZs := hide hzs
    have hzl : zs.length ≤ 9223372036854775807 := by
      have h1 := congrArg List.length HEnd.out
      have h2 := kindK_len J kind J.length
      have h3 := HN.out
      omega
    clear hzs o3
    go_wp2
    go_loopw [6, 7] (fun m i wr => ∃ (k mm nd : Nat), k ≤ n ∧ i = .int .i64 k ∧ mm = (kindK J kind k).length ∧ m = .int .i64 mm ∧ wr = w3.drewN nd) (fun _ i _ => n - (intOf i).toNat)
    case atStart => exact ⟨0, 0, 0, Nat.zero_le _, rfl, by rw [kindK_zero]; rfl, rfl, rfl⟩
    case round =>
      obtain ⟨k, mm, nd, hk, rfl, hmm, rfl, rfl⟩ := hrel
      have HMm := hide hmm
      have hmk := kindK_len J kind k
      rw [← hmm] at hmk
      clear hmm
      have p0 := boxk_cell HP3.out 0 _ rfl
      by_cases hlt : k < n
      · obtain ⟨b, off, hab, hbw, hc⟩ := RdI.open rJ3 (by rw [← HN.out]; omega)
        obtain ⟨d0, d1, -, -⟩ := hc k (by rw [← HN.out]; exact hlt)
        have hkJ : k < J.length := by rw [← HN.out]; exact hlt
        have HStep := hide (kindK_step (J := J) (kind := kind) hkJ)
        have HLt : Hid (k + 1 ≤ n) := hlt
        clear hc
        subst hab
        have hl1 : (k : Int) < (n : Int) := by omega
        have hl2 : (0 : Int) ≤ (k : Int) := by omega
        cases he : ((iAt J k).kd.toList == kind.toList)
        · have HM2 : Hid (mm = (kindK J kind (k + 1)).length) := by unfold Hid; rw [HStep.out, he, HMm.out]; rfl
          go_wp2
          go_roundw
          case rel => exact ⟨k + 1, mm, nd, HLt.out, by go_num, HM2.out, rfl, rfl⟩
          case measure => have := HLt.out; simp [intOf]; omega
        · have hz := HHit.out k hkJ he
          rw [← HMm.out] at hz
          have hml : mm < zs.length := (List.getElem?_eq_some_iff.1 hz).1
          obtain ⟨bz, hbz, dz⟩ := HZs.out mm _ hz
          subst hbz
          have HM2 : Hid (mm + 1 = (kindK J kind (k + 1)).length) := by unfold Hid; rw [HStep.out, he, HMm.out]; simp
          have hm1 : (mm : Int) < (zs.length : Int) := by omega
          have hm2 : (0 : Int) ≤ (mm : Int) := by omega
          have hgd : decide ((zs.length : Int) ≤ (mm : Int)) = false := by simp; omega
          generalize (iAt J k).id = idk at d0 dz
          have kid : (idk != idk) = false := by simp
          clear hz
          go_wp2
          go_quiet (fail)
          go_wp2
          go_roundw
          case rel => exact ⟨k + 1, mm + 1, _, HLt.out, by go_num, HM2.out, by go_num, rfl⟩
          case measure => have := HLt.out; simp [intOf]; omega
      · have hkn : k = J.length := by rw [← HN.out]; omega
        have hmz : mm = zs.length := by rw [HMm.out, hkn, HEnd.out]
        subst hmz
        have Bd : Below w'.heap.size w' (w3.drewN nd) := below_dd B3 nd
        clear HHit HEnd HZs hkn rJ3 HP3 B3 hmk
        go_wp2_with fail
        clear p0
        generalize w3.drewN nd = w4 at Bd
        refine (drawStoreOk_any a cap code w4 (hr.below Bd) (by omega)).mono ?_
        rintro e w5 ⟨vb, vd, ny, K, rfl, hK, hsm, rK, hb5⟩
        obtain ⟨hok, hll⟩ := okI_of hsm
        have HIo := hide (fun W (h : RdI W vb K) (ht : Tab W) => implStoreOk_any vb K.length vd ny K W h rfl (by omega) hok hll ht)
        have HSo := hide (fun W (h : RdI W vb K) => specStoreOk_any vb K.length vd ny K W h rfl (by omega) hok hll)
        have B5 : Below w'.heap.size w' w5 := Bd.trans (hb5.mono Bd.size)
        have B6 := B5.alloc B5.size (.cells #[.slice vb K.length vd, .int .i64 ny] 29)
        have hP6 := boxk_new w5 #[.slice vb K.length vd, .int .i64 ny] 29
        have rK6 := rK.below (below_al w5 (.cells #[.slice vb K.length vd, .int .i64 ny] 29))
        obtain ⟨sb, hsb⟩ : ∃ t, t = storeB ny K := ⟨_, rfl⟩
        rw [← hsb] at HIo HSo
        clear hsb hsm hok hll rK hb5 B5 Bd
        have k1 : (sb == sb) = true := by simp
        have k2 : ((zs.length : Int) == (zs.length : Int)) = true := by simp
        go_wp2_with fail
        generalize w5.alloc (.cells #[.slice vb K.length vd, .int .i64 ny] 29) = w6 at B6 hP6 rK6
        have R0 := hide (show RdI w6.drew vb K from rK6.below ((Below.refl _ _).drew))
        have X0 := hide (show w6.drew.heap[w5.heap.size]? = _ from hP6)
        have BB := hide (show Below w'.heap.size w' w6.drew from B6.drew)
        have T0 := hide (show Tab w6.drew from HTab.out.later B6.drew (Nat.le_refl _))
        clear rK6 hP6 B6 HTab
        go_region_held3 (fun W => W.cell? ⟨w5.heap.size, 0, none⟩ = some (.slice vb K.length vd) ∧ W.cell? ⟨w5.heap.size, 1, none⟩ = some (.int .i64 ny)) (first | exact ⟨boxk_cell X0.out 0 _ rfl, boxk_cell X0.out 1 _ rfl⟩ | exact ⟨boxk_cell (box_step X0.out b1) 0 _ rfl, boxk_cell (box_step X0.out b1) 1 _ rfl⟩ | exact ⟨boxk_cell (box_step (box_step X0.out b1) b2) 0 _ rfl, boxk_cell (box_step (box_step X0.out b1) b2) 1 _ rfl⟩)
          (first | (go_at_call 10; refine (HIo.out _ ?_ ?_).mono ?_; (with_reducible exact R0.out); (with_reducible exact T0.out); rintro e u1 ⟨rfl, b1⟩) | (go_at_call 8; refine (HSo.out _ ?_).mono ?_; (with_reducible exact R0.out.below b1); rintro e u2 ⟨rfl, b2⟩))
        all_goals
          have BB1 := BB.out.trans (b1.mono BB.out.size)
          have BB2 := BB1.trans (b2.mono BB1.size)
          clear b1 b2 BB1 X0 R0 BB T0 HIo HSo
          go_wp2
          go_ret
          exact ⟨rfl, BB2⟩

theorem walk (a0 : Option Addr) (len0 cap0 : Nat) (z0 : List Int) (w : World) (w0 : IsRow .u8 w a0 len0 cap0 z0) (ht : Tab w) :
    Calls Tryd.prog 6 #[.slice a0 len0 cap0] w fun e w' => e = .returned (.bool true) ∧ Below w.heap.size w w' := by
  obtain ⟨bs, hl, hr⟩ := rd_row w0
  have hm : len0 ≤ maxLen := isRow_len w0
  subst hl
  exact law a0 cap0 bs w hr hm ht

theorem own : ownKnob Tryd.prog.godebug = none := by kernel_rfl
theorem laidOut : laidOutB Tryd.prog = true := by kernel_rfl

theorem door_met (os : Os) (args : Array Value) : laidMetH Tryd.prog Rows.fnKindsRow.laid ((World.doorLaid Tryd.prog 400 os).forCall (fun _ _ => 0) ⟨#[], args, []⟩).memory :=
  laidMetH_of_parts3 (fuel := 8) (laidMet_of_run' 8 (by kernel_rfl) (by kernel_rfl)) (by kernel_rfl) (by kernel_rfl)
theorem laid_plain {W : World} (h : laidMetH Tryd.prog Rows.fnKindsRow.laid W) : laidMet Tryd.prog Rows.fnKindsRow.laid W := by
  rw [MakeChecks.laidMetH_plain _ _ _ (by kernel_rfl)] at h
  exact h

set_option maxRecDepth 100000 in
theorem lifted (os : Os) (started : os.Started) (H : Type) (enc : TypeId × Value → H) :
    ReturnsInHanded {} Tryd.checked os 6 .any (fun w args => (Rows.fnKindsSpec.pre enc Tryd.prog Tryd.f6 [] false w args ∧ laidMetH Tryd.prog Rows.fnKindsRow.laid w) ∧ sizedMet enc Tryd.prog Tryd.f6 (OpenSpec.ofChange Rows.fnKindsSpec) false w args)
      (Rows.fnKindsSpec.post enc Tryd.prog Tryd.f6 false true false false) := by
  refine returnsInHanded_of_change_and (C := Tryd.checked) (X := fun w _ => laidMetH Tryd.prog Rows.fnKindsRow.laid w) (fun _ _ _ hh h => h.of_heap hh) own started (by kernel_rfl) Tryd.func6
    (ChangeSpec.witness_shaped (enc := enc) (C := Tryd.checked) (os := os) (X := fun w _ => laidMetH Tryd.prog Rows.fnKindsRow.laid w) false (World.doorLaid Tryd.prog 400 os) #[.slice none 0 0] 8 rfl (World.shaped_of_RefB (by kernel_rfl) (by kernel_rfl)) (by kernel_rfl) (by kernel_rfl) (by kernel_rfl) (door_met os _)) ?_
  intro W base args ds gs before hval0 hW _ _ hL _
  have hval : ∀ (j : Nat) t v, Tryd.f6.params[j]? = some t → args[j]? = some v → Value.okWide Tryd.prog W .any base t v := hval0
  have hW' := hW
  obtain ⟨p, q, hA0, hV, rfl, hfz, hnd⟩ := hW
  have hA : DataW.TrodAll enc Tryd.prog W 0 (fun _ => true) true Tryd.f6.params.toList args.toList ds p := hA0
  rw [Tryd.params6] at hA hval
  obtain ⟨v0, vs0, d0, ds0, p0, q0, hargs, rfl, rfl, h0, r0⟩ := trodAll_cons hA
  obtain ⟨rfl, rfl, rfl⟩ := trodAll_nil r0
  obtain rfl : args = #[v0] := by cases args; simp_all
  obtain ⟨rfl, rfl⟩ := trodVars_none hV
  obtain ⟨a0, len0, cap0, rfl⟩ := okWide_slice Tryd.underlying47 (hval 0 47 v0 rfl rfl)
  have k0 := h0
  have lt0 : ∀ x ∈ p0, x.block < W.heap.size := by obtain ⟨m, hm⟩ := k0; exact DataW.trod_lt m _ _ _ hm
  obtain ⟨z0, w0⟩ : ∃ zs, IsRow .u8 W a0 len0 cap0 zs := by
    obtain ⟨fuel, hf⟩ := h0
    rcases open_ints Tryd.underlying47 Tryd.underlying5 (by kernel_rfl) hf with ⟨hcs, _⟩ | ⟨x, l, c, zs, hcs, _, hl, hm, hz, _, hcell, hwz⟩
    · simp [Value.cells] at hcs
      obtain ⟨rfl, rfl, rfl⟩ := hcs
      exact ⟨[], .inl ⟨rfl, rfl, rfl, rfl⟩⟩
    · simp [Value.cells] at hcs
      obtain ⟨rfl, rfl, rfl⟩ := hcs
      exact ⟨zs, .inr ⟨_, rfl, hl, hm, by simpa using hz, hcell, hwz⟩⟩
  clear hA0 hval0
  refine (walk a0 len0 cap0 z0 W w0 (tab_of (laid_plain hL))).mono fun e W' ⟨he, bel⟩ => ?_
  subst he
  exact ⟨_, rfl, _, _, _, [], _, [], hW', trodAll_mk1 (shut_bool Tryd.underlying4 _), (trodAll_cons_mk (Below.trod laidOut (by kernel_rfl) (of_decide_eq_true (by kernel_rfl)) k0 bel lt0) trodAll_mk0), rfl, bel.frame _, fun h => by cases h⟩

set_option maxRecDepth 100000 in
theorem over : Rows.fnKindsRow.holds Tryd.pinned (OpenSpec.ofChange Rows.fnKindsSpec) :=
  OpenClaim.holds_of_wide 6 Tryd.f6 rfl rfl rfl rfl rfl rfl rfl ⟨rfl, rfl, rfl, rfl, rfl⟩ rfl rfl rfl rfl rfl (by kernel_rfl) Tryd.func6 (by kernel_rfl)
    (of_decide_eq_true (by kernel_rfl)) (by unfold Func.isWrapper; first | (rw [if_pos (by decide +kernel)]; kernel_rfl) | (rw [if_neg (by decide +kernel)]; exact ⟨rfl, rfl⟩))
    (fun os started H enc _ => lifted os started H enc)

set_option maxRecDepth 100000 in
theorem card_over : Rows.FnKindsCardSaid :=
  Claim7.holds_tied_plain_at .later [] [.data, .data, .data] true Rows.fnKindsCard.stood.harness true
    over (fun _ h => by cases h) (by kernel_rfl) (fun _ h => by cases h) fnKinds_row_tie rfl ⟨rfl, rfl⟩ (by kernel_rfl) rfl
    (fun f fn hf hfn => by
      obtain rfl : f = 6 := Option.some.inj ((show Tryd.prog.funcNamed "loop.example/g00282/laws.FnKinds" = some 6 by kernel_rfl).symm.trans hf) |>.symm
      obtain rfl : fn = Tryd.f6 := (Option.some.inj (Tryd.func6.symm.trans hfn)).symm
      exact ⟨by kernel_rfl, fun j t ht => by
        rw [Tryd.params6] at ht
        have hm : t ∈ [47] := by simpa using Array.mem_of_getElem? ht
        have hall : ([47].all fun u => !Tryd.prog.wantsStandIn u) = true := by kernel_rfl
        exact (show Tryd.prog.wantsStandIn t = false by simpa using List.all_eq_true.1 hall t hm)⟩)
    (by kernel_rfl)
end Go.Proofs.YtaflokfgbmlmaadDoor.CardKinds
namespace Go.Proofs.YtaflokfgbmlmaadDoor
theorem fnKindsCard_holds : Rows.FnKindsCardSaid := CardKinds.card_over
#print axioms fnKindsCard_holds
end Go.Proofs.YtaflokfgbmlmaadDoor
