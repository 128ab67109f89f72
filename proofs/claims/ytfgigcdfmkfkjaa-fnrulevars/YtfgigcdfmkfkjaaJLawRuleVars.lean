/-
  Proved: for every row of bytes, the law on what a drawn rule binds answers true (each variable of a pattern that is not Not is there, once; its kinds are those of all its patterns; the model says the same), and the row reads as it did. No condition.
-/
import Derived.Test.YtfgigcdfmkfkjaaJDrawRu
import Derived.Test.YtfgigcdfmkfkjaaJTxtM
import Derived.Test.YtfgigcdfmkfkjaaJoined3
import Derived.Test.YtfgigcdfmkfkjaaRows
import Derived.ProofKit
import Derived.OpenShut
import Derived.ShutString
import Derived.ChangeOld
import Derived.Below
import Derived.Laws.StructEq
import Derived.Deep.QuietTactic
import Derived.BigQuiet
namespace Go.Proofs.Ytfgigcdfmkfkjaa.LawRV
open Go.ChangeShapes Go.WideShapes Go.ChangeAt Go.RowKit
open Go.ChangeMaps (open_string shut_string)
set_option linter.unusedVariables false

set_option maxHeartbeats 400000 in
theorem big_any (a : Option Addr) (len cap : Nat) (w : World) (h : len ≤ 9223372036854775807) :
    Calls Try.prog 36 #[.slice a len cap] w fun e w' => e = .returned (.bool (decide ((1048576 : Int) < (len : Int)))) ∧ w' = w := by
  go_enter Try.func36, Try.ntmps36
  go_wp2
  go_ret
  exact ⟨rfl, rfl⟩

/-- a rule in memory, its variables and its kinds -/
structure Rv (w0 : World) (X : Nat) (x : RE) (aV aK : Option Addr) (W : World) : Prop where
  bX : W.heap[X]? = some (.cells #[.string x.nm, .int .i64 x.sal, .slice x.aP x.nP x.cP, .slice x.aC x.nC x.cC, .slice x.aA x.nA x.cA] 49 (0, 0))
  rd : RdRule W x
  rv : RdS W aV (varsB [] (posB x.P))
  rk : RdS W aK (kindsL [] x.P)
  bel : Below w0.heap.size w0 W
theorem Rv.keep {w0 W W' : World} {X : Nat} {x : RE} {aV aK : Option Addr} (h : Rv w0 X x aV aK W) (hb : Below W.heap.size W W') : Rv w0 X x aV aK W' :=
  ⟨box_step h.bX hb, h.rd.below hb, h.rv.below hb, h.rk.below hb, h.bel.trans (hb.mono h.bel.size)⟩
theorem cap_owns {w : World} {base n len cap : Nat} {T : TypeId} {a : Option Addr} {xs : List Value} (h : w.ownsRow base T 1 (.slice a len cap) n xs) : n ≤ cap := by
  rcases h.2 with ⟨-, h0⟩ | ⟨g, c, cur, h1, -, -, hnc, -⟩
  · omega
  · simp only [Value.slice.injEq] at h1
    omega
theorem bel_drewN (w : World) (n : Nat) : Below w.heap.size w (w.drewN n) := ⟨rfl, rfl, rfl, Nat.le_refl _, fun _ _ => rfl⟩
theorem varsL_short (L : List A5) : (varsL L).length ≤ L.length := by
  have := varsL_len L L.length (Nat.le_refl _)
  rwa [List.take_length] at this
theorem small_len {x : RE} (hs : x.small) : (varsB [] (posB x.P)).length ≤ 1048576 ∧ (kindsL [] x.P).length ≤ 1048576 := by
  obtain ⟨h1, -, -, -⟩ := hs
  unfold RE.sz at h1
  have hp : ∀ J : List PE, ((posB J).map PE.sz).sum ≤ (J.map PE.sz).sum := fun J => by
    induction J with
    | nil => simp [posB]
    | cons p r ih =>
      unfold posB at ih ⊢
      simp only [List.filter_cons]
      split
      · simp only [List.map_cons, List.sum_cons]; omega
      · simp only [List.map_cons, List.sum_cons]; omega
  have h2 := varsB_len [] (posB x.P)
  have h3 := kindsL_len [] x.P
  have h4 := hp x.P
  simp only [List.length_nil] at h2 h3
  constructor <;> omega

set_option maxRecDepth 100000 in
set_option maxHeartbeats 3200000 in
theorem law (a : Option Addr) (cap : Nat) (code : List UInt8) (w : World) (hr : Rd w a code) (hm : code.length ≤ maxLen) :
    Calls Try.prog 8 #[.slice a code.length cap] w fun e w' => e = .returned (.bool true) ∧ Below w.heap.size w w' := by
  unfold maxLen at hm
  by_cases hb : 1048576 < code.length
  · have hd : decide ((1048576 : Int) < (code.length : Int)) = true := by simp; omega
    go_enter Try.func8, Try.ntmps8
    go_wp2_with (go_at_call 36; refine (big_any _ _ _ _ (by omega)).mono ?_; rintro e w' ⟨rfl, rfl⟩)
    go_ret
    exact ⟨rfl, Below.refl _ _⟩
  · have hd : decide ((1048576 : Int) < (code.length : Int)) = false := by simp; omega
    go_enter Try.func8, Try.ntmps8
    go_wp2_with fail
    refine (big_any _ _ _ _ (by omega)).mono ?_
    rintro e w' ⟨rfl, rfl⟩
    go_wp2_with fail
    refine (drawPosVars_any a cap code w' hr (by omega)).mono ?_
    rintro e w1 ⟨x, rfl, rx, hs, -, B1⟩
    clear hd
    have HS := hide hs
    have HSm := hide (small_len hs)
    have HX := hide (boxk_new w1 #[.string x.nm, .int .i64 x.sal, .slice x.aP x.nP x.cP, .slice x.aC x.nC x.cC, .slice x.aA x.nA x.cA] 49)
    have ba := below_al w1 (.cells #[.string x.nm, .int .i64 x.sal, .slice x.aP x.nP x.cP, .slice x.aC x.nC x.cC, .slice x.aA x.nA x.cA] 49)
    have HR := hide (rx.below ba)
    have B2 := B1.trans (ba.mono B1.size)
    have t0 := boxk_cell HX.out 0 _ rfl
    have t1 := boxk_cell HX.out 1 _ rfl
    have t2 := boxk_cell HX.out 2 _ rfl
    have t3 := boxk_cell HX.out 3 _ rfl
    have t4 := boxk_cell HX.out 4 _ rfl
    clear hs rx ba B1
    go_wp2_with fail
    generalize w1.heap.size = X at HX t0 t1 t2 t3 t4 ⊢
    generalize w1.alloc (.cells #[.string x.nm, .int .i64 x.sal, .slice x.aP x.nP x.cP, .slice x.aC x.nC x.cC, .slice x.aA x.nA x.cA] 49) = w2 at HX HR B2 t0 t1 t2 t3 t4 ⊢
    refine (implPosVars_any x w2 HR.out HS.out).mono ?_
    rintro e w3 ⟨⟨v, rfl, ow⟩, hb3⟩
    obtain ⟨aV, cV, rfl, rV, -⟩ := rdS_owns ow
    have hcap := cap_owns ow
    have HX3 := hide (box_step HX.out hb3)
    have HR3 := hide (HR.out.below hb3)
    have B3 := B2.trans (hb3.mono B2.size)
    clear ow hb3 HX HR B2 t0 t1 t2 t3 t4
    have t0 := boxk_cell HX3.out 0 _ rfl
    have t1 := boxk_cell HX3.out 1 _ rfl
    have t2 := boxk_cell HX3.out 2 _ rfl
    have t3 := boxk_cell HX3.out 3 _ rfl
    have t4 := boxk_cell HX3.out 4 _ rfl
    go_wp2_with fail
    refine (implKindsOf_any x w3 HR3.out HS.out).mono ?_
    rintro e w4 ⟨⟨v, rfl, ow⟩, hb4⟩
    obtain ⟨aK, cK, rfl, rK, -⟩ := rdS_owns ow
    have T4 : Rv w' X x aV aK w4 := ⟨box_step HX3.out hb4, HR3.out.below hb4, rV.below hb4, rK, B3.trans (hb4.mono B3.size)⟩
    clear ow hb4 HX3 HR3 B3 rV rK t0 t1 t2 t3 t4
    obtain ⟨nV, HnV⟩ : ∃ n, Hid ((varsB [] (posB x.P)).length = n) := ⟨_, rfl⟩
    obtain ⟨nK, HnK⟩ : ∃ n, Hid ((kindsL [] x.P).length = n) := ⟨_, rfl⟩
    rw [HnV.out, HnK.out] at HSm
    rw [HnV.out] at hcap
    rw [HnV.out, HnK.out]
    have hnV : nV ≤ 1048576 := HSm.out.1
    have hnK : nK ≤ 1048576 := HSm.out.2
    have HnP := hide T4.rd.np
    have hnP : x.nP ≤ 1048576 := by
      rw [← HnP.out]; have := HS.out.1; unfold RE.sz at this; omega
    have HT4 := hide T4
    clear T4 HSm
    go_wp2_with fail
    go_loopw [6] (fun ii wr => ∃ (i : Nat), i ≤ x.nP ∧ ii = .int .i64 i ∧ Rv w' X x aV aK wr) (fun ii _ => x.nP - (intOf ii).toNat)
    case atStart => exact ⟨0, Nat.zero_le _, rfl, HT4.out⟩
    case round =>
      obtain ⟨i, hi, rfl, T⟩ := hrel
      have t2 := boxk_cell T.bX 2 _ rfl
      have HTr := hide T
      clear HT4
      by_cases hlt : i < x.nP
      · have hip : i < x.P.length := by rw [HnP.out]; exact hlt
        obtain ⟨bp, op, eP, hbp, hcP⟩ := T.rd.p.cells (by omega)
        obtain ⟨p0, p1, p2, rA⟩ := hcP i hip
        have HKh := hide (kindsL_has (List.getElem_mem hip))
        have HVh : Hid (x.P[i].nt = false → ∀ s ∈ varsL x.P[i].L, hasS (varsB [] (posB x.P)) s = true) := fun hf s hsx => varsB_has (List.getElem_mem hip) hf hsx
        have HSp := hide (HS.out.2.1 _ (List.getElem_mem hip))
        rw [eP] at t2
        rw [eAt_in hip] at p0 p1 p2 rA
        generalize x.P[i] = p at p0 p1 p2 rA HKh HVh HSp
        have HTb := hide T.bX
        have HTv := hide T.rv
        have HTk := hide T.rk
        clear hcP eP T
        have hlti : (i : Int) < (x.nP : Int) := by omega
        go_wp2_with fail
        refine (implVarsOf_any p.kd p.a p.cap p.L p.nt wr rA HSp.out.2.2 HSp.out.2.1).mono ?_
        rintro e w5 ⟨⟨v, rfl, ow⟩, hb5⟩
        obtain ⟨aL, cL, rfl, rL, -⟩ := rdS_owns ow
        have T5 := HTr.out.keep hb5
        have t2' := (hb5.cell (World.block_lt_of_cell? wr _ t2)).trans t2
        have q0 := (hb5.cell (World.block_lt_of_cell? wr _ p0)).trans p0
        have q2 := (hb5.cell (World.block_lt_of_cell? wr _ p2)).trans p2
        clear HTr HTb HTv HTk rA ow hb5 t2 p0 p1 p2
        have hm : (varsL p.L).length ≤ 1048576 := Nat.le_trans (varsL_short p.L) HSp.out.2.1
        obtain ⟨m, Hm⟩ : ∃ m, Hid ((varsL p.L).length = m) := ⟨_, rfl⟩
        rw [Hm.out] at hm ⊢
        have HT5 := hide T5
        have HHv := hide (fun s => hasText_m aV nV cV (varsB [] (posB x.P)) s w5 HnV.out HT5.out.rv (by omega))
        have HHk := hide (hasText_m aK nK cK (kindsL [] x.P) p.kd w5 HnK.out HT5.out.rk (by omega))
        rw [HKh.out] at HHk
        clear T5
        go_wp2_with fail
        go_loopw [8] (fun kk wx => ∃ (k : Nat), k ≤ m ∧ kk = .int .i64 k ∧ wx = w5) (fun kk _ => m - (intOf kk).toNat)
        case atStart => exact ⟨0, Nat.zero_le _, rfl, rfl⟩
        case round =>
          obtain ⟨k, hk, rfl, rfl⟩ := hrel
          by_cases hkm : k < m
          · have hki : (k : Int) < (m : Int) := by omega
            by_cases hnt : p.nt = true
            · rw [hnt] at q2
              clear hnt
              go_wp2_with fail
              refine HHk.out.mono ?_
              rintro e w6 ⟨rfl, rfl⟩
              go_wp2
              go_roundw
              case rel => exact ⟨i + 1, by omega, by go_num, HT5.out⟩
              case measure => simp [intOf]; omega
            · have hnf : p.nt = false := by simpa using hnt
              rw [hnf] at q2
              obtain ⟨bl, ol, eL, hbl, hcl⟩ := rL.open (by rw [Hm.out]; omega)
              have l0 := hcl k (by rw [Hm.out]; exact hkm)
              have hsx : sAt (varsL p.L) k ∈ varsL p.L := by rw [sAt_in (by rw [Hm.out]; exact hkm)]; exact List.getElem_mem _
              have HHs := hide (HHv.out (sAt (varsL p.L) k))
              rw [HVh.out hnf _ hsx] at HHs
              generalize sAt (varsL p.L) k = s at l0 hsx HHs
              subst eL
              clear hcl hnt hnf
              go_wp2_with fail
              refine HHs.out.mono ?_
              rintro e w6 ⟨rfl, rfl⟩
              go_wp2
              go_roundw
              case rel => exact ⟨k + 1, by omega, by go_num, trivial⟩
              case measure => simp [intOf]; omega
          · go_wp2_with fail
            refine HHk.out.mono ?_
            rintro e w6 ⟨rfl, rfl⟩
            go_wp2
            go_roundw
            case rel => exact ⟨i + 1, by omega, by go_num, HT5.out⟩
            case measure => simp [intOf]; omega
      · clear T
        go_wp2_with fail
        go_loopw [9] (fun ii wx => ∃ (i nd : Nat), i ≤ nV ∧ ii = .int .i64 i ∧ wx = wr.drewN nd) (fun ii _ => nV - (intOf ii).toNat)
        case atStart => exact ⟨0, 0, Nat.zero_le _, rfl, rfl⟩
        case round =>
          obtain ⟨j, nd, hj, rfl, rfl⟩ := hrel
          by_cases hjl : j < nV
          · obtain ⟨bv, ov, eV, hbv, hcv⟩ := HTr.out.rv.open (by rw [HnV.out]; omega)
            have v0 := hcv j (by rw [HnV.out]; exact hjl)
            have HTk : ∀ d, RdS (wr.drewN d) aV ((varsB [] (posB x.P)).take j) := fun d i hi => by
              have hi2 := hi
              rw [List.length_take] at hi2
              obtain ⟨b, off, e1, e2⟩ := HTr.out.rv i (by omega)
              refine ⟨b, off, e1, ?_⟩
              have e3 : sAt ((varsB [] (posB x.P)).take j) i = sAt (varsB [] (posB x.P)) i := by
                rw [sAt_in hi, sAt_in (by omega)]; simp
              rw [e3]; exact e2
            have HH := hide (fun d => hasText_m aV j cV ((varsB [] (posB x.P)).take j) (sAt (varsB [] (posB x.P)) j) (wr.drewN d) (by rw [List.length_take, HnV.out]; omega) (HTk d) (by omega))
            rw [varsB_once (posB x.P) (l := []) (fun i hi => absurd hi (Nat.not_lt_zero _)) j (by rw [HnV.out]; exact hjl)] at HH
            generalize sAt (varsB [] (posB x.P)) j = s at v0 HH
            have hji : (j : Int) < (nV : Int) := by omega
            subst eV
            clear hcv HTk
            have hj0 : (0 : Int) ≤ (j : Int) := by omega
            have hjc : (j : Int) ≤ (cV : Int) := by omega
            have hc0 : ¬ cV = 0 := by omega
            go_wp2_with fail
            go_quiet (first | (go_at_call 42; exact (HH.out _).mono (fun _ _ h => ⟨h.1, _, h.2⟩)))
            go_wp2
            go_roundw
            case rel => exact ⟨j + 1, _, by omega, by go_num, rfl⟩
            case measure => simp [intOf]; omega
          · have T6 := HTr.out.keep (bel_drewN wr nd)
            clear HTr
            have t0 := boxk_cell T6.bX 0 _ rfl
            have t1 := boxk_cell T6.bX 1 _ rfl
            have t2 := boxk_cell T6.bX 2 _ rfl
            have t3 := boxk_cell T6.bX 3 _ rfl
            have t4 := boxk_cell T6.bX 4 _ rfl
            go_wp2_with fail
            generalize wr.drewN nd = w6 at T6 t0 t1 t2 t3 t4 ⊢
            refine (specPosVars_any x w6 T6.rd HS.out).mono ?_
            rintro e w7 ⟨⟨v, rfl, ow⟩, hb7⟩
            obtain ⟨a7, c7, rfl, r7, -⟩ := rdS_owns ow
            rw [HnV.out]
            have T7 := T6.keep hb7
            clear T6 t0 t1 t2 t3 t4 hb7 ow
            go_wp2_with fail
            refine (sameTexts_m aV a7 nV cV c7 (varsB [] (posB x.P)) w7 HnV.out T7.rv r7 (by omega)).mono ?_
            rintro e w8 ⟨rfl, hb8⟩
            have T8 := T7.keep hb8
            clear T7 hb8 r7
            have t0 := boxk_cell T8.bX 0 _ rfl
            have t1 := boxk_cell T8.bX 1 _ rfl
            have t2 := boxk_cell T8.bX 2 _ rfl
            have t3 := boxk_cell T8.bX 3 _ rfl
            have t4 := boxk_cell T8.bX 4 _ rfl
            go_wp2_with fail
            refine (specKindsOf_any x w8 T8.rd HS.out).mono ?_
            rintro e w9 ⟨⟨v, rfl, ow⟩, hb9⟩
            obtain ⟨a9, c9, rfl, r9, -⟩ := rdS_owns ow
            rw [HnK.out]
            have T9 := T8.keep hb9
            clear T8 t0 t1 t2 t3 t4 hb9 ow
            go_wp2_with fail
            refine (sameTexts_m aK a9 nK cK c9 (kindsL [] x.P) w9 HnK.out T9.rk r9 (by omega)).mono ?_
            rintro e w10 ⟨rfl, hb10⟩
            have T10 := T9.keep hb10
            go_wp2
            go_ret
            exact ⟨rfl, T10.bel⟩

theorem walk (a0 : Option Addr) (len0 cap0 : Nat) (z0 : List Int) (w : World) (w0 : IsRow .u8 w a0 len0 cap0 z0) :
    Calls Try.prog 8 #[.slice a0 len0 cap0] w fun e w' => e = .returned (.bool true) ∧ Below w.heap.size w w' := by
  obtain ⟨bs, hl, hr⟩ := rd_row w0
  have hm : len0 ≤ maxLen := isRow_len w0
  subst hl
  exact law a0 cap0 bs w hr hm

theorem own : ownKnob Try.prog.godebug = none := by kernel_rfl
theorem laidOut : laidOutB Try.prog = true := by kernel_rfl

set_option maxRecDepth 100000 in
theorem lifted (os : Os) (started : os.Started) (H : Type) (enc : TypeId × Value → H) :
    ReturnsInHanded {} Try.checked os 8 .any (Rows.fnRuleVarsSpec.pre6 enc Try.prog Try.f8 Rows.fnRuleVarsRow.domain false) (Rows.fnRuleVarsSpec.post enc Try.prog Try.f8 false true false false) := by
  refine returnsInHanded_of_change (C := Try.checked) own started (by kernel_rfl) Try.func8
    (ChangeSpec.witness6 (enc := enc) (C := Try.checked) false ⟨#[], #[.slice none 0 0], []⟩ 8 (by kernel_rfl) (by kernel_rfl) (by kernel_rfl) (by kernel_rfl)) ?_
  intro W base args ds gs before hval0 hW hcnd _
  have hval : ∀ (j : Nat) t v, Try.f8.params[j]? = some t → args[j]? = some v → Value.okWide Try.prog W .any base t v := hval0
  have hW' := hW
  obtain ⟨p, q, hA0, hV, rfl, hfz, hnd⟩ := hW
  have hA : DataW.TrodAll enc Try.prog W 0 (fun _ => true) true Try.f8.params.toList args.toList ds p := hA0
  rw [Try.params8] at hA hval
  obtain ⟨v0, vs0, d0, ds0, p0, q0, hargs, rfl, rfl, h0, r0⟩ := trodAll_cons hA
  obtain ⟨rfl, rfl, rfl⟩ := trodAll_nil r0
  obtain rfl : args = #[v0] := by cases args; simp_all
  obtain ⟨rfl, rfl⟩ := trodVars_none hV
  obtain ⟨a0, len0, cap0, rfl⟩ := okWide_slice Try.underlying69 (hval 0 69 v0 rfl rfl)
  have k0 := h0
  have lt0 : ∀ x ∈ p0, x.block < W.heap.size := by obtain ⟨m, hm⟩ := k0; exact DataW.trod_lt m _ _ _ hm
  obtain ⟨z0, w0⟩ : ∃ zs, IsRow .u8 W a0 len0 cap0 zs := by
    obtain ⟨fuel, hf⟩ := h0
    rcases open_ints Try.underlying69 Try.underlying5 (by kernel_rfl) hf with ⟨hcs, _⟩ | ⟨x, l, c, zs, hcs, _, hl, hm, hz, _, hcell, hwz⟩
    · simp [Value.cells] at hcs
      obtain ⟨rfl, rfl, rfl⟩ := hcs
      exact ⟨[], .inl ⟨rfl, rfl, rfl, rfl⟩⟩
    · simp [Value.cells] at hcs
      obtain ⟨rfl, rfl, rfl⟩ := hcs
      exact ⟨zs, .inr ⟨_, rfl, hl, hm, by simpa using hz, hcell, hwz⟩⟩
  clear hA0 hval0
  refine (walk a0 len0 cap0 z0 W w0).mono fun e W' ⟨he, bel⟩ => ?_
  subst he
  exact ⟨_, rfl, _, _, _, [], _, [], hW', trodAll_mk1 (shut_bool Try.underlying4 _), (trodAll_cons_mk (Below.trod laidOut (by kernel_rfl) (of_decide_eq_true (by kernel_rfl)) k0 bel lt0) trodAll_mk0), rfl, bel.frame _, fun h => by cases h⟩

theorem over : Rows.fnRuleVarsRow.holds Try.pinned (OpenSpec.ofChange Rows.fnRuleVarsSpec) :=
  OpenClaim.holds_of_wide 8 Try.f8 rfl rfl rfl rfl rfl rfl rfl ⟨rfl, rfl, rfl, rfl, rfl⟩ rfl rfl rfl rfl rfl (by kernel_rfl) Try.func8 (by kernel_rfl)
    (of_decide_eq_true (by kernel_rfl)) (by unfold Func.isWrapper; first | (rw [if_pos (by decide +kernel)]; kernel_rfl) | (rw [if_neg (by decide +kernel)]; exact ⟨rfl, rfl⟩))
    (fun os started H enc _ => lifted os started H enc)
end Go.Proofs.Ytfgigcdfmkfkjaa.LawRV
namespace Go.Proofs.Ytfgigcdfmkfkjaa
theorem fnRuleVars_holds : Rows.FnRuleVarsSaid := LawRV.over
#print axioms fnRuleVars_holds
end Go.Proofs.Ytfgigcdfmkfkjaa
