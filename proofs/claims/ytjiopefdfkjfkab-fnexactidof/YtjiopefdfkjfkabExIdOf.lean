/-
  Proved: for every store and every fact, the law on IdOf answers true (the tested function answers as its model and writes into no argument), and both read as they did. No condition.
-/
import Derived.Test.YtjiopefdfkjfkabIdOf
import Derived.Test.YtjiopefdfkjfkabToStore
import Derived.Test.YtjiopefdfkjfkabKeepS
namespace Go.Proofs.Ytjiopefdfkjfkab.ExIdOf
open Go.ChangeShapes Go.WideShapes Go.ChangeAt Go.RowKit Go.Joins
open Go.ChangeMaps (open_string shut_string)
set_option linter.unusedVariables false

theorem specIdOf_r (a b : Option Addr) (n cap cb : Nat) (nx : Int) (kd : ByteArray) (K : List It) (M : List V3) (w : World) (R : Int) (hr : RdI w a K) (hq : RdV w b M) (hJ : K.length = n) (hn : n ≤ 1048580) (hl : ∀ i, i < K.length → (iAt K i).L.length ≤ 1048580) (hm : M.length ≤ 1048580) (hR : idP (K.map It.pl) kd M = R) :
    Calls Try.prog 16 #[.agg #[.slice a n cap, .int .i64 nx], .agg #[.string kd, .slice b M.length cb]] w fun e w' =>
      e = .returned (.int .i64 R) ∧ Below w.heap.size w w' := by subst hR; exact specIdOf_any a b n cap cb nx kd K M w hr hq hJ hn hl hm

theorem implIdOf_r (a b : Option Addr) (n cap cb : Nat) (nx : Int) (kd : ByteArray) (K : List It) (M : List V3) (w : World) (R : Int) (hr : RdI w a K) (hq : RdV w b M) (hJ : K.length = n) (hn : n ≤ 1048580) (hl : ∀ i, i < K.length → (iAt K i).L.length ≤ 1048580) (hm : M.length ≤ 1048580)
    (hli : ∀ i, i < K.length → LieV (iAt K i).a (iAt K i).L.length (iAt K i).cap) (hlb : LieV b M.length cb) (hR : idP (K.map It.pl) kd M = R) :
    Calls Try.prog 18 #[.agg #[.slice a n cap, .int .i64 nx], .agg #[.string kd, .slice b M.length cb]] w fun e w' =>
      e = .returned (.int .i64 R) ∧ Below w.heap.size w w' := by subst hR; exact implIdOf_any a b n cap cb nx kd K M w hr hq hJ hn hl hm hli hlb

set_option maxRecDepth 100000 in
set_option maxHeartbeats 6400000 in
theorem walk (a : Option Addr) (len cap : Nat) (J : List It) (nx : Int) (kd : ByteArray) (b : Option Addr) (lenb cb : Nat) (M : List V3) (w : World) (hI : IsItems w a len cap J) (hkd : kd.size ≤ maxLen) (hv : IsVals w b lenb cb M) :
    Calls Try.prog 4 #[.agg #[.slice a len cap, .int .i64 nx], .agg #[.string kd, .slice b lenb cb]] w fun e w' => e = .returned (.bool true) ∧ Below w.heap.size w w' := by
  obtain ⟨rfl, hm, hr, hs⟩ := hI
  obtain ⟨rfl, hm2, hq, hs2⟩ := hv
  obtain ⟨R, hR⟩ : ∃ R, idP (J.map It.pl) kd M = R := ⟨_, rfl⟩
  have HR := hide hR
  clear hR
  have b0 := below_al w (.cells #[.slice a J.length cap, .int .i64 nx] 24)
  have b1 := b0.alloc b0.size (.cells #[.string kd, .slice b M.length cb] 42)
  have hA := box_old (box2_new w (.slice a J.length cap) (.int .i64 nx) 24) (by simp) (.cells #[.string kd, .slice b M.length cb] 42)
  have hC := box2_new (w.alloc (.cells #[.slice a J.length cap, .int .i64 nx] 24)) (.string kd) (.slice b M.length cb) 42
  simp only [World.size_alloc] at hA hC
  go_enter Try.func4, Try.ntmps4
  go_wp2_with fail
  generalize (w.alloc (.cells #[.slice a J.length cap, .int .i64 nx] 24)).alloc (.cells #[.string kd, .slice b M.length cb] 42) = u0 at b1 hA hC ⊢
  clear b0
  refine (szStore_any a cap J nx 1048576 _ (hr.below b1) hs hm (by omega) (by omega)).mono ?_
  rintro e u1 ⟨⟨r, rfl, hr1⟩, hb1⟩
  replace hA := box_step hA hb1
  replace hC := box_step hC hb1
  replace b1 : Below w.heap.size w u1 := b1.trans (hb1.mono b1.size)
  clear hb1
  rcases hr1 with rfl | ⟨hr2, hr3⟩
  · go_wp2
    go_ret
    exact ⟨rfl, b1⟩
  · have hn : J.length ≤ 1048576 := by unfold szSt at hr3; omega
    have HL : Hid (∀ i, i < J.length → (iAt J i).L.length ≤ 1048576) := fun i hi => by
      have := szSt_mem hi
      unfold szI szL at this
      omega
    have hr4 : r ≤ 1048576 := by omega
    have h5 : ¬ (r < 0) := by omega
    clear hr3
    obtain ⟨y0, y1, -, -⟩ := box2_cell hC
    go_wp2_with fail
    refine (szFact_any kd b cb M r _ hkd (hq.below b1) hs2 hm2 hr2 hr4).mono ?_
    rintro e u2 ⟨⟨r', rfl, hr1⟩, hb2⟩
    replace hA := box_step hA hb2
    replace hC := box_step hC hb2
    replace b1 : Below w.heap.size w u2 := b1.trans (hb2.mono b1.size)
    clear hb2 y0 y1
    rcases hr1 with rfl | ⟨hr6, hr7⟩
    · go_wp2
      go_ret
      exact ⟨rfl, b1⟩
    · have hn2 : M.length ≤ 1048576 := by unfold szL at hr7; omega
      have h8 : ¬ (r' < 0) := by omega
      clear hr7
      have HR0 := hide (hr.below b1)
      have HQ0 := hide (hq.below b1)
      obtain ⟨x0, x1, -, -⟩ := box2_cell hA
      obtain ⟨y0, y1, -, -⟩ := box2_cell hC
      have S0 : SF w a b J M u2 := ⟨hr.below b1, hq.below b1, b1⟩
      go_wp2_with fail
      go_region_held3 (fun W => W.cell? ⟨w.heap.size, 0, none⟩ = some (.slice a J.length cap) ∧ W.cell? ⟨w.heap.size, 1, none⟩ = some (.int .i64 nx) ∧ W.cell? ⟨w.heap.size + 1, 0, none⟩ = some (.string kd) ∧ W.cell? ⟨w.heap.size + 1, 1, none⟩ = some (.slice b M.length cb) ∧ SF w a b J M W) (first | exact ⟨x0, x1, y0, y1, S0.drew⟩ | exact keep4 SF.keep (by assumption) (by assumption))
        (first | (go_at_call 8; refine (toStore_any _ _ J _ _ (SF.rdi (by assumption)) hn HL.out).mono ?_; rintro e w7 ⟨K, g, rfl, hH, hpl, hb7⟩) | (go_at_call 17; refine (toFact_any _ _ _ M _ (SF.rdv (by assumption)) hn2).mono ?_; rintro e w8 ⟨g8, rfl, hg8, o8, hb8⟩) | (go_at_call 16; refine (specIdOf_r _ _ _ _ _ _ _ K M _ R ?_ ?_ ?_ ?_ ?_ ?_ ?_).mono ?_; (with_reducible first | exact (hH.later hb8).rd | exact hH.rd); (with_reducible first | exact o8.rd | exact (o8.later hb7).rd); exact pl_len hpl; exact (by omega); exact (fun i hi => by rw [(pl_at hpl hi).2.2]; have := HL.out i (by rw [← pl_len hpl]; exact hi); omega); exact (by omega); exact (by rw [hpl]; exact HR.out); rintro e w9 ⟨rfl, hb9⟩))
      all_goals
        obtain ⟨x0, x1, y0, y1, S9⟩ : w9.cell? ⟨w.heap.size, 0, none⟩ = some (.slice a J.length cap) ∧ w9.cell? ⟨w.heap.size, 1, none⟩ = some (.int .i64 nx) ∧ w9.cell? ⟨w.heap.size + 1, 0, none⟩ = some (.string kd) ∧ w9.cell? ⟨w.heap.size + 1, 1, none⟩ = some (.slice b M.length cb) ∧ SF w a b J M w9 := by assumption
        clear hb7 hb8 hb9 hH hpl o8 hg8 hA hC S0 HR0 HQ0 b1 h5 h8 hr2 hr4 hr6
        go_wp2_with fail
        refine (toStore_any a cap J nx w9 S9.rdI hn HL.out).mono ?_
        rintro e v1 ⟨K2, g2, rfl, hH, hpl, hb1⟩
        have HP := hide hpl
        clear hpl
        obtain ⟨x0, x1, y0, y1, S1⟩ := keep4 SF.keep hb1 ⟨x0, x1, y0, y1, S9⟩
        clear S9 hb1
        have ba := below_al v1 (.cells #[.slice (some ⟨g2, 0, none⟩) J.length J.length, .int .i64 nx] 33)
        have hX := box2_new v1 (.slice (some ⟨g2, 0, none⟩) J.length J.length) (.int .i64 nx) 33
        obtain ⟨x0, x1, y0, y1, S2⟩ := keep4 SF.keep ba ⟨x0, x1, y0, y1, S1⟩
        replace hH := hH.later ba
        clear S1 ba
        go_wp2_with fail
        generalize v1.alloc (.cells #[.slice (some ⟨g2, 0, none⟩) J.length J.length, .int .i64 nx] 33) = v2 at hX hH x0 x1 y0 y1 S2 ⊢
        obtain ⟨X, HXq⟩ : ∃ X, Hid (v1.heap.size = X) := ⟨_, rfl⟩
        rw [HXq.out] at hX ⊢
        refine (toFact_any kd b cb M v2 S2.rdV hn2).mono ?_
        rintro e v3 ⟨g3, rfl, hg3, o3, hb3⟩
        obtain ⟨x0, x1, y0, y1, S3⟩ := keep4 SF.keep hb3 ⟨x0, x1, y0, y1, S2⟩
        replace hX := box_step hX hb3
        replace hH := hH.later hb3
        clear S2 hb3 hg3
        have ba := below_al v3 (.cells #[.string kd, .slice (some ⟨g3, 0, none⟩) M.length M.length] 28)
        have hY := box2_new v3 (.string kd) (.slice (some ⟨g3, 0, none⟩) M.length M.length) 28
        obtain ⟨x0, x1, y0, y1, S4⟩ := keep4 SF.keep ba ⟨x0, x1, y0, y1, S3⟩
        replace hX := box_step hX ba
        replace hH := hH.later ba
        replace o3 := o3.later ba
        clear S3 ba
        obtain ⟨z0, z1, -, -⟩ := box2_cell hX
        obtain ⟨t0, t1, -, -⟩ := box2_cell hY
        go_wp2_with fail
        generalize v3.alloc (.cells #[.string kd, .slice (some ⟨g3, 0, none⟩) M.length M.length] 28) = v4 at hX hY hH o3 x0 x1 y0 y1 S4 z0 z1 t0 t1 ⊢
        obtain ⟨Y, HYq⟩ : ∃ Y, Hid (v3.heap.size = Y) := ⟨_, rfl⟩
        rw [HYq.out] at hY t0 t1 ⊢
        have HL2 : Hid (∀ i, i < K2.length → (iAt K2 i).L.length ≤ 1048580) := fun i hi => by
          rw [(pl_at HP.out hi).2.2]; have := HL.out i (by rw [← pl_len HP.out]; exact hi); omega
        refine (implIdOf_r _ _ _ _ _ _ _ K2 M v4 R hH.rd o3.rd (pl_len HP.out) (by omega) HL2.out (by omega) hH.lies o3.lies (by rw [HP.out]; exact HR.out)).mono ?_
        rintro e v5 ⟨rfl, hb5⟩
        obtain ⟨x0, x1, y0, y1, S5⟩ := keep4 SF.keep hb5 ⟨x0, x1, y0, y1, S4⟩
        replace hX := box_step hX hb5
        replace hY := box_step hY hb5
        replace hH := hH.later hb5
        replace o3 := o3.later hb5
        clear S4 hb5 z0 z1 t0 t1
        obtain ⟨z0, z1, -, -⟩ := box2_cell hX
        have hRR : (R != R) = false := by simp
        have C5 : SC w a w9.heap.size g2 J.length J K2 v5 := ⟨S5.rdI, hH, S5.bel⟩
        clear hX
        go_wp2_with fail
        go_region_held3 (fun W => W.cell? ⟨w.heap.size, 0, none⟩ = some (.slice a J.length cap) ∧ W.cell? ⟨w.heap.size, 1, none⟩ = some (.int .i64 nx) ∧ W.cell? ⟨X, 0, none⟩ = some (.slice (some ⟨g2, 0, none⟩) J.length J.length) ∧ W.cell? ⟨X, 1, none⟩ = some (.int .i64 nx) ∧ SC w a w9.heap.size g2 J.length J K2 W) (first | exact ⟨x0, x1, z0, z1, C5.drew⟩ | exact keep4 SC.keep (by assumption) (by assumption))
          (first | (go_at_call 8; refine (toStore_any _ _ J _ _ (SC.rdi (by assumption)) hn HL.out).mono ?_; rintro e w7 ⟨K3, g7, rfl, hH3, hpl3, hb7⟩) | (go_at_call 11; refine (eqStore_same _ _ _ _ _ _ K2 K3 _ (SC.cp (by assumption)) hH3.rd (pl_len HP.out) (HP.out.trans hpl3.symm) (by omega) HL2.out).mono ?_; rintro e w8 ⟨rfl, hb8⟩))
        all_goals
          have B58 := below_step (below_dr hb7) hb8
          have S8 := S5.keep B58
          have hY8 := box_step hY B58
          have o8 := o3.later B58
          obtain ⟨t0, t1, -, -⟩ := box2_cell hY8
          have T8 : Two w w.heap.size b (some ⟨g3, 0, none⟩) M M w8 := ⟨S8.rdV, o8.rd, S8.bel, S8.bel.size⟩
          have y08 := kept0 B58 y0
          have y18 := kept0 B58 y1
          clear hb7 hb8 B58 hH3 hpl3 hY hY8 S5 C5 x0 x1 z0 z1 y0 y1
          go_wp2_with fail
          go_region_held3 (fun W => W.cell? ⟨w.heap.size + 1, 0, none⟩ = some (.string kd) ∧ W.cell? ⟨w.heap.size + 1, 1, none⟩ = some (.slice b M.length cb) ∧ W.cell? ⟨Y, 0, none⟩ = some (.string kd) ∧ W.cell? ⟨Y, 1, none⟩ = some (.slice (some ⟨g3, 0, none⟩) M.length M.length) ∧ Two w w.heap.size b (some ⟨g3, 0, none⟩) M M W) (first | exact ⟨y08, y18, t0, t1, T8.drew⟩ | exact keepF (by assumption) (by assumption))
            (first | (go_at_call 17; refine (toFact_any _ _ _ _ _ (rdA (by assumption)) hn2).mono ?_; rintro e w7 ⟨g7, rfl, hg7, o7, hb7⟩) | (go_at_call 10; refine (eqFact_same _ _ _ _ _ _ _ (rdB (by assumption)) o7.rd (by omega)).mono ?_; rintro e w9 ⟨rfl, hb9⟩))
          all_goals
            have B := below_step (below_dr hb7) hb9
            have T9 := T8.keep B
            go_wp2
            go_ret
            exact ⟨rfl, T9.2.2.1⟩

theorem own : ownKnob Try.prog.godebug = none := by kernel_rfl
theorem laidOut : laidOutB Try.prog = true := by kernel_rfl

set_option maxRecDepth 100000 in
theorem lifted (os : Os) (started : os.Started) (H : Type) (enc : TypeId × Value → H) :
    ReturnsInHanded {} Try.checked os 4 .any (Rows.fnExactIdOfSpec.pre6 enc Try.prog Try.f4 Rows.fnExactIdOfRow.domain false) (Rows.fnExactIdOfSpec.post enc Try.prog Try.f4 false true false false) := by
  refine returnsInHanded_of_change (C := Try.checked) own started (by kernel_rfl) Try.func4
    (ChangeSpec.witness6 (enc := enc) (C := Try.checked) false ⟨#[], #[.agg #[.slice none 0 0, .int .i64 0], .agg #[.string ByteArray.empty, .slice none 0 0]], []⟩ 8 (by kernel_rfl) (by kernel_rfl) (by kernel_rfl) (by kernel_rfl)) ?_
  intro W base args ds gs before hval0 hW hcnd _
  have hval : ∀ (j : Nat) t v, Try.f4.params[j]? = some t → args[j]? = some v → Value.okWide Try.prog W .any base t v := hval0
  have hW' := hW
  obtain ⟨p, q, hA0, hV, rfl, hfz, hnd⟩ := hW
  have hA : DataW.TrodAll enc Try.prog W 0 (fun _ => true) true Try.f4.params.toList args.toList ds p := hA0
  rw [Try.params4] at hA hval
  obtain ⟨v0, vs0, d0, ds0, p0, q0, hargs, rfl, rfl, h0, r0⟩ := trodAll_cons hA
  obtain ⟨v1, vs1, d1, ds1, p1, q1, rfl, rfl, rfl, h1, r1⟩ := trodAll_cons r0
  obtain ⟨rfl, rfl, rfl⟩ := trodAll_nil r1
  obtain rfl : args = #[v0, v1] := by cases args; simp_all
  obtain ⟨rfl, rfl⟩ := trodVars_none hV
  have k0 := h0
  have lt0 : ∀ x ∈ p0, x.block < W.heap.size := by obtain ⟨m, hm⟩ := k0; exact DataW.trod_lt m _ _ _ hm
  obtain ⟨c0a, c0b, y0a, y0b, m0, rfl, _, _, hy0a, hy0b⟩ := open_agg2 Try.underlying24 (by kernel_rfl) (by kernel_rfl) (hval 0 24 v0 rfl rfl) h0
  obtain ⟨N0, eN0, _, _⟩ := DataW.trod_int Try.underlying3 hy0b
  simp only [List.cons.injEq, and_true] at eN0
  subst eN0
  obtain ⟨a0, len0, cap0, J0, rfl, w0⟩ := items_in hy0a
  have k1 := h1
  have lt1 : ∀ x ∈ p1, x.block < W.heap.size := by obtain ⟨m, hm⟩ := k1; exact DataW.trod_lt m _ _ _ hm
  obtain ⟨c1a, c1b, y1a, y1b, m1, rfl, _, _, hy1a, hy1b⟩ := open_agg2 Try.underlying42 (by kernel_rfl) (by kernel_rfl) (hval 1 42 v1 rfl rfl) h1
  obtain ⟨S1, eS1, _, wS1⟩ := DataW.trod_string Try.underlying9 hy1a
  simp only [List.cons.injEq, and_true] at eS1
  subst eS1
  obtain ⟨a1, len1, cap1, L1, rfl, w1⟩ := vals_in hy1b
  clear hA0 hval0
  refine (walk a0 len0 cap0 J0 N0 S1 a1 len1 cap1 L1 W w0 wS1 w1).mono fun e W' ⟨he, bel⟩ => ?_
  subst he
  exact ⟨_, rfl, _, _, _, [], _, [], hW', trodAll_mk1 (shut_bool Try.underlying4 _), (trodAll_cons_mk (Below.trod laidOut (by kernel_rfl) (of_decide_eq_true (by kernel_rfl)) k0 bel lt0) (trodAll_cons_mk (Below.trod laidOut (by kernel_rfl) (of_decide_eq_true (by kernel_rfl)) k1 bel lt1) trodAll_mk0)), rfl, bel.frame _, fun h => by cases h⟩

theorem over : Rows.fnExactIdOfRow.holds Try.pinned (OpenSpec.ofChange Rows.fnExactIdOfSpec) :=
  OpenClaim.holds_of_wide 4 Try.f4 rfl rfl rfl rfl rfl rfl rfl ⟨rfl, rfl, rfl, rfl, rfl⟩ rfl rfl rfl rfl rfl (by kernel_rfl) Try.func4 (by kernel_rfl)
    (of_decide_eq_true (by kernel_rfl)) (by unfold Func.isWrapper; first | (rw [if_pos (by decide +kernel)]; kernel_rfl) | (rw [if_neg (by decide +kernel)]; exact ⟨rfl, rfl⟩))
    (fun os started H enc _ => lifted os started H enc)
end Go.Proofs.Ytjiopefdfkjfkab.ExIdOf
namespace Go.Proofs.Ytjiopefdfkjfkab
theorem fnExactIdOf_holds : Rows.FnExactIdOfSaid := ExIdOf.over
#print axioms fnExactIdOf_holds
end Go.Proofs.Ytjiopefdfkjfkab
