/-
  Proved: for every store and every text, the law on OfKind answers true (the tested function answers as its model, writes into no argument, and its answer owns its memory), and both read as they did. No condition.
-/
import Derived.Test.YtjiopefdfkjfkabOfKind
import Derived.Test.YtjiopefdfkjfkabEqStore
import Derived.Test.YtjiopefdfkjfkabMarkSt
import Derived.Test.YtjiopefdfkjfkabKeepS
namespace Go.Proofs.Ytjiopefdfkjfkab
open Go.RowKit
theorem HoldsI.apart_lo {w : World} {lo g cp q : Nat} {K : List It} (h : HoldsI w lo g cp K) (hq : q < lo) : Apart K g q := by
  refine ⟨by have := h.low; omega, fun i hi hne e => ?_⟩
  obtain ⟨p, e2, h2, -, -⟩ := h.vals i hi hne
  rw [e2] at e
  simp only [Option.some.injEq, Addr.mk.injEq, and_true] at e
  omega
theorem HoldsI.apart_hi {w : World} {lo g cp q : Nat} {K : List It} (h : HoldsI w lo g cp K) (hq : w.heap.size ≤ q) : Apart K g q := by
  refine ⟨by have := h.lt; omega, fun i hi hne e => ?_⟩
  obtain ⟨p, e2, -, -, o⟩ := h.vals i hi hne
  have := o.lt
  rw [e2] at e
  simp only [Option.some.injEq, Addr.mk.injEq, and_true] at e
  omega
theorem totI_sz {J K : List It} (h : K.map It.pl = J.map It.pl) : totI K K.length ≤ 3 * szSt J := by
  have e : K.map wI = J.map wI := by
    have f : wI = (fun p : P4 => 2 + 3 * p.L.length) ∘ It.pl := rfl
    rw [f, ← List.map_map, ← List.map_map, h]
  have key : ∀ L : List It, (L.map wI).sum ≤ 3 * (L.length + (L.map szI).sum) := by
    intro L
    induction L with
    | nil => simp
    | cons x r ih => simp only [List.map_cons, List.sum_cons, List.length_cons]; unfold wI szI szL at *; omega
  unfold totI szSt
  rw [List.take_length, e]
  exact key J
end Go.Proofs.Ytjiopefdfkjfkab
namespace Go.Proofs.Ytjiopefdfkjfkab.ExOfKind
open Go.ChangeShapes Go.WideShapes Go.ChangeAt Go.RowKit Go.Joins
open Go.ChangeMaps (open_string shut_string)
set_option linter.unusedVariables false

/-- the store that came in, in its box, the model's answer, and all that was there -/
structure St (w : World) (a : Option Addr) (n cap : Nat) (nx : Int) (lo : Nat) (vw : Value) (Z : List Int) (W : World) : Prop where
  bel : Below w.heap.size w W
  box : W.heap[w.heap.size]? = some (.cells #[.slice a n cap, .int .i64 nx] 24 (0, 0))
  rw : W.ownsRow 0 3 1 vw Z.length (valsN Z)
  lw : ∀ k, vw.ownBlock = some k → k < lo
  sz : lo ≤ W.heap.size
  sl : w.heap.size < lo
theorem St.keepB {w W W' : World} {a : Option Addr} {n cap : Nat} {nx : Int} {lo : Nat} {vw : Value} {Z : List Int} (h : St w a n cap nx lo vw Z W) (hb : Below lo W W') : St w a n cap nx lo vw Z W' :=
  ⟨h.bel.trans (hb.mono (Nat.le_of_lt h.sl)), box_below h.box hb h.sl, ownsRow_same h.rw (fun k hk => hb.block k (h.lw k hk)), h.lw, Nat.le_trans h.sz hb.size, h.sl⟩
theorem St.keep {w W W' : World} {a : Option Addr} {n cap : Nat} {nx : Int} {lo : Nat} {vw : Value} {Z : List Int} (h : St w a n cap nx lo vw Z W) (hb : Below W.heap.size W W') : St w a n cap nx lo vw Z W' := h.keepB (hb.mono h.sz)

theorem uni {e : Ending} {w : World} {base : Nat} {zs : List Int} (h : GivesN e w base zs) : ∃ a c, e = .returned (.slice a zs.length c) ∧ w.ownsRow base 3 1 (.slice a zs.length c) zs.length (valsN zs) := by
  obtain ⟨v, he, ho⟩ := h
  obtain ⟨a, c, e0, -, -⟩ := rdN_owns ho
  subst e0
  exact ⟨a, c, he, ho⟩

set_option maxRecDepth 100000 in
set_option maxHeartbeats 6400000 in
theorem walk (a : Option Addr) (len cap : Nat) (J : List It) (nx : Int) (kind : ByteArray) (w : World) (hI : IsItems w a len cap J) (hkd : kind.size ≤ maxLen) :
    Calls Try.prog 5 #[.agg #[.slice a len cap, .int .i64 nx], .string kind] w fun e w' => e = .returned (.bool true) ∧ Below w.heap.size w w' := by
  obtain ⟨rfl, hm, hr, hs⟩ := hI
  unfold maxLen at hkd
  have b1 := below_al w (.cells #[.slice a J.length cap, .int .i64 nx] 24)
  by_cases hk1 : (1048576 : Int) < (kind.size : Int)
  · go_enter Try.func5, Try.ntmps5
    go_wp2
    go_ret
    exact ⟨rfl, b1⟩
  obtain ⟨Z, hZ⟩ : ∃ Z, kindP (J.map It.pl) kind = Z := ⟨_, rfl⟩
  have HZ := hide hZ
  have HZl : Hid (Z.length ≤ J.length) := by unfold Hid; rw [← hZ, ← kindK_end]; exact kindK_len J kind _
  have HRD : Hid (∀ W, Below w.heap.size w W → RdI W a J) := fun W h => hr.below h
  clear hZ
  have hA := box2_new w (.slice a J.length cap) (.int .i64 nx) 24
  go_enter Try.func5, Try.ntmps5
  go_wp2_with fail
  generalize w.alloc (.cells #[.slice a J.length cap, .int .i64 nx] 24) = u0 at b1 hA ⊢
  refine (szStore_any a cap J nx 1048576 _ (HRD.out _ b1) hs hm (by omega) (by omega)).mono ?_
  rintro e u1 ⟨⟨r, rfl, hr1⟩, hb1⟩
  replace hA := box_step hA hb1
  replace b1 : Below w.heap.size w u1 := b1.trans (hb1.mono b1.size)
  clear hb1 hr
  rcases hr1 with rfl | ⟨hr2, hr3⟩
  · go_wp2
    go_ret
    exact ⟨rfl, b1⟩
  have hn : J.length ≤ 1048576 := by unfold szSt at hr3; omega
  have HL : Hid (∀ i, i < J.length → (iAt J i).L.length ≤ 1048576) := fun i hi => by
    have := szSt_mem hi
    unfold szI szL at this
    omega
  have HTot : Hid (szSt J ≤ 1048576) := by unfold Hid; omega
  have hZ2 : Z.length ≤ 1048576 := Nat.le_trans HZl.out hn
  have h5 : ¬ (r < 0) := by omega
  clear hr3
  obtain ⟨x0, x1, -, -⟩ := box2_cell hA
  go_wp2_with fail
  refine (toStore_any a cap J nx u1 (HRD.out _ b1) hn HL.out).mono ?_
  rintro e u2 ⟨K1, g1, rfl, hH1, hpl1, hb2⟩
  have HP1 := hide hpl1
  replace hA := box_step hA hb2
  replace b1 : Below w.heap.size w u2 := b1.trans (hb2.mono b1.size)
  clear hb2 x0 x1 hpl1
  go_wp2_with fail
  refine (specOfKind_any _ J.length J.length nx kind K1 u2 hH1.rd (pl_len HP1.out) (by omega)).mono ?_
  rw [HP1.out, HZ.out]
  rintro e u3 ⟨hg, hb3⟩
  obtain ⟨aw, cw, rfl, ow⟩ := uni hg
  have hA3 := box_step hA hb3
  have B3 : Below w.heap.size w u3 := b1.trans (hb3.mono b1.size)
  have S3 : St w a J.length cap nx u3.heap.size (.slice aw Z.length cw) Z u3 := ⟨B3, hA3, ownsRow_low ow (Nat.zero_le _), fun k hk => (ow.lt k hk).2, Nat.le_refl _, (Array.getElem?_eq_some_iff.1 hA3).1⟩
  clear hg hb3 ow hA hA3 B3 hH1 b1
  obtain ⟨x0, x1, -, -⟩ := box2_cell S3.box
  obtain ⟨lo, HLo⟩ : ∃ lo, Hid (u3.heap.size = lo) := ⟨_, rfl⟩
  rw [HLo.out] at S3
  go_wp2_with fail
  refine (toStore_any a cap J nx u3 (HRD.out _ S3.bel) hn HL.out).mono ?_
  rintro e u4 ⟨K2, g2, rfl, hH2, hpl2, hb4⟩
  rw [HLo.out] at hH2
  have HP2 := hide hpl2
  have S4 := S3.keep hb4
  clear hpl2 hb4 S3 x0 x1 HLo
  have ba := below_al u4 (.cells #[.slice (some ⟨g2, 0, none⟩) J.length J.length, .int .i64 nx] 33)
  have hX := box2_new u4 (.slice (some ⟨g2, 0, none⟩) J.length J.length) (.int .i64 nx) 33
  have S5 := S4.keep ba
  have hlX : lo ≤ u4.heap.size := S4.sz
  replace hH2 := hH2.later ba
  clear S4 ba
  obtain ⟨z0, z1, -, -⟩ := box2_cell hX
  go_wp2_with fail
  generalize u4.alloc (.cells #[.slice (some ⟨g2, 0, none⟩) J.length J.length, .int .i64 nx] 33) = u5 at hX S5 hH2 z0 z1 ⊢
  obtain ⟨X, HXq⟩ : ∃ X, Hid (u4.heap.size = X) := ⟨_, rfl⟩
  rw [HXq.out] at hX z0 z1 hlX ⊢
  refine (implOfKind_any _ J.length J.length nx kind K2 u5 hH2.rd (pl_len HP2.out) (by omega)).mono ?_
  rw [HP2.out, HZ.out]
  rintro e u6 ⟨hg, hb6⟩
  obtain ⟨ag, cg, rfl, og⟩ := uni hg
  have S6 := S5.keep hb6
  have hX6 := box_step hX hb6
  have HAp : Hid (∀ k, Value.ownBlock (.slice ag Z.length cg) = some k → Apart K2 g2 k) := fun k hk => hH2.apart_hi (og.lt k hk).1
  replace hH2 := hH2.later hb6
  have hbg := Nat.le_trans S5.sz (Nat.le_refl u5.heap.size)
  obtain ⟨bg, Hbg⟩ : ∃ bg, Hid (u5.heap.size = bg) := ⟨_, rfl⟩
  rw [Hbg.out] at og hbg
  have hbg6 : bg ≤ u6.heap.size := by rw [← Hbg.out]; exact hb6.size
  clear hg hb6 S5 hX z0 z1
  go_wp2_with fail
  refine (eqIntS_same _ _ _ _ _ Z u6 rfl (rdN_of og) (rdN_of S6.rw) (by omega)).mono ?_
  rintro e u7 ⟨rfl, hb7⟩
  have S7 := S6.keep hb7
  have hX7 := box_step hX6 hb7
  replace hH2 := hH2.later hb7
  replace og := ownsRow_below og hb7
  have hbg7 : bg ≤ u7.heap.size := Nat.le_trans hbg6 hb7.size
  clear hb7 S6 hX6 hbg6
  obtain ⟨x0, x1, -, -⟩ := box2_cell S7.box
  obtain ⟨z0, z1, -, -⟩ := box2_cell hX7
  have HL2 : Hid (∀ i, i < K2.length → (iAt K2 i).L.length ≤ 1048580) := fun i hi => by
    rw [(pl_at HP2.out hi).2.2]; have := HL.out i (by rw [← pl_len HP2.out]; exact hi); omega
  have C7 : SC w a lo g2 J.length J K2 u7 := ⟨HRD.out _ S7.bel, hH2, S7.bel⟩
  go_wp2_with fail
  go_region_held3 (fun W => W.cell? ⟨w.heap.size, 0, none⟩ = some (.slice a J.length cap) ∧ W.cell? ⟨w.heap.size, 1, none⟩ = some (.int .i64 nx) ∧ W.cell? ⟨X, 0, none⟩ = some (.slice (some ⟨g2, 0, none⟩) J.length J.length) ∧ W.cell? ⟨X, 1, none⟩ = some (.int .i64 nx) ∧ SC w a lo g2 J.length J K2 W) (first | exact ⟨x0, x1, z0, z1, C7.drew⟩ | exact keep4 SC.keep (by assumption) (by assumption))
    (first | (go_at_call 8; refine (toStore_any _ _ J _ _ (SC.rdi (by assumption)) hn HL.out).mono ?_; rintro e w7 ⟨K3, g7, rfl, hH3, hpl3, hb7⟩) | (go_at_call 11; refine (eqStore_same _ _ _ _ _ _ K2 K3 _ (SC.cp (by assumption)) hH3.rd (pl_len HP2.out) (HP2.out.trans hpl3.symm) (by omega) HL2.out).mono ?_; rintro e w8 ⟨rfl, hb8⟩))
  all_goals
    have B78 := below_step (below_dr hb7) hb8
    have S8 := S7.keep B78
    have hX8 := box_step hX7 B78
    have hH8 := hH2.later B78
    have og8 := ownsRow_below og B78
    have hbg8 : bg ≤ w8.heap.size := Nat.le_trans hbg7 B78.size
    clear hb7 hb8 B78 hH3 hpl3 C7 x0 x1 z0 z1 S7 hX7 hH2 og hbg7
    obtain ⟨z0, z1, -, -⟩ := box2_cell hX8
    go_wp2_with fail
    refine (markStore_any g2 J.length 1 lo J.length nx K2 w8 hH8 (pl_len HP2.out) S8.sz (by omega) HL2.out (by have h1 := totI_sz HP2.out; have h2 := HTot.out; omega)).mono ?_
    rintro e v1 ⟨⟨m, rfl, hm1⟩, -, hfr, hbl⟩
    have S9 := S8.keepB hbl
    have og9 := ownsRow_same og8 (fun k hk => hfr k (og8.lt k hk).2 (HAp.out k hk))
    have hbg9 : bg ≤ v1.heap.size := Nat.le_trans hbg8 hbl.size
    have q1 : ¬ ((m : Int) < 0) := by omega
    clear hm1 hfr hbl S8 og8 hH8 hX8 z0 z1 hbg8
    go_wp2_with fail
    refine (eqIntS_same _ _ _ _ _ Z v1 rfl (rdN_of og9) (rdN_of S9.rw) (by omega)).mono ?_
    rintro e v2 ⟨rfl, hb2⟩
    have S10 := S9.keep hb2
    have og10 := ownsRow_below og9 hb2
    have hbg10 : bg ≤ v2.heap.size := Nat.le_trans hbg9 hb2.size
    clear hb2 S9 og9 hbg9
    go_wp2_with fail
    refine (markIntS_row bg Z.length _ Z v2 og10 (by omega)).mono ?_
    rintro e v3 ⟨rfl, og11, hgr⟩
    have S11 := S10.keepB ((Below.refl lo v2).grown hgr S10.sz (fun k hk => Nat.le_trans hbg (og10.lt k hk).1))
    have hbg11 : bg ≤ v3.heap.size := Nat.le_trans hbg10 hgr.size
    clear hgr S10 og10 hbg10
    go_wp2_with fail
    refine (heldIntS_1 ag Z.length cg v3 (rdN_of og11) (by omega)).mono ?_
    rintro e v4 ⟨rfl, rfl⟩
    have q2 : ¬ (((1 + Z.length : Nat) : Int) < 0) := by omega
    have q3 : (((1 + Z.length : Nat) : Int) != ((1 + Z.length : Nat) : Int)) = false := by simp
    obtain ⟨x0, x1, -, -⟩ := box2_cell S11.box
    go_wp2_with fail
    refine (toStore_any a cap J nx v4 (HRD.out _ S11.bel) hn HL.out).mono ?_
    rintro e v5 ⟨K5, g5, rfl, hH5, hpl5, hb5⟩
    have HP5 := hide hpl5
    have S12 := S11.keep hb5
    have og12 := ownsRow_below og11 hb5
    clear hpl5 hb5 S11 og11 x0 x1
    go_wp2_with fail
    refine (implOfKind_any _ J.length J.length nx kind K5 v5 hH5.rd (pl_len HP5.out) (by omega)).mono ?_
    rw [HP5.out, HZ.out]
    rintro e v6 ⟨hg6, hb6⟩
    obtain ⟨ah, ch, rfl, oh⟩ := uni hg6
    have S13 := S12.keep hb6
    have og13 := ownsRow_below og12 hb6
    clear hg6 hb6 S12 og12 hH5
    go_wp2_with fail
    refine (eqIntS_same _ _ _ _ _ Z v6 rfl (rdN_of oh) (rdN_of S13.rw) (by omega)).mono ?_
    rintro e v7 ⟨rfl, hb7⟩
    have S14 := S13.keep hb7
    have og14 := ownsRow_below og13 hb7
    clear hb7 S13 og13 oh
    go_wp2_with fail
    refine (heldIntS_1 ag Z.length cg v7 (rdN_of og14) (by omega)).mono ?_
    rintro e v8 ⟨rfl, rfl⟩
    go_wp2
    go_ret
    exact ⟨rfl, S14.bel⟩

theorem own : ownKnob Try.prog.godebug = none := by kernel_rfl
theorem laidOut : laidOutB Try.prog = true := by kernel_rfl

set_option maxRecDepth 100000 in
theorem lifted (os : Os) (started : os.Started) (H : Type) (enc : TypeId × Value → H) :
    ReturnsInHanded {} Try.checked os 5 .any (Rows.fnExactOfKindSpec.pre6 enc Try.prog Try.f5 Rows.fnExactOfKindRow.domain false) (Rows.fnExactOfKindSpec.post enc Try.prog Try.f5 false true false false) := by
  refine returnsInHanded_of_change (C := Try.checked) own started (by kernel_rfl) Try.func5
    (ChangeSpec.witness6 (enc := enc) (C := Try.checked) false ⟨#[], #[.agg #[.slice none 0 0, .int .i64 0], .string ByteArray.empty], []⟩ 8 (by kernel_rfl) (by kernel_rfl) (by kernel_rfl) (by kernel_rfl)) ?_
  intro W base args ds gs before hval0 hW hcnd _
  have hval : ∀ (j : Nat) t v, Try.f5.params[j]? = some t → args[j]? = some v → Value.okWide Try.prog W .any base t v := hval0
  have hW' := hW
  obtain ⟨p, q, hA0, hV, rfl, hfz, hnd⟩ := hW
  have hA : DataW.TrodAll enc Try.prog W 0 (fun _ => true) true Try.f5.params.toList args.toList ds p := hA0
  rw [Try.params5] at hA hval
  obtain ⟨v0, vs0, d0, ds0, p0, q0, hargs, rfl, rfl, h0, r0⟩ := trodAll_cons hA
  obtain ⟨v1, vs1, d1, ds1, p1, q1, rfl, rfl, rfl, h1, r1⟩ := trodAll_cons r0
  obtain ⟨rfl, rfl, rfl⟩ := trodAll_nil r1
  obtain rfl : args = #[v0, v1] := by cases args; simp_all
  obtain ⟨rfl, rfl⟩ := trodVars_none hV
  have k0 := h0
  have lt0 : ∀ x ∈ p0, x.block < W.heap.size := by obtain ⟨m, hm⟩ := k0; exact DataW.trod_lt m _ _ _ hm
  obtain ⟨c0a, c0b, y0a, y0b, m0, rfl, _, _, hy0a, hy0b⟩ := open_agg2 Try.underlying24 (by kernel_rfl) (by kernel_rfl) (hval 0 24 v0 rfl rfl) h0
  obtain ⟨N0, eN0, _, _⟩ := DataW.trod_int Try.underlying3 hy0b
  simp only [List.cons.injEq, and_true] at eN0
  subst eN0
  obtain ⟨a0, len0, cap0, J0, rfl, w0⟩ := items_in hy0a
  obtain ⟨a1, rfl, rfl, rfl, w1⟩ := open_string Try.underlying9 (hval 1 9 v1 rfl rfl) h1
  clear hA0 hval0
  refine (walk a0 len0 cap0 J0 N0 a1 W w0 w1).mono fun e W' ⟨he, bel⟩ => ?_
  subst he
  exact ⟨_, rfl, _, _, _, [], _, [], hW', trodAll_mk1 (shut_bool Try.underlying4 _), (trodAll_cons_mk (Below.trod laidOut (by kernel_rfl) (of_decide_eq_true (by kernel_rfl)) k0 bel lt0) (trodAll_cons_mk (shut_string Try.underlying9 w1) trodAll_mk0)), rfl, bel.frame _, fun h => by cases h⟩

theorem over : Rows.fnExactOfKindRow.holds Try.pinned (OpenSpec.ofChange Rows.fnExactOfKindSpec) :=
  OpenClaim.holds_of_wide 5 Try.f5 rfl rfl rfl rfl rfl rfl rfl ⟨rfl, rfl, rfl, rfl, rfl⟩ rfl rfl rfl rfl rfl (by kernel_rfl) Try.func5 (by kernel_rfl)
    (of_decide_eq_true (by kernel_rfl)) (by unfold Func.isWrapper; first | (rw [if_pos (by decide +kernel)]; kernel_rfl) | (rw [if_neg (by decide +kernel)]; exact ⟨rfl, rfl⟩))
    (fun os started H enc _ => lifted os started H enc)
end Go.Proofs.Ytjiopefdfkjfkab.ExOfKind
namespace Go.Proofs.Ytjiopefdfkjfkab
theorem fnExactOfKind_holds : Rows.FnExactOfKindSaid := ExOfKind.over
#print axioms fnExactOfKind_holds
end Go.Proofs.Ytjiopefdfkjfkab
